/-
  The contract of dice.Meet: what two boxes have in common.
  The contract of the statements' own 'Box': a box of dimensions, as choices say.
  The contracts of dice.Sound and of the chapter's Sound: is it a box?
-/
import Derived.Test.YtgimknplckkiaaaDoorDiceAK
namespace Go.Proofs.YtgimknplckkiaaaDoor.dice
open Go.ChangeShapes Go.WideShapes Go.ChangeAt Go.RowKit Go.Deep
open Go.Proofs.YtgimknplckkiaaaDoor.dims
set_option linter.unusedVariables false
set_option maxRecDepth 100000

/-- what Meet hands out: two lists, and whether there is anything -/
def MeetRes (w : World) (lo up fr un : List Int) (t : Value) (W : World) : Prop :=
  (∃ v1 v2, t = .tuple #[v1, v2, .bool (mt lo up fr un)] ∧ RowOut W v1 (mtL lo up fr un) ∧ RowOut W v2 (mtH lo up fr un)) ∧ Below w.heap.size w W

theorem MeetRes.none {w W : World} {lo up fr un : List Int} (h : mt lo up fr un = false) (hb : Below w.heap.size w W) : MeetRes w lo up fr un (.tuple #[.slice none 0 0, .slice none 0 0, .bool false]) W := by
  have e1 : mtL lo up fr un = [] := by unfold mtL; rw [h]; rfl
  have e2 : mtH lo up fr un = [] := by unfold mtH; rw [h]; rfl
  refine ⟨⟨_, _, by rw [h], ?_, ?_⟩, hb⟩
  · rw [e1]; exact RowOut.nil _
  · rw [e2]; exact RowOut.nil _

/-- the loop's world: k places are done -/
structure ML (w : World) (B1 B2 n : Nat) (lo up fr un : List Int) (k : Nat) (W : World) : Prop where
  bel : Below w.heap.size w W
  ne : B1 ≠ B2
  one : W.ownsRow w.heap.size 3 1 (.slice (some ⟨B1, 0, none⟩) n n) n (vals (mix k (mLo lo fr) lo))
  two : W.ownsRow w.heap.size 3 1 (.slice (some ⟨B2, 0, none⟩) n n) n (vals (mix k (mHi up un) up))
  ok : ∀ i, i < k → mtAt lo up fr un i = true

theorem own_set {W : World} {base B n c : Nat} {l : List Int} {k : Nat} {v : Int} (h : W.ownsRow base 3 1 (.slice (some ⟨B, 0, none⟩) n c) n (vals l)) : (W.setCell ⟨B, k, none⟩ (.int .i64 v)).ownsRow base 3 1 (.slice (some ⟨B, 0, none⟩) n c) n (vals (l.set k v)) := by
  have := (World.ownsRow.stored h k (.int .i64 v)).1
  rw [vals_set'] at this; exact this
theorem own_oth {W : World} {base B B' n c : Nat} {l : List Int} {k : Nat} {v : Value} (h : W.ownsRow base 3 1 (.slice (some ⟨B, 0, none⟩) n c) n (vals l)) (hne : B ≠ B') : (W.setCell ⟨B', k, none⟩ v).ownsRow base 3 1 (.slice (some ⟨B, 0, none⟩) n c) n (vals l) :=
  ownsRow_setCell_other h (by simp [Value.ownBlock]; exact hne) _
theorem own_base {W : World} {base B n c : Nat} {l : List Int} (h : W.ownsRow base 3 1 (.slice (some ⟨B, 0, none⟩) n c) n (vals l)) : base ≤ B ∧ B < W.heap.size := h.lt B rfl
theorem own_get {W : World} {base B n c : Nat} {l : List Int} (h : W.ownsRow base 3 1 (.slice (some ⟨B, 0, none⟩) n c) n (vals l)) {k : Nat} (hk : k < n) : W.cell? ⟨B, k, none⟩ = some (.int .i64 (nth l k)) ∧ W.frozen? ⟨B, k, none⟩ = false := by
  have e : l.length = n := (own_out h).2
  refine ⟨?_, World.ownsRow.frozenAt h k⟩
  rw [World.ownsRow.cellAt h k (by omega), vals_get (by omega)]

theorem drewN_own {W : World} {base : Nat} {e : TypeId} {size : Nat} {v : Value} {n : Nat} {xs : List Value} (h : W.ownsRow base e size v n xs) (nq : Nat) : (W.drewN nq).ownsRow base e size v n xs := h

theorem ML.first {w W : World} {B1 B2 n : Nat} {lo up fr un : List Int} {k : Nat} {x : Int} (h : ML w B1 B2 n lo up fr un k W) (hk : k < lo.length) (hx : maxI (nth lo k) (nth fr k) = x) :
    (W.setCell ⟨B1, k, none⟩ (.int .i64 x)).ownsRow w.heap.size 3 1 (.slice (some ⟨B1, 0, none⟩) n n) n (vals (mix (k + 1) (mLo lo fr) lo)) := by
  have := own_set (k := k) (v := x) h.one
  rw [← hx, ← mLo_nth _ _ hk, mix_set (mLo_len _ _) hk, mLo_nth _ _ hk, hx] at this
  exact this

end Go.Proofs.YtgimknplckkiaaaDoor.dice

namespace Go.Proofs.YtgimknplckkiaaaDoor.dice
open Go.ChangeShapes Go.WideShapes Go.ChangeAt Go.RowKit Go.Deep
open Go.Proofs.YtgimknplckkiaaaDoor.dims
set_option linter.unusedVariables false
set_option maxRecDepth 100000

def bLo (A B : List Int) : List Int := (List.range A.length).map fun i => minI (nth A i) (nth B i)
def bHi (A B : List Int) : List Int := (List.range B.length).map fun i => maxI (nth A i) (nth B i) + 1
theorem bLo_len (A B : List Int) : (bLo A B).length = A.length := by simp [bLo]
theorem bHi_len (A B : List Int) : (bHi A B).length = B.length := by simp [bHi]
theorem bLo_nth (A B : List Int) {i : Nat} (hi : i < A.length) : nth (bLo A B) i = minI (nth A i) (nth B i) := by simp [bLo, nth, hi]
theorem bHi_nth (A B : List Int) {i : Nat} (hi : i < B.length) : nth (bHi A B) i = maxI (nth A i) (nth B i) + 1 := by simp [bHi, nth, hi]
/-- the box of two choices -/
def boxL (ds : List Dm) (ch dh : List Int) : List Int := bLo (keyL ds ch) (keyL ds dh)
def boxH (ds : List Dm) (ch dh : List Int) : List Int := bHi (keyL ds ch) (keyL ds dh)
theorem boxL_len (ds : List Dm) (ch dh : List Int) : (boxL ds ch dh).length = ds.length := by unfold boxL; rw [bLo_len, keyL_len]
theorem boxH_len (ds : List Dm) (ch dh : List Int) : (boxH ds ch dh).length = ds.length := by unfold boxH; rw [bHi_len, keyL_len]

/-- what Box hands out: two lists -/
def BoxRes (w : World) (L H : List Int) (t : Value) (W : World) : Prop :=
  (∃ v1 v2, t = .tuple #[v1, v2] ∧ RowOut W v1 L ∧ RowOut W v2 H) ∧ Below w.heap.size w W

/-- the loop's world: k places are done -/
structure BL (w : World) (P1 P2 n c1 c2 : Nat) (A B : List Int) (k : Nat) (W : World) : Prop where
  bel : Below w.heap.size w W
  ne : P1 ≠ P2
  one : W.ownsRow w.heap.size 3 1 (.slice (some ⟨P1, 0, none⟩) n c1) n (vals (mix k (bLo A B) A))
  two : W.ownsRow w.heap.size 3 1 (.slice (some ⟨P2, 0, none⟩) n c2) n (vals (mix k (bHi A B) B))

theorem BL.step {w W W1 W2 : World} {P1 P2 n c1 c2 : Nat} {A B : List Int} {k : Nat} {X Y : Int} (h : BL w P1 P2 n c1 c2 A B k W) (hA : k < A.length) (hB : k < B.length) (hX : minI (nth A k) (nth B k) = X) (hY : maxI (nth A k) (nth B k) + 1 = Y)
    (h1 : W1 = (W.drew.setCell ⟨P2, k, none⟩ (.int .i64 Y)).drew) (h2 : W2 = W1.setCell ⟨P1, k, none⟩ (.int .i64 X)) : BL w P1 P2 n c1 c2 A B (k + 1) W2 := by
  have p1 := (own_base h.one).1
  have p2 := (own_base h.two).1
  have t2 : W1.ownsRow w.heap.size 3 1 (.slice (some ⟨P2, 0, none⟩) n c2) n (vals (mix (k + 1) (bHi A B) B)) := by
    have t := own_set (W := W.drew) (k := k) (v := Y) h.two
    rw [← hY, ← bHi_nth _ _ hB, mix_set (bHi_len _ _) hB, bHi_nth _ _ hB, hY] at t
    rw [h1]; exact t
  have t1 : W1.ownsRow w.heap.size 3 1 (.slice (some ⟨P1, 0, none⟩) n c1) n (vals (mix k (bLo A B) A)) := by
    rw [h1]; exact own_oth (W := W.drew) h.one h.ne
  refine ⟨?_, h.ne, ?_, ?_⟩
  · rw [h2, h1]; exact (((h.bel.drew).setCell p2 _).drew).setCell p1 _
  · have t := own_set (k := k) (v := X) t1
    rw [← hX, ← bLo_nth _ _ hA, mix_set (bLo_len _ _) hA, bLo_nth _ _ hA, hX] at t
    rw [h2]; exact t
  · rw [h2]; exact own_oth t2 (fun e => h.ne e.symm)

set_option maxHeartbeats 8000000 in
theorem box_made (a aa ab : Option Addr) (n cap na ca nb cb : Nat) (ds : List Dm) (ch dh : List Int) (w : World) (hI : DimsIn w a ds) (hn : ds.length = n) (hn1 : 1 ≤ n) (hn4 : n ≤ 4) (hA : Nums .u16 w aa na ca ch) (hB : Nums .u16 w ab nb cb dh) (hs : ∀ i, i < n → 1 ≤ (dn ds i).sz ∧ (dn ds i).sz ≤ 10000) :
    Calls Tryd.prog 42 #[.slice a n cap, .slice aa na ca, .slice ab nb cb] w fun e w' => ∃ t, e = .returned t ∧ BoxRes w (boxL ds ch dh) (boxH ds ch dh) t w' := by
  have HI : Aside (DimsIn w a ds ∧ ds.length = n) := ⟨hI, hn⟩
  have HA : Aside (Nums .u16 w aa na ca ch) := hA
  have HB : Aside (Nums .u16 w ab nb cb dh) := hB
  have HS : Aside (∀ i, i < n → 1 ≤ (dn ds i).sz ∧ (dn ds i).sz ≤ 10000) := hs
  clear hI hn hA hB hs
  obtain ⟨A, hAA⟩ : ∃ A, keyL ds ch = A := ⟨_, rfl⟩
  obtain ⟨B, hBB⟩ : ∃ B, keyL ds dh = B := ⟨_, rfl⟩
  unfold boxL boxH
  rw [hAA, hBB]
  have HAB : Aside (keyL ds ch = A ∧ keyL ds dh = B) := ⟨hAA, hBB⟩
  clear hAA hBB
  go_enter Tryd.func42, Tryd.ntmps42
  go_wp2_with fail
  refine (key_any a aa n cap na ca ds ch w HI.out.1 HI.out.2 hn4 HA.out (fun i hi => (HS.out i hi).1)).mono ?_
  rintro e w1 ⟨v1, rfl, hr1⟩
  have B1 : Aside (Below w.heap.size w w1) := hr1.2
  have hl1 : (keyL ds ch).length = n := by rw [keyL_len, HI.out.2]
  have ho1 := hr1.1
  rw [hl1] at ho1
  obtain ⟨P1, c1, rfl⟩ : ∃ g c, v1 = .slice (some ⟨g, 0, none⟩) n c := by
    rcases ho1.2 with ⟨_, h0⟩ | ⟨g, c, cur, hv, _⟩
    · omega
    · exact ⟨g, c, hv⟩
  have O1 : Aside (w1.ownsRow w.heap.size 3 1 (.slice (some ⟨P1, 0, none⟩) n c1) n (vals (keyL ds ch))) := ho1
  clear hr1 ho1 hl1
  go_wp2_with fail
  refine (key_any a ab n cap nb cb ds dh w1 (HI.out.1.keep B1.out) HI.out.2 hn4 (HB.out.keep B1.out) (fun i hi => (HS.out i hi).1)).mono ?_
  rintro e w2 ⟨v2, rfl, hr2⟩
  have hl2 : (keyL ds dh).length = n := by rw [keyL_len, HI.out.2]
  have ho2 := hr2.1
  rw [hl2] at ho2
  obtain ⟨P2, c2, rfl⟩ : ∃ g c, v2 = .slice (some ⟨g, 0, none⟩) n c := by
    rcases ho2.2 with ⟨_, h0⟩ | ⟨g, c, cur, hv, _⟩
    · omega
    · exact ⟨g, c, hv⟩
  have HV : Aside ((∀ i, i < n → 0 ≤ nth (keyL ds ch) i ∧ nth (keyL ds ch) i ≤ 10000) ∧ (∀ i, i < n → 0 ≤ nth (keyL ds dh) i ∧ nth (keyL ds dh) i ≤ 10000) ∧ (keyL ds ch).length = n ∧ (keyL ds dh).length = n) := by
    have key : ∀ (c : List Int) i, i < n → 0 ≤ nth (keyL ds c) i ∧ nth (keyL ds c) i ≤ 10000 := fun c i hi => by
      rw [keyL_nth _ _ (by rw [HI.out.2]; exact hi)]
      unfold keyV
      obtain ⟨g1, g2⟩ := HS.out i hi
      have h2 := Int.emod_nonneg (nth c i) (by omega : (dn ds i).sz ≠ 0)
      have h3 := Int.emod_lt_of_pos (nth c i) (by omega : 0 < (dn ds i).sz)
      exact ⟨h2, by omega⟩
    exact ⟨key ch, key dh, by rw [keyL_len, HI.out.2], hl2⟩
  have SL : Aside (BL w P1 P2 n c1 c2 (keyL ds ch) (keyL ds dh) 0 w2) := by
    have q := own_base O1.out
    have q2 := own_base ho2
    refine ⟨B1.out.trans (hr2.2.mono B1.out.size), by omega, ?_, ?_⟩
    · rw [mix_zero]; exact own_below O1.out hr2.2
    · rw [mix_zero]; exact own_mono ho2 B1.out.size
  clear hr2 ho2 O1 B1 hl2
  rw [HAB.out.1, HAB.out.2] at SL HV
  go_wp2_with fail
  go_loopg [10, 11] n (fun g1 vi s wr => ∃ (k : Nat), vi = .int .i64 k ∧ k ≤ n ∧ n - k ≤ g1 ∧ Aside (BL w P1 P2 n c1 c2 A B k wr))
  case atStart => exact ⟨0, rfl, Nat.zero_le _, Nat.le_refl _, SL⟩
  case round =>
    clear SL
    obtain ⟨k, rfl, hk, hg1, SK⟩ := hrel
    by_cases hlt : k < n
    · have hltz : (k : Int) < (n : Int) := by omega
      have hkA : k < A.length := by rw [HV.out.2.2.1]; exact hlt
      have hkB : k < B.length := by rw [HV.out.2.2.2]; exact hlt
      obtain ⟨f1, q1⟩ := own_get SK.out.one hlt
      obtain ⟨f2, q2⟩ := own_get SK.out.two hlt
      rw [mix_nth (bLo_len _ _) hkA, if_neg (Nat.lt_irrefl _)] at f1
      rw [mix_nth (bHi_len _ _) hkB, if_neg (Nat.lt_irrefl _)] at f2
      obtain ⟨x0, x9⟩ := HV.out.1 k hlt
      obtain ⟨y0, y9⟩ := HV.out.2.1 k hlt
      obtain ⟨x, hx⟩ : ∃ x, nth A k = x := ⟨_, rfl⟩
      obtain ⟨y, hy⟩ : ∃ y, nth B k = y := ⟨_, rfl⟩
      rw [hx] at f1 x0 x9
      rw [hy] at f2 y0 y9
      have hne := SK.out.ne
      have HM : Aside (∀ X Y, minI x y = X → maxI x y + 1 = Y → BL w P1 P2 n c1 c2 A B (k + 1) ((wr.drew.setCell ⟨P2, k, none⟩ (.int .i64 Y)).drew.setCell ⟨P1, k, none⟩ (.int .i64 X))) := fun X Y h1 h2 => SK.out.step hkA hkB (by rw [hx, hy]; exact h1) (by rw [hx, hy]; exact h2) rfl rfl
      have f1' : ∀ Y, (wr.drew.setCell ⟨P2, k, none⟩ (.int .i64 Y)).drew.cell? ⟨P1, k, none⟩ = some (.int .i64 x) := fun Y => (World.cell?_setCell_other _ _ _ _ (by intro e; simp only [Addr.mk.injEq] at e; omega)).trans f1
      have q1' : ∀ Y, (wr.drew.setCell ⟨P2, k, none⟩ (.int .i64 Y)).drew.frozen? ⟨P1, k, none⟩ = false := fun Y => (World.frozen?_setCell _ _ _ _).trans q1
      clear hx hy SK
      have HC : ∃ X Y, Hid (minI x y = X ∧ maxI x y + 1 = Y) ∧ (x < y ∧ ¬ y < x ∧ X = x ∧ y + 1 = Y ∨ ¬ x < y ∧ y < x ∧ X = y ∧ x + 1 = Y ∨ ¬ x < y ∧ ¬ y < x ∧ X = x ∧ x + 1 = Y) := by
        unfold minI maxI
        by_cases g : x < y
        · exact ⟨x, y + 1, by show _ ∧ _; rw [if_pos g, if_neg (by omega)]; exact ⟨rfl, rfl⟩, .inl ⟨g, by omega, rfl, rfl⟩⟩
        · by_cases g2 : y < x
          · exact ⟨y, x + 1, by show _ ∧ _; rw [if_neg g, if_pos g2]; exact ⟨rfl, rfl⟩, .inr (.inl ⟨g, g2, rfl, rfl⟩)⟩
          · exact ⟨x, x + 1, by show _ ∧ _; rw [if_neg g, if_neg g2]; exact ⟨rfl, rfl⟩, .inr (.inr ⟨g, g2, rfl, rfl⟩)⟩
      obtain ⟨X, Y, hXY, HC⟩ := HC
      have HS3 : Aside _ := HM.out X Y hXY.out.1 hXY.out.2
      have f1Y := f1' Y
      have q1Y := q1' Y
      clear HM f1' q1' hXY
      rcases HC with ⟨gx, gy, rfl, hY⟩ | ⟨gx, gy, rfl, hY⟩ | ⟨gx, gy, rfl, hY⟩
      all_goals
        go_wp2_with fail
        go_region
        have f1d : wr.drew.cell? ⟨P1, k, none⟩ = _ := f1
        have f2d : wr.drew.cell? ⟨P2, k, none⟩ = _ := f2
        have q2d : wr.drew.frozen? ⟨P2, k, none⟩ = _ := q2
        clear f1 q1 f2 q2
        generalize wr.drew = W0 at f1d f2d q2d f1Y q1Y HS3 ⊢
        go_wp2_with fail
        go_region
        clear f1d f2d q2d gx gy
        generalize (W0.setCell ⟨P2, k, none⟩ (.int .i64 Y)).drew = W1 at f1Y q1Y HS3 ⊢
        go_wp2_with fail
        generalize W1.setCell ⟨P1, k, none⟩ (.int .i64 X) = W2 at HS3 ⊢
        go_wp2
        go_roundg (n - (k + 1))
        case measure => omega
        case rel => exact ⟨k + 1, by go_num, by omega, by omega, HS3⟩
    · have hltz : ¬ (k : Int) < (n : Int) := by omega
      have hke : k = n := by omega
      have HR : Aside (BoxRes w (bLo A B) (bHi A B) (.tuple #[.slice (some ⟨P1, 0, none⟩) n c1, .slice (some ⟨P2, 0, none⟩) n c2]) wr) := by
        have h := SK.out
        rw [hke] at h
        have t1 := h.one
        have t2 := h.two
        rw [mix_all (by rw [bLo_len, HV.out.2.2.1]) HV.out.2.2.1] at t1
        rw [mix_all (by rw [bHi_len, HV.out.2.2.2]) HV.out.2.2.2] at t2
        exact ⟨⟨_, _, rfl, (own_out t1).1, (own_out t2).1⟩, h.bel⟩
      clear hke SK
      go_wp2
      go_ret2
      exact ⟨_, rfl, HR.out⟩
end Go.Proofs.YtgimknplckkiaaaDoor.dice

namespace Go.Proofs.YtgimknplckkiaaaDoor.dice
open Go.ChangeShapes Go.WideShapes Go.ChangeAt Go.RowKit Go.Deep
open Go.Proofs.YtgimknplckkiaaaDoor.dims
set_option linter.unusedVariables false
set_option maxRecDepth 100000

set_option maxHeartbeats 4000000 in
theorem box_any (a a1 a2 : Option Addr) (n cap n1 n2 c1 c2 : Nat) (ds : List Dm) (lo up : List Int) (w : World) (hI : DimsIn w a ds) (hn : ds.length = n) (h1 : Ints w a1 lo) (e1 : lo.length = n1) (h2 : Ints w a2 up) (e2 : up.length = n2) (hm : n ≤ 9223372036854775807) :
    Calls Tryd.prog 34 #[.slice a n cap, .slice a1 n1 c1, .slice a2 n2 c2] w fun e w' => e = .returned (.bool (bx ds lo up)) ∧ Below w.heap.size w w' := by
  by_cases hl : n1 = n ∧ n2 = n
  · obtain ⟨hl1, hl2⟩ := hl
    subst hl1
    subst hl2
    have HI : Aside (DimsIn w a ds ∧ ds.length = n2) := ⟨hI, hn⟩
    have H1 : Aside (Ints w a1 lo ∧ lo.length = n2) := ⟨h1, e1⟩
    have H2 : Aside (Ints w a2 up ∧ up.length = n2) := ⟨h2, e2⟩
    clear hI hn h1 h2 e1 e2
    go_enter Tryd.func34, Tryd.ntmps34
    go_wp2_with fail
    refine (two_long n2 w.heap.size a1 a2 n2 n2 c1 c2 true _ (by simp [go_sem]) (by simp [go_sem]) (decide_eq_true ⟨rfl, rfl⟩)).mono ?_
    rintro e w1 ⟨rfl, rfl⟩
    have HB : Aside (Below w.heap.size w (w.alloc (.cells #[.slice a1 n2 c1, .slice a2 n2 c2] 24))) := (Below.refl _ _).alloc (Nat.le_refl _) _
    generalize w.alloc (.cells #[.slice a1 n2 c1, .slice a2 n2 c2] 24) = w1 at HB ⊢
    go_wp2_with fail
    go_loopg [7, 8, 18] n2 (fun g1 s t vi wr => ∃ (k : Nat), vi = .int .i64 k ∧ k ≤ n2 ∧ n2 - k ≤ g1 ∧ Aside (Below w.heap.size w wr ∧ ∀ i, i < k → bxAt ds lo up i = true))
    case atStart => exact ⟨0, rfl, Nat.zero_le _, Nat.le_refl _, HB.out, fun i hi => by omega⟩
    case round =>
      obtain ⟨k, rfl, hk, hg1, SK⟩ := hrel
      by_cases hlt : k < n2
      · have hltz : (k : Int) < (n2 : Int) := by omega
        have hkd : k < ds.length := by rw [HI.out.2]; exact hlt
        obtain ⟨b, off, ha, hc⟩ := (HI.out.1.keep SK.out.1).get (k := k) hkd
        obtain ⟨b1, o1, ha1, hc1⟩ := (H1.out.1.keep SK.out.1).get (k := k) (by rw [H1.out.2]; exact hlt)
        obtain ⟨b2, o2, ha2, hc2⟩ := (H2.out.1.keep SK.out.1).get (k := k) (by rw [H2.out.2]; exact hlt)
        subst ha
        subst ha1
        subst ha2
        obtain ⟨r0, rr, -, -⟩ := hc k hkd
        have r1 := hc1 k (by rw [H1.out.2]; exact hlt)
        have r2 := hc2 k (by rw [H2.out.2]; exact hlt)
        have l1 := cell_lt r1
        have l2 := cell_lt r2
        clear hc hc1 hc2
        obtain ⟨x, hx⟩ : ∃ x, nth lo k = x := ⟨_, rfl⟩
        obtain ⟨y, hy⟩ : ∃ x, nth up k = x := ⟨_, rfl⟩
        obtain ⟨s, hs⟩ : ∃ s, (dn ds k).sz = s := ⟨_, rfl⟩
        rw [hx] at r1
        rw [hy] at r2
        rw [hs] at r0
        have HX : Hid (bxAt ds lo up k = (decide (0 ≤ x) && (decide (x ≤ y) && decide (y ≤ s)))) := by show _ = _; unfold bxAt; rw [hx, hy, hs]
        clear hx hy hs
        generalize (dn ds k).a = t2 at rr
        generalize (dn ds k).l.length = t3 at rr
        generalize (dn ds k).cap = t4 at rr
        have SW : Aside (Below w.heap.size w (wr.alloc (.cells #[.int .i64 s, .slice t2 t3 t4] 57))) := SK.out.1.alloc SK.out.1.size _
        by_cases gd1 : x < 0
        · have E : Hid (bx ds lo up = false) := bx_at hkd (by rw [HX.out]; simp; omega)
          have d1 : decide (x < 0) = true := decide_eq_true gd1
          go_wp2_with fail
          go_quiet (fail)
          go_wp2
          go_ret
          exact ⟨ret_bool E.out.symm, below_drewN SW.out nq⟩
        have d1 : decide (x < 0) = false := decide_eq_false gd1
        by_cases gd2 : y < x
        · have E : Hid (bx ds lo up = false) := bx_at hkd (by rw [HX.out]; simp; omega)
          have d2 : decide (y < x) = true := decide_eq_true gd2
          go_wp2_with fail
          go_quiet (fail)
          go_wp2
          go_ret
          exact ⟨ret_bool E.out.symm, below_drewN SW.out nq⟩
        have d2 : decide (y < x) = false := decide_eq_false gd2
        by_cases gd3 : s < y
        · have E : Hid (bx ds lo up = false) := bx_at hkd (by rw [HX.out]; simp; omega)
          have d3 : decide (s < y) = true := decide_eq_true gd3
          go_wp2_with fail
          go_quiet (fail)
          go_wp2
          go_ret
          exact ⟨ret_bool E.out.symm, below_drewN SW.out nq⟩
        have d3 : decide (s < y) = false := decide_eq_false gd3
        have S2 : Aside (∀ i, i < k + 1 → bxAt ds lo up i = true) := fun i hi => by
          by_cases e : i = k
          · subst e; rw [HX.out]; simp; omega
          · exact SK.out.2 i (by omega)
        go_wp2_with fail
        go_quiet (fail)
        have SB : Aside _ := below_drewN SW.out nq
        go_wp2
        go_roundg (n2 - (k + 1))
        case measure => omega
        case rel => exact ⟨k + 1, by go_num, by omega, by omega, SB.out, S2.out⟩
      · have hltz : ¬ (k : Int) < (n2 : Int) := by omega
        have E : Hid (bx ds lo up = true) := bx_true (by rw [H1.out.2, HI.out.2]) (by rw [H2.out.2, HI.out.2]) fun i hi => SK.out.2 i (by have := HI.out.2; omega)
        go_wp2
        go_ret
        exact ⟨ret_bool E.out.symm, SK.out.1⟩
  · have E : Hid (bx ds lo up = false) := bx_len (by rw [e1, e2, hn]; exact hl)
    clear hI hn h1 h2 e1 e2
    go_enter Tryd.func34, Tryd.ntmps34
    go_wp2_with fail
    refine (two_long n w.heap.size a1 a2 n1 n2 c1 c2 false _ (by simp [go_sem]) (by simp [go_sem]) (decide_eq_false hl)).mono ?_
    rintro e w1 ⟨rfl, rfl⟩
    go_wp2
    go_ret
    exact ⟨ret_bool E.out.symm, (Below.refl _ _).alloc (Nat.le_refl _) _⟩

theorem box_val (a a1 a2 : Option Addr) (n cap n1 n2 c1 c2 : Nat) (ds : List Dm) (lo up : List Int) (r : Bool) (w : World) (hI : DimsIn w a ds) (hn : ds.length = n) (h1 : Ints w a1 lo) (e1 : lo.length = n1) (h2 : Ints w a2 up) (e2 : up.length = n2) (hm : n ≤ 9223372036854775807) (hr : bx ds lo up = r) :
    Calls Tryd.prog 34 #[.slice a n cap, .slice a1 n1 c1, .slice a2 n2 c2] w fun e w' => e = .returned (.bool r) ∧ Below w.heap.size w w' := by
  rw [← hr]; exact box_any a a1 a2 n cap n1 n2 c1 c2 ds lo up w hI hn h1 e1 h2 e2 hm

set_option maxHeartbeats 4000000 in
theorem refBox_any (a a1 a2 : Option Addr) (n cap n1 n2 c1 c2 : Nat) (ds : List Dm) (lo up : List Int) (w : World) (hI : DimsIn w a ds) (hn : ds.length = n) (h1 : Ints w a1 lo) (e1 : lo.length = n1) (h2 : Ints w a2 up) (e2 : up.length = n2) (hm : n ≤ 9223372036854775807) :
    Calls Tryd.prog 37 #[.slice a n cap, .slice a1 n1 c1, .slice a2 n2 c2] w fun e w' => e = .returned (.bool (bx ds lo up)) ∧ Below w.heap.size w w' := by
  by_cases hl : n1 = n ∧ n2 = n
  · obtain ⟨hl1, hl2⟩ := hl
    subst hl1
    subst hl2
    have HI : Aside (DimsIn w a ds ∧ ds.length = n2) := ⟨hI, hn⟩
    have H1 : Aside (Ints w a1 lo ∧ lo.length = n2) := ⟨h1, e1⟩
    have H2 : Aside (Ints w a2 up ∧ up.length = n2) := ⟨h2, e2⟩
    clear hI hn h1 h2 e1 e2
    have b12 : ((n2 : Int) == (n2 : Int)) = true := by simp
    go_enter Tryd.func37, Tryd.ntmps37
    go_wp2_with fail
    go_loopg [7] n2 (fun g1 vi wr => ∃ (k : Nat), vi = .int .i64 k ∧ k ≤ n2 ∧ n2 - k ≤ g1 ∧ Aside (Below w.heap.size w wr ∧ ∀ i, i < k → bxAt ds lo up i = true))
    case atStart => exact ⟨0, rfl, Nat.zero_le _, Nat.le_refl _, Below.refl _ _, fun i hi => by omega⟩
    case round =>
      obtain ⟨k, rfl, hk, hg1, SK⟩ := hrel
      by_cases hlt : k < n2
      · have hltz : (k : Int) < (n2 : Int) := by omega
        have hkd : k < ds.length := by rw [HI.out.2]; exact hlt
        obtain ⟨b, off, ha, hc⟩ := (HI.out.1.keep SK.out.1).get (k := k) hkd
        obtain ⟨b1, o1, ha1, hc1⟩ := (H1.out.1.keep SK.out.1).get (k := k) (by rw [H1.out.2]; exact hlt)
        obtain ⟨b2, o2, ha2, hc2⟩ := (H2.out.1.keep SK.out.1).get (k := k) (by rw [H2.out.2]; exact hlt)
        subst ha
        subst ha1
        subst ha2
        obtain ⟨r0, rr, -, -⟩ := hc k hkd
        have r1 := hc1 k (by rw [H1.out.2]; exact hlt)
        have r2 := hc2 k (by rw [H2.out.2]; exact hlt)
        have l1 := cell_lt r1
        have l2 := cell_lt r2
        clear hc hc1 hc2
        obtain ⟨x, hx⟩ : ∃ x, nth lo k = x := ⟨_, rfl⟩
        obtain ⟨y, hy⟩ : ∃ x, nth up k = x := ⟨_, rfl⟩
        obtain ⟨s, hs⟩ : ∃ s, (dn ds k).sz = s := ⟨_, rfl⟩
        rw [hx] at r1
        rw [hy] at r2
        rw [hs] at r0
        have HX : Hid (bxAt ds lo up k = (decide (0 ≤ x) && (decide (x ≤ y) && decide (y ≤ s)))) := by show _ = _; unfold bxAt; rw [hx, hy, hs]
        clear hx hy hs
        clear rr
        by_cases gd1 : x < 0
        · have E : Hid (bx ds lo up = false) := bx_at hkd (by rw [HX.out]; simp; omega)
          have d1 : decide (x < 0) = true := decide_eq_true gd1
          go_wp2_with fail
          go_quiet (fail)
          go_wp2
          go_ret
          exact ⟨ret_bool E.out.symm, below_drewN SK.out.1 nq⟩
        have d1 : decide (x < 0) = false := decide_eq_false gd1
        by_cases gd2 : y < x
        · have E : Hid (bx ds lo up = false) := bx_at hkd (by rw [HX.out]; simp; omega)
          have d2 : decide (y < x) = true := decide_eq_true gd2
          go_wp2_with fail
          go_quiet (fail)
          go_wp2
          go_ret
          exact ⟨ret_bool E.out.symm, below_drewN SK.out.1 nq⟩
        have d2 : decide (y < x) = false := decide_eq_false gd2
        by_cases gd3 : s < y
        · have E : Hid (bx ds lo up = false) := bx_at hkd (by rw [HX.out]; simp; omega)
          have d3 : decide (s < y) = true := decide_eq_true gd3
          go_wp2_with fail
          go_quiet (fail)
          go_wp2
          go_ret
          exact ⟨ret_bool E.out.symm, below_drewN SK.out.1 nq⟩
        have d3 : decide (s < y) = false := decide_eq_false gd3
        have S2 : Aside (∀ i, i < k + 1 → bxAt ds lo up i = true) := fun i hi => by
          by_cases e : i = k
          · subst e; rw [HX.out]; simp; omega
          · exact SK.out.2 i (by omega)
        go_wp2_with fail
        go_quiet (fail)
        have SB : Aside _ := below_drewN SK.out.1 nq
        go_wp2
        go_roundg (n2 - (k + 1))
        case measure => omega
        case rel => exact ⟨k + 1, by go_num, by omega, by omega, SB.out, S2.out⟩
      · have hltz : ¬ (k : Int) < (n2 : Int) := by omega
        have E : Hid (bx ds lo up = true) := bx_true (by rw [H1.out.2, HI.out.2]) (by rw [H2.out.2, HI.out.2]) fun i hi => SK.out.2 i (by have := HI.out.2; omega)
        go_wp2
        go_ret
        exact ⟨ret_bool E.out.symm, SK.out.1⟩
  · have E : Hid (bx ds lo up = false) := bx_len (by rw [e1, e2, hn]; exact hl)
    clear hI hn h1 h2 e1 e2
    by_cases g1 : n1 = n
    · subst g1
      have b2 : ((n2 : Int) == (n1 : Int)) = false := by
        have : ¬ n2 = n1 := fun e => hl ⟨rfl, e⟩
        simp; omega
      clear hl
      go_enter Tryd.func37, Tryd.ntmps37
      go_wp2
      go_ret
      exact ⟨ret_bool E.out.symm, Below.refl _ _⟩
    · have b1 : ((n1 : Int) == (n : Int)) = false := by simp; omega
      clear g1 hl
      go_enter Tryd.func37, Tryd.ntmps37
      go_wp2
      go_ret
      exact ⟨ret_bool E.out.symm, Below.refl _ _⟩

theorem refBox_val (a a1 a2 : Option Addr) (n cap n1 n2 c1 c2 : Nat) (ds : List Dm) (lo up : List Int) (r : Bool) (w : World) (hI : DimsIn w a ds) (hn : ds.length = n) (h1 : Ints w a1 lo) (e1 : lo.length = n1) (h2 : Ints w a2 up) (e2 : up.length = n2) (hm : n ≤ 9223372036854775807) (hr : bx ds lo up = r) :
    Calls Tryd.prog 37 #[.slice a n cap, .slice a1 n1 c1, .slice a2 n2 c2] w fun e w' => e = .returned (.bool r) ∧ Below w.heap.size w w' := by
  rw [← hr]; exact refBox_any a a1 a2 n cap n1 n2 c1 c2 ds lo up w hI hn h1 e1 h2 e2 hm
end Go.Proofs.YtgimknplckkiaaaDoor.dice
