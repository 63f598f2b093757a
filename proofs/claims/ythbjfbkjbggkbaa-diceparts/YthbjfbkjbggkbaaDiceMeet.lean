/-
  The contract of dice.Meet: what two boxes have in common.
-/
import Derived.Test.YthbjfbkjbggkbaaDiceWithin
import Derived.Test.YthbjfbkjbggkbaaDiceSame
namespace Go.Proofs.Ythbjfbkjbggkbaa.dice
open Go.ChangeShapes Go.WideShapes Go.ChangeAt Go.RowKit Go.Deep
open Go.Proofs.Ythbjfbkjbggkbaa.dims
set_option linter.unusedVariables false
set_option maxRecDepth 100000

/-- what Meet hands out: two lists, and whether there is anything -/
def MeetRes (w : World) (lo up fr un : List Int) (t : Value) (W : World) : Prop :=
  (∃ v1 v2, t = .tuple #[v1, v2, .bool (mt lo up fr un)] ∧ RowOut W v1 (mtL lo up fr un) ∧ RowOut W v2 (mtH lo up fr un)) ∧ Below w.heap.size w W

theorem MeetRes.none {w W : World} {lo up fr un : List Int} (h : mt lo up fr un = false) (hb : Below w.heap.size w W) : MeetRes w lo up fr un (.tuple #[.slice none 0 0, .slice none 0 0, .bool false]) W := by
  have e1 : mtL lo up fr un = [] := by unfold mtL; rw [h]; rfl
  have e2 : mtH lo up fr un = [] := by unfold mtH; rw [h]; rfl
  refine ⟨⟨_, _, by rw [h], ?_, ?_⟩, hb⟩
  · rw [e1]; exact RowOut.nil _
  · rw [e2]; exact RowOut.nil _

/-- the loop's world: k places are done -/
structure ML (w : World) (B1 B2 n : Nat) (lo up fr un : List Int) (k : Nat) (W : World) : Prop where
  bel : Below w.heap.size w W
  ne : B1 ≠ B2
  one : W.ownsRow w.heap.size 3 1 (.slice (some ⟨B1, 0, none⟩) n n) n (vals (mix k (mLo lo fr) lo))
  two : W.ownsRow w.heap.size 3 1 (.slice (some ⟨B2, 0, none⟩) n n) n (vals (mix k (mHi up un) up))
  ok : ∀ i, i < k → mtAt lo up fr un i = true

theorem own_set {W : World} {base B n c : Nat} {l : List Int} {k : Nat} {v : Int} (h : W.ownsRow base 3 1 (.slice (some ⟨B, 0, none⟩) n c) n (vals l)) : (W.setCell ⟨B, k, none⟩ (.int .i64 v)).ownsRow base 3 1 (.slice (some ⟨B, 0, none⟩) n c) n (vals (l.set k v)) := by
  have := (World.ownsRow.stored h k (.int .i64 v)).1
  rw [vals_set'] at this; exact this
theorem own_oth {W : World} {base B B' n c : Nat} {l : List Int} {k : Nat} {v : Value} (h : W.ownsRow base 3 1 (.slice (some ⟨B, 0, none⟩) n c) n (vals l)) (hne : B ≠ B') : (W.setCell ⟨B', k, none⟩ v).ownsRow base 3 1 (.slice (some ⟨B, 0, none⟩) n c) n (vals l) :=
  ownsRow_setCell_other h (by simp [Value.ownBlock]; exact hne) _
theorem own_base {W : World} {base B n c : Nat} {l : List Int} (h : W.ownsRow base 3 1 (.slice (some ⟨B, 0, none⟩) n c) n (vals l)) : base ≤ B ∧ B < W.heap.size := h.lt B rfl
theorem own_get {W : World} {base B n c : Nat} {l : List Int} (h : W.ownsRow base 3 1 (.slice (some ⟨B, 0, none⟩) n c) n (vals l)) {k : Nat} (hk : k < n) : W.cell? ⟨B, k, none⟩ = some (.int .i64 (nth l k)) ∧ W.frozen? ⟨B, k, none⟩ = false := by
  have e : l.length = n := (own_out h).2
  refine ⟨?_, World.ownsRow.frozenAt h k⟩
  rw [World.ownsRow.cellAt h k (by omega), vals_get (by omega)]

theorem drewN_own {W : World} {base : Nat} {e : TypeId} {size : Nat} {v : Value} {n : Nat} {xs : List Value} (h : W.ownsRow base e size v n xs) (nq : Nat) : (W.drewN nq).ownsRow base e size v n xs := h

theorem ML.first {w W : World} {B1 B2 n : Nat} {lo up fr un : List Int} {k : Nat} {x : Int} (h : ML w B1 B2 n lo up fr un k W) (hk : k < lo.length) (hx : maxI (nth lo k) (nth fr k) = x) :
    (W.setCell ⟨B1, k, none⟩ (.int .i64 x)).ownsRow w.heap.size 3 1 (.slice (some ⟨B1, 0, none⟩) n n) n (vals (mix (k + 1) (mLo lo fr) lo)) := by
  have := own_set (k := k) (v := x) h.one
  rw [← hx, ← mLo_nth _ _ hk, mix_set (mLo_len _ _) hk, mLo_nth _ _ hk, hx] at this
  exact this

set_option maxHeartbeats 8000000 in
theorem meet_any (a1 a2 a3 a4 : Option Addr) (n1 n2 n3 n4 c1 c2 c3 c4 : Nat) (lo up fr un : List Int) (w : World) (h1 : Ints w a1 lo) (e1 : lo.length = n1) (h2 : Ints w a2 up) (e2 : up.length = n2) (h3 : Ints w a3 fr) (e3 : fr.length = n3) (h4 : Ints w a4 un) (e4 : un.length = n4) (hm : n1 ≤ 100000) :
    Calls Try.prog 12 #[.slice a1 n1 c1, .slice a2 n2 c2, .slice a3 n3 c3, .slice a4 n4 c4] w fun e w' => ∃ t, e = .returned t ∧ MeetRes w lo up fr un t w' := by
  by_cases hl : n2 = n1 ∧ n3 = n1 ∧ n4 = n1
  · obtain ⟨hl2, hl3, hl4⟩ := hl
    subst hl2
    subst hl3
    subst hl4
    have H1 : Aside (Ints w a1 lo ∧ lo.length = n4) := ⟨h1, e1⟩
    have H2 : Aside (Ints w a2 up ∧ up.length = n4) := ⟨h2, e2⟩
    have H3 : Aside (Ints w a3 fr ∧ fr.length = n4) := ⟨h3, e3⟩
    have H4 : Aside (Ints w a4 un ∧ un.length = n4) := ⟨h4, e4⟩
    clear h1 h2 h3 h4 e1 e2 e3 e4
    go_enter Try.func12, Try.ntmps12
    go_wp2_with fail
    refine (three_long n4 w.heap.size a2 a3 a4 n4 n4 n4 c2 c3 c4 true _ (by simp [go_sem]) (by simp [go_sem]) (by simp [go_sem]) (decide_eq_true ⟨rfl, rfl, rfl⟩)).mono ?_
    rintro e w1 ⟨rfl, rfl⟩
    have B1 : Aside (Below w.heap.size w (w.alloc (.cells #[.slice a2 n4 c2, .slice a3 n4 c3, .slice a4 n4 c4] 26))) := (Below.refl _ _).alloc (Nat.le_refl _) _
    generalize w.alloc (.cells #[.slice a2 n4 c2, .slice a3 n4 c3, .slice a4 n4 c4] 26) = w1 at B1 ⊢
    go_wp2_with fail
    refine (dsame_any a1 n4 c1 lo w1 (H1.out.1.keep B1.out) H1.out.2 hm).mono ?_
    rintro e w2 ⟨rfl, ho2, hb2⟩
    have B2 : Aside (Below w.heap.size w w2) := B1.out.trans (hb2.mono B1.out.size)
    have O2 : Aside (w2.ownsRow w1.heap.size 3 1 (.slice (some ⟨w1.heap.size, 0, none⟩) n4 n4) n4 (vals lo)) := ho2
    clear ho2 hb2
    go_wp2_with fail
    refine (dsame_any a2 n4 c2 up w2 (H2.out.1.keep B2.out) H2.out.2 hm).mono ?_
    rintro e w3 ⟨rfl, ho3, hb3⟩
    have SL : Aside (ML w w1.heap.size w2.heap.size n4 lo up fr un 0 w3) := by
      have q := (own_base O2.out).2
      refine ⟨B2.out.trans (hb3.mono B2.out.size), by omega, ?_, ?_, fun i hi => by omega⟩
      · rw [mix_zero]; exact own_mono (own_below O2.out hb3) B1.out.size
      · rw [mix_zero]; exact own_mono ho3 B2.out.size
    clear ho3 hb3 O2 B2 B1
    generalize w1.heap.size = P1 at SL ⊢
    generalize w2.heap.size = P2 at SL ⊢
    go_wp2_with fail
    go_loopg [13, 28] n4 (fun g1 s vi wr => ∃ (k : Nat), vi = .int .i64 k ∧ k ≤ n4 ∧ n4 - k ≤ g1 ∧ Aside (ML w P1 P2 n4 lo up fr un k wr))
    case atStart => exact ⟨0, rfl, Nat.zero_le _, Nat.le_refl _, SL⟩
    case round =>
      clear SL
      obtain ⟨k, rfl, hk, hg1, SK⟩ := hrel
      by_cases hlt : k < n4
      · have hltz : (k : Int) < (n4 : Int) := by omega
        have hkl : k < lo.length := by rw [H1.out.2]; exact hlt
        obtain ⟨x, hx⟩ : ∃ x, nth lo k = x := ⟨_, rfl⟩
        obtain ⟨y, hy⟩ : ∃ x, nth up k = x := ⟨_, rfl⟩
        obtain ⟨u, hu⟩ : ∃ x, nth fr k = x := ⟨_, rfl⟩
        obtain ⟨v, hv⟩ : ∃ x, nth un k = x := ⟨_, rfl⟩
        obtain ⟨f1, q1⟩ := own_get SK.out.one hlt
        obtain ⟨f2, q2⟩ := own_get SK.out.two hlt
        rw [mix_nth (mLo_len _ _) hkl, if_neg (Nat.lt_irrefl _), hx] at f1
        rw [mix_nth (mHi_len _ _) (by rw [H2.out.2]; exact hlt), if_neg (Nat.lt_irrefl _), hy] at f2
        obtain ⟨b3, o3, ha3, hc3⟩ := (H3.out.1.keep SK.out.bel).get (k := k) (by rw [H3.out.2]; exact hlt)
        obtain ⟨b4, o4, ha4, hc4⟩ := (H4.out.1.keep SK.out.bel).get (k := k) (by rw [H4.out.2]; exact hlt)
        subst ha3
        subst ha4
        have r3 := hc3 k (by rw [H3.out.2]; exact hlt)
        have r4 := hc4 k (by rw [H4.out.2]; exact hlt)
        rw [hu] at r3
        rw [hv] at r4
        have l4 : b4 < w.heap.size := by
          obtain ⟨b5, o5, ha5, hc5⟩ := H4.out.1.get (k := k) (by rw [H4.out.2]; exact hlt)
          have := cell_lt (hc5 k (by rw [H4.out.2]; exact hlt))
          simp only [Option.some.injEq, Addr.mk.injEq, and_true] at ha5
          omega
        clear hc3 hc4
        have HM : Aside (∀ X Y, maxI x u = X → minI y v = Y → ∀ W, W = ((wr.setCell ⟨P1, k, none⟩ (.int .i64 X)).drew.setCell ⟨P2, k, none⟩ (.int .i64 Y)).drew →
            W.cell? ⟨P1, k, none⟩ = some (.int .i64 X) ∧ W.cell? ⟨P2, k, none⟩ = some (.int .i64 Y) ∧ Below w.heap.size w W ∧ (mtAt lo up fr un k = decide (X < Y)) ∧ (X < Y → ML w P1 P2 n4 lo up fr un (k + 1) W)) := by
          intro X Y hX hY W hW
          have K1 : (wr.setCell ⟨P1, k, none⟩ (.int .i64 X)).ownsRow w.heap.size 3 1 (.slice (some ⟨P1, 0, none⟩) n4 n4) n4 (vals (mix (k + 1) (mLo lo fr) lo)) := SK.out.first hkl (by rw [hx, hu]; exact hX)
          have hne := SK.out.ne
          have K2 : W.ownsRow w.heap.size 3 1 (.slice (some ⟨P1, 0, none⟩) n4 n4) n4 (vals (mix (k + 1) (mLo lo fr) lo)) := by
            rw [hW]; exact own_oth (W := (wr.setCell ⟨P1, k, none⟩ (.int .i64 X)).drew) K1 hne
          have K3 : W.ownsRow w.heap.size 3 1 (.slice (some ⟨P2, 0, none⟩) n4 n4) n4 (vals (mix (k + 1) (mHi up un) up)) := by
            have t1 : (wr.setCell ⟨P1, k, none⟩ (.int .i64 X)).drew.ownsRow w.heap.size 3 1 (.slice (some ⟨P2, 0, none⟩) n4 n4) n4 (vals (mix k (mHi up un) up)) := own_oth SK.out.two (fun e => hne e.symm)
            have t2 := own_set (k := k) (v := Y) t1
            have hk2 : k < up.length := by rw [H2.out.2]; exact hlt
            rw [← hY, ← hy, ← hv, ← mHi_nth _ _ hk2, mix_set (mHi_len _ _) hk2, mHi_nth _ _ hk2, hy, hv, hY] at t2
            rw [hW]; exact t2
          have hb1 := (own_base SK.out.one).1
          have hb2 := (own_base SK.out.two).1
          have KB : Below w.heap.size w W := by rw [hW]; exact (((SK.out.bel.setCell hb1 _).drew).setCell hb2 _).drew
          have g1 := (own_get K2 hlt).1
          have g2 := (own_get K3 hlt).1
          rw [mix_nth (mLo_len _ _) hkl, if_pos (by omega), mLo_nth _ _ hkl, hx, hu, hX] at g1
          rw [mix_nth (mHi_len _ _) (by rw [H2.out.2]; exact hlt), if_pos (by omega), mHi_nth _ _ (by rw [H2.out.2]; exact hlt), hy, hv, hY] at g2
          have hmt : mtAt lo up fr un k = decide (X < Y) := by unfold mtAt; rw [hx, hu, hy, hv, hX, hY]
          refine ⟨g1, g2, KB, hmt, fun hXY => ⟨KB, hne, K2, K3, fun i hi => ?_⟩⟩
          by_cases e : i = k
          · subst e; rw [hmt]; exact decide_eq_true hXY
          · exact SK.out.ok i (by omega)
        have hp := And.intro (own_base SK.out.one) (own_base SK.out.two)
        obtain ⟨⟨p1, p1'⟩, p2, p2'⟩ := hp
        have hne := SK.out.ne
        have f2' : ∀ X, (wr.setCell ⟨P1, k, none⟩ (.int .i64 X)).drew.cell? ⟨P2, k, none⟩ = some (.int .i64 y) := fun X => (World.cell?_setCell_other _ _ _ _ (by intro e; simp only [Addr.mk.injEq] at e; omega)).trans f2
        have q2' : ∀ X, (wr.setCell ⟨P1, k, none⟩ (.int .i64 X)).drew.frozen? ⟨P2, k, none⟩ = false := fun X => (World.frozen?_setCell _ _ _ _).trans q2
        have r4' : ∀ X, (wr.setCell ⟨P1, k, none⟩ (.int .i64 X)).drew.cell? ⟨b4, o4 + k, none⟩ = some (.int .i64 v) := fun X => (World.cell?_setCell_other _ _ _ _ (by intro e; simp only [Addr.mk.injEq] at e; omega)).trans r4
        have HB : Aside (Below w.heap.size w wr) := SK.out.bel
        have HX : ∃ X, Hid (maxI x u = X) ∧ (x < u ∧ X = u ∨ ¬ x < u ∧ X = x) := by
          by_cases g : x < u
          · exact ⟨u, by show _ = _; unfold maxI; rw [if_pos g], .inl ⟨g, rfl⟩⟩
          · exact ⟨x, by show _ = _; unfold maxI; rw [if_neg g], .inr ⟨g, rfl⟩⟩
        have HY : ∃ Y, Hid (minI y v = Y) ∧ (v < y ∧ Y = v ∨ ¬ v < y ∧ Y = y) := by
          by_cases g : v < y
          · exact ⟨v, by show _ = _; unfold minI; rw [if_pos g], .inl ⟨g, rfl⟩⟩
          · exact ⟨y, by show _ = _; unfold minI; rw [if_neg g], .inr ⟨g, rfl⟩⟩
        obtain ⟨X, hX, HX⟩ := HX
        obtain ⟨Y, hY, HY⟩ := HY
        have HMX := HM.out X Y hX.out hY.out
        have f2X := f2' X
        have q2X := q2' X
        have r4X := r4' X
        clear HM f2' q2' r4' SK hx hy hu hv f2 q2 r4
        have HML : Aside _ := HMX
        clear HMX
        rcases HX with ⟨gx, rfl⟩ | ⟨gx, rfl⟩
        all_goals
          go_wp2_with fail
          go_region
          clear f1 q1 r3 gx
          generalize (wr.setCell ⟨P1, k, none⟩ (.int .i64 X)).drew = W1 at f2X q2X r4X HML ⊢
          rcases HY with ⟨gy, rfl⟩ | ⟨gy, rfl⟩
          all_goals
            go_wp2_with fail
            go_region
            obtain ⟨s1, s2, s3, s4, s5⟩ := HML.out _ rfl
            have S3 : Aside _ := s3
            have S4 : Hid (mtAt lo up fr un k = decide (X < Y)) := s4
            have S5 : Aside (X < Y → ML w P1 P2 n4 lo up fr un (k + 1) (W1.setCell ⟨P2, k, none⟩ (.int .i64 Y)).drew) := s5
            clear f2X q2X r4X HML gy s3 s4 s5
            generalize (W1.setCell ⟨P2, k, none⟩ (.int .i64 Y)).drew = W2 at s1 s2 S3 S5 ⊢
            by_cases g : Y ≤ X
            · have d : decide (Y ≤ X) = true := decide_eq_true g
              have E : Hid (mt lo up fr un = false) := mt_at hkl (by rw [S4.out]; exact decide_eq_false (by omega))
              go_wp2_with fail
              go_quiet (fail)
              go_wp2
              go_ret3
              exact ⟨_, rfl, MeetRes.none E.out (below_drewN S3.out nq)⟩
            · have d : decide (Y ≤ X) = false := decide_eq_false g
              have S6 : Aside (∀ nq, ML w P1 P2 n4 lo up fr un (k + 1) (W2.drewN nq)) := fun nq => by
                have h := S5.out (by omega)
                exact ⟨below_drewN h.bel nq, h.ne, drewN_own h.one nq, drewN_own h.two nq, h.ok⟩
              go_wp2_with fail
              go_quiet (fail)
              have S7 : Aside _ := S6.out nq
              clear S6 S5 S3
              generalize W2.drewN nq = W3 at S7 ⊢
              go_wp2
              go_roundg (n4 - (k + 1))
              case measure => omega
              case rel => exact ⟨k + 1, by go_num, by omega, by omega, S7⟩
      · have hltz : ¬ (k : Int) < (n4 : Int) := by omega
        have hke : k = n4 := by omega
        have HR : Aside (MeetRes w lo up fr un (.tuple #[.slice (some ⟨P1, 0, none⟩) n4 n4, .slice (some ⟨P2, 0, none⟩) n4 n4, .bool true]) wr) := by
          have h := SK.out
          rw [hke] at h
          have hmt : mt lo up fr un = true := mt_true ⟨by rw [H1.out.2, H2.out.2], by rw [H1.out.2, H3.out.2], by rw [H1.out.2, H4.out.2]⟩ fun i hi => h.ok i (by rw [H1.out.2] at hi; exact hi)
          have t1 := h.one
          have t2 := h.two
          rw [mix_all (by rw [mLo_len, H1.out.2]) H1.out.2] at t1
          rw [mix_all (by rw [mHi_len, H2.out.2]) H2.out.2] at t2
          refine ⟨⟨_, _, by rw [hmt], ?_, ?_⟩, h.bel⟩
          · unfold mtL; rw [if_pos hmt]; exact (own_out t1).1
          · unfold mtH; rw [if_pos hmt]; exact (own_out t2).1
        clear hke SK
        go_wp2
        go_ret3
        exact ⟨_, rfl, HR.out⟩
  · have E : Hid (mt lo up fr un = false) := mt_len (by rw [e1, e2, e3, e4]; exact hl)
    clear h1 h2 h3 h4 e1 e2 e3 e4
    go_enter Try.func12, Try.ntmps12
    go_wp2_with fail
    refine (three_long n1 w.heap.size a2 a3 a4 n2 n3 n4 c2 c3 c4 false _ (by simp [go_sem]) (by simp [go_sem]) (by simp [go_sem]) (decide_eq_false hl)).mono ?_
    rintro e w1 ⟨rfl, rfl⟩
    go_wp2
    go_ret3
    exact ⟨_, rfl, MeetRes.none E.out ((Below.refl _ _).alloc (Nat.le_refl _) _)⟩
end Go.Proofs.Ythbjfbkjbggkbaa.dice
