/-
  The contracts of the statements' own 'Ask' and 'with': a query that choices make; a list with another first place.
-/
import Derived.Test.YtgimknplckkiaaaDoorQueryCheck
import Derived.Test.YtgimknplckkiaaaDoorTableWork
import Derived.Test.YtgimknplckkiaaaDoorDiceEK
namespace Go.Proofs.YtgimknplckkiaaaDoor.query
open Go.ChangeShapes Go.WideShapes Go.ChangeAt Go.RowKit Go.Deep
open Go.Proofs.YtgimknplckkiaaaDoor.dims
open Go.Proofs.YtgimknplckkiaaaDoor.table
open Go.Proofs.YtgimknplckkiaaaDoor.dice (wtn bx cutR box_out box_at boxL boxH boxL_len boxH_len own_oth ints_news PairOut)
open Go.Proofs.YtgimknplckkiaaaDoor.cell (C4 In64)
set_option linter.unusedVariables false
set_option maxRecDepth 100000

theorem ints_oth {W : World} {p : Option Addr} {l : List Int} {B j : Nat} {a : Option Addr} {n c : Nat} (v : Value) (h : Ints W p l) (hx : W.cell? ⟨B, j, none⟩ = some (.slice a n c)) : Ints (W.setCell ⟨B, j, none⟩ v) p l := by
  rcases h with h | ⟨b, off, ha, hc⟩
  · exact .inl h
  · refine .inr ⟨b, off, ha, fun i hi => ?_⟩
    have h1 := hc i hi
    rw [World.cell?_setCell_other _ _ _ _ (by intro e; rw [e] at hx; rw [hx] at h1; cases h1)]
    exact h1
theorem ints_under {W1 W W' : World} {p : Option Addr} {l : List Int} {base : Nat} (h1 : Ints W1 p l) (h : Ints W p l) (hs : W1.heap.size ≤ base) (hb : Below base W W') : Ints W' p l := by
  by_cases h0 : l = []
  · exact .inl h0
  · have hl : 0 < l.length := List.length_pos_iff.2 h0
    obtain ⟨b, off, ha, hc⟩ := h.get (k := 0) hl
    obtain ⟨b1, off1, ha1, hc1⟩ := h1.get (k := 0) hl
    rw [ha] at ha1
    simp only [Option.some.injEq, Addr.mk.injEq, and_true] at ha1
    obtain ⟨rfl, rfl⟩ := ha1
    refine .inr ⟨b, off, ha, fun i hi => ?_⟩
    have h3 := cell_lt (hc1 i hi)
    exact (hb.cell (p := ⟨b, off + i, none⟩) (Nat.lt_of_lt_of_le h3 hs)).trans (hc i hi)

/-- a query that choices make -/
structure AskQ (w : World) (base : Nat) (ds : List Dm) (n : Nat) (gL : Nat) (p1 p2 : Option Addr) (qL q1 q2 : Nat) (L lo hi : List Int) (W : World) : Prop where
  own : W.ownsRow base 3 1 (.slice (some ⟨gL, 0, none⟩) n qL) n (vals L)
  bas : w.heap.size ≤ base
  siz : base ≤ W.heap.size
  lo_ : ∀ W', Below base W W' → Ints W' p1 lo
  hi_ : ∀ W', Below base W W' → Ints W' p2 hi
  c1 : n ≤ q1
  c2 : n ≤ q2
  bel : Below w.heap.size w W
theorem AskQ.keep {w : World} {base : Nat} {ds : List Dm} {n gL : Nat} {p1 p2 : Option Addr} {qL q1 q2 : Nat} {L lo hi : List Int} {W W1 : World} (h : AskQ w base ds n gL p1 p2 qL q1 q2 L lo hi W) (hb : Below W.heap.size W W1) : AskQ w base ds n gL p1 p2 qL q1 q2 L lo hi W1 :=
  ⟨own_below h.own hb, h.bas, Nat.le_trans h.siz hb.size, fun W' h2 => h.lo_ W' ((hb.mono h.siz).trans h2), fun W' h2 => h.hi_ W' ((hb.mono h.siz).trans h2), h.c1, h.c2, h.bel.trans (hb.mono h.bel.size)⟩
theorem AskQ.lev {w : World} {base : Nat} {ds : List Dm} {n gL : Nat} {p1 p2 : Option Addr} {qL q1 q2 : Nat} {L lo hi : List Int} {W : World} (h : AskQ w base ds n gL p1 p2 qL q1 q2 L lo hi W) : Ints W (some ⟨gL, 0, none⟩) L := by
  obtain ⟨a', c', e', hI', -⟩ := (own_out h.own).1
  simp only [Value.slice.injEq] at e'
  rw [e'.1]; exact hI'
theorem AskQ.low {w : World} {base : Nat} {ds : List Dm} {n gL : Nat} {p1 p2 : Option Addr} {qL q1 q2 : Nat} {L lo hi : List Int} {W : World} (h : AskQ w base ds n gL p1 p2 qL q1 q2 L lo hi W) : Ints W p1 lo := h.lo_ W (Below.refl _ _)
theorem AskQ.high {w : World} {base : Nat} {ds : List Dm} {n gL : Nat} {p1 p2 : Option Addr} {qL q1 q2 : Nat} {L lo hi : List Int} {W : World} (h : AskQ w base ds n gL p1 p2 qL q1 q2 L lo hi W) : Ints W p2 hi := h.hi_ W (Below.refl _ _)
/-- what holds of its places -/
structure AskP (ds : List Dm) (n : Nat) (L lo hi : List Int) : Prop where
  lev : Lev ds n (zeros n) L
  box : Box ds n lo hi
  gap : ∀ i, i < n → nth lo i < nth hi i
def AskOut (w : World) (ds : List Dm) (n : Nat) (v : Value) (W : World) : Prop := ∃ base gL p1 p2 qL q1 q2 L lo hi, v = .agg #[.slice (some ⟨gL, 0, none⟩) n qL, .slice p1 n q1, .slice p2 n q2] ∧ AskQ w base ds n gL p1 p2 qL q1 q2 L lo hi W ∧ AskP ds n L lo hi

set_option maxHeartbeats 8000000 in
theorem ask_made (a ac aa ab : Option Addr) (n cap nc cc na ca nb cb : Nat) (ds : List Dm) (ch la lb : List Int) (w : World) (hI : DimsIn w a ds) (hd : Dims ds n) (hC : Nums .u8 w ac nc cc ch) (hA : Nums .u16 w aa na ca la) (hB : Nums .u16 w ab nb cb lb) :
    Calls Tryd.prog 21 #[.slice a n cap, .slice ac nc cc, .slice aa na ca, .slice ab nb cb] w fun e w' => ∃ v, e = .returned v ∧ AskOut w ds n v w' := by
  have HD : Aside (Dims ds n) := hd
  have hn4 := hd.few
  have hn1 := hd.one
  have D0 : Aside (DimsIn w a ds) := hI
  have C0 : Aside (Nums .u8 w ac nc cc ch) := hC
  have hb0 : ∀ o, Below w.heap.size w (w.alloc o) := fun o => (Below.refl _ _).alloc (Nat.le_refl _) _
  have CB := fun o => box_out a aa ab n cap na ca nb cb ds la lb (w.alloc o) (hI.keep (hb0 o)) hd.len hn1 hn4 (hA.keep (hb0 o)) (hB.keep (hb0 o)) hd.siz
  clear hI hd hC hA hB
  go_enter Tryd.func21, Tryd.ntmps21
  go_wp2_with fail
  refine (CB _).mono ?_
  rintro e w1 ⟨t, rfl, hres⟩
  obtain ⟨⟨p1, q1, p2, q2, rfl, ⟨i1, m1⟩, i2, m2⟩, hb1⟩ := hres
  have B1 : Aside (Below w.heap.size w w1) := (hb0 _).trans (hb1.mono (by simp))
  have z0 : w1.cell? ⟨w.heap.size, 0, none⟩ = some (.slice none 0 0) := (hb1.cell (p := ⟨w.heap.size, 0, none⟩) (by simp)).trans (by simp [go_sem])
  have z1 : w1.cell? ⟨w.heap.size, 1, none⟩ = some (.slice none 0 0) := (hb1.cell (p := ⟨w.heap.size, 1, none⟩) (by simp)).trans (by simp [go_sem])
  have z2 : w1.cell? ⟨w.heap.size, 2, none⟩ = some (.slice none 0 0) := (hb1.cell (p := ⟨w.heap.size, 2, none⟩) (by simp)).trans (by simp [go_sem])
  have f0 : ∀ j, w1.frozen? ⟨w.heap.size, j, none⟩ = false := fun j => (hb1.frozen (p := ⟨w.heap.size, j, none⟩) (by simp)).trans (by simp [go_sem])
  have hlt : w.heap.size < w1.heap.size := cell_lt z0
  have L1 : Aside (Ints w1 p1 (boxL ds la lb)) := i1
  have L2 : Aside (Ints w1 p2 (boxH ds la lb)) := i2
  have CL := lev_any a ac none n cap nc cc 0 0 ds ch [] w1 (D0.out.keep B1.out) HD.out.len hn4 (C0.out.keep B1.out) (.inl rfl) rfl (fun i hi => by
    have e : nth [] i = 0 := nth_out (by simp)
    have := (sndL_all HD.out.snd i (by rw [HD.out.len]; exact hi)).2.2.1
    omega)
  clear CB i1 i2 hb1 hb0
  go_wp2_with fail
  refine CL.mono ?_
  rintro e w2 ⟨v2, rfl, hown, hb2⟩
  rw [levL_len, HD.out.len] at hown
  obtain ⟨gL, qL, rfl⟩ : ∃ g c, v2 = .slice (some ⟨g, 0, none⟩) n c := by
    rcases hown.2 with ⟨_, h0⟩ | ⟨g, c, cur, hv, _⟩
    · omega
    · exact ⟨g, c, hv⟩
  have hgL : w1.heap.size ≤ gL := by
    rcases hown.2 with ⟨_, h0⟩ | ⟨g, c, cur, hv, hg, _⟩
    · omega
    · simp only [Value.slice.injEq, Option.some.injEq, Addr.mk.injEq, and_true] at hv
      omega
  have y0 := (hb2.cell (p := ⟨w.heap.size, 0, none⟩) hlt).trans z0
  have y1 := (hb2.cell (p := ⟨w.heap.size, 1, none⟩) hlt).trans z1
  have y2 := (hb2.cell (p := ⟨w.heap.size, 2, none⟩) hlt).trans z2
  have g0 : ∀ j, w2.frozen? ⟨w.heap.size, j, none⟩ = false := fun j => (hb2.frozen (p := ⟨w.heap.size, j, none⟩) hlt).trans (f0 j)
  have k0 := g0 0
  have k1 := g0 1
  have k2 := g0 2
  have S2 : Aside (w2.ownsRow w1.heap.size 3 1 (.slice (some ⟨gL, 0, none⟩) n qL) n (vals (levL ds ch [])) ∧ Ints w2 p1 (boxL ds la lb) ∧ Ints w2 p2 (boxH ds la lb) ∧ Below w.heap.size w w2 ∧ w1.heap.size ≤ w2.heap.size ∧ Ints w1 p1 (boxL ds la lb) ∧ Ints w1 p2 (boxH ds la lb)) := ⟨hown, L1.out.keep hb2, L2.out.keep hb2, B1.out.trans (hb2.mono B1.out.size), hb2.size, L1.out, L2.out⟩
  have SP : Aside (∀ v0 v1 v2, AskQ w w1.heap.size ds n gL p1 p2 qL q1 q2 (levL ds ch []) (boxL ds la lb) (boxH ds la lb) (((w2.setCell ⟨w.heap.size, 0, none⟩ v0).setCell ⟨w.heap.size, 1, none⟩ v1).setCell ⟨w.heap.size, 2, none⟩ v2)) := fun v0 v1 v2 => by
    obtain ⟨h1, h2, h3, h4, h5, h6, h7⟩ := S2.out
    have e1 : (w2.setCell ⟨w.heap.size, 0, none⟩ v0).cell? ⟨w.heap.size, 1, none⟩ = some (.slice none 0 0) := (World.cell?_setCell_other _ _ _ _ (by intro e; simp at e)).trans y1
    have e2 : ((w2.setCell ⟨w.heap.size, 0, none⟩ v0).setCell ⟨w.heap.size, 1, none⟩ v1).cell? ⟨w.heap.size, 2, none⟩ = some (.slice none 0 0) := (World.cell?_setCell_other _ _ _ _ (by intro e; simp at e)).trans ((World.cell?_setCell_other _ _ _ _ (by intro e; simp at e)).trans y2)
    have hne : gL ≠ w.heap.size := by omega
    have i1 := ints_oth v2 (ints_oth v1 (ints_oth v0 h2 y0) e1) e2
    have i2 := ints_oth v2 (ints_oth v1 (ints_oth v0 h3 y0) e1) e2
    refine ⟨own_oth (own_oth (own_oth h1 hne) hne) hne, by omega, by simpa using h5, fun W' hb => ints_under h6 i1 (Nat.le_refl _) hb, fun W' hb => ints_under h7 i2 (Nat.le_refl _) hb, m1, m2, ?_⟩
    exact ((h4.setCell (Nat.le_refl _) _).setCell (Nat.le_refl _) _).setCell (Nat.le_refl _) _
  have HP : Aside (AskP ds n (levL ds ch []) (boxL ds la lb) (boxH ds la lb)) := by
    refine ⟨lev_zero HD.out.len ch, ⟨by rw [boxL_len, HD.out.len], by rw [boxH_len, HD.out.len], fun i hi => ?_⟩, fun i hi => ?_⟩
    · have := box_at (ch := la) (dh := lb) HD.out.len HD.out.siz hi
      omega
    · exact (box_at (ch := la) (dh := lb) HD.out.len HD.out.siz hi).2.1
  generalize levL ds ch [] = L at SP HP
  generalize boxL ds la lb = lo at SP HP
  generalize boxH ds la lb = hi at SP HP
  clear S2 z0 z1 z2 f0 g0 CL hown hb2 L1 L2 B1
  go_wp2
  (try simp only [Exit.inBlock, Exit.then])
  refine bodyPost_ret (v := .agg #[.slice (some ⟨gL, 0, none⟩) n qL, .slice p1 n q1, .slice p2 n q2]) (by simp [results, Tryd.results21, go_sem, *]) rfl ?_
  exact ⟨_, rfl, _, gL, p1, p2, qL, q1, q2, L, lo, hi, rfl, SP.out _ _ _, HP.out⟩

theorem one_own (w : World) (x : Value) : (w.alloc (.cells #[x] 3)).ownsRow w.heap.size 3 1 (.slice (some ⟨w.heap.size, 0, none⟩) 1 1) 1 [x] :=
  ⟨rfl, .inr ⟨w.heap.size, 1, #[x], rfl, Nat.le_refl _, heap_alloc_new _ _, Nat.le_refl _, by unfold maxLen; omega, rfl, rfl⟩⟩
theorem tail_ints {W : World} {b off : Nat} {l : List Int} (h : ∀ i, i < l.length → W.cell? ⟨b, off + i, none⟩ = some (.int .i64 (nth l i))) : ∀ i, i < (l.drop 1).length → W.cell? ⟨b, off + 1 + i, none⟩ = some (.int .i64 (nth (l.drop 1) i)) := fun i hi => by
  have hi2 : i + 1 < l.length := by simp at hi; omega
  rw [show off + 1 + i = off + (i + 1) by omega, h (i + 1) hi2]
  simp [nth]

set_option maxHeartbeats 8000000 in
theorem with_any (a : Option Addr) (n c : Nat) (l : List Int) (x : Int) (w : World) (hI : Ints w a l) (hl : l.length = n) (h1 : 1 ≤ n) (h4 : n ≤ 4) (hc : n ≤ c) :
    Calls Tryd.prog 23 #[.slice a n c, .int .i64 x] w fun e w' => ∃ p q, e = .returned (.slice p n q) ∧ Ints w' p (x :: l.drop 1) ∧ Below w.heap.size w w' := by
  obtain ⟨j0, hj, hy0, hy1, hy2⟩ := info_parts info_int
  obtain ⟨b, off, ha, hcb⟩ := hI.get (k := 0) (by omega)
  subst ha
  have hown := one_own w (.int .i64 x)
  have hb0 : ∀ o, Below w.heap.size w (w.alloc o) := fun o => (Below.refl _ _).alloc (Nat.le_refl _) _
  have hcz : (n : Int) ≤ (c : Int) := by omega
  have hck : (1 : Int) ≤ (c : Int) := by omega
  have hnk : (1 : Int) ≤ (n : Int) := by omega
  by_cases hn2 : n = 1
  · subst hn2
    have hnil : l.drop 1 = [] := List.eq_nil_of_length_eq_zero (by simp [hl])
    have HW : Aside (Ints (w.alloc (.cells #[.int .i64 x] 3)) (some ⟨w.heap.size, 0, none⟩) (x :: l.drop 1)) := by
      have h : (w.alloc (.cells #[.int .i64 x] 3)).ownsRow w.heap.size 3 1 (.slice (some ⟨w.heap.size, 0, none⟩) 1 1) 1 (vals [x]) := hown
      obtain ⟨a', c', e', hI', -⟩ := (own_out h).1
      simp only [Value.slice.injEq] at e'
      rw [hnil, e'.1]; exact hI'
    clear hI hl hcb hnil
    by_cases hq : c = 1
    · subst hq
      go_enter Tryd.func23, Tryd.ntmps23
      go_wp2_with (at_builtin; refine wpList_append_zero rfl (.tmp 8) (.tmp 10) 24 rfl w.heap.size 3 j0 1 Tryd.underlying24 hj _ 1 [.int .i64 x] rfl hown _ _ rfl ?_)
      go_ret
      exact ⟨_, _, rfl, HW.out, hb0 _⟩
    · go_enter Tryd.func23, Tryd.ntmps23
      go_wp2_with (at_builtin; refine wpList_append_zero rfl (.tmp 8) (.tmp 10) 24 rfl w.heap.size 3 j0 1 Tryd.underlying24 hj _ 1 [.int .i64 x] rfl hown _ _ rfl ?_)
      go_ret
      exact ⟨_, _, rfl, HW.out, hb0 _⟩
  · have hq : ¬ c = 1 := by omega
    have hnews := ints_news (tail_ints (W := w.alloc (.cells #[.int .i64 x] 3)) (b := b) (off := off) (l := l) fun i hi => ((hb0 _).cell (p := ⟨b, off + i, none⟩) (cell_lt (hcb i hi))).trans (hcb i hi))
    have hvl : (vals (l.drop 1)).length = (n - 1) * 1 := by rw [vals_len, List.length_drop, hl]; omega
    clear hI hl hcb
    go_enter Tryd.func23, Tryd.ntmps23
    go_wp2_with (first | (at_builtin; refine wpList_append_lies _ rfl (.tmp 8) (.tmp 10) 24 rfl w.heap.size 3 j0 _ 1 8 Tryd.underlying24 hj hy0 hy1 hy2 rfl (by decide) _ 1 [.int .i64 x] rfl hown ⟨b, off + 1, none⟩ (n - 1) (c - 1) (vals (l.drop 1)) rfl hvl hnews (vals_one _) (by omega) (by unfold maxLen; omega) (by omega) (by simp) _ rfl ?_) | go_in)
    intro g7 cc7 w7 hown7 hgrow hat hglt
    have HW : Aside (∃ p q, (Value.slice (some ⟨g7, 0, none⟩) n cc7) = .slice p n q ∧ Ints w7 p (x :: l.drop 1)) := by
      have h : w7.ownsRow w.heap.size 3 1 (.slice (some ⟨g7, 0, none⟩) n cc7) n (vals (x :: l.drop 1)) := by
        rw [List.drop_one]; exact hown7
      obtain ⟨a', c', e', hI', -⟩ := (own_out h).1
      simp only [Value.slice.injEq] at e'
      exact ⟨_, _, rfl, by rw [e'.1]; exact hI'⟩
    have B7 : Aside (Below w.heap.size w w7) := (hb0 _).grown hgrow (by simp) fun q hq => (hown.lt q hq).1
    clear hown7 hgrow hat hglt hown hnews hvl
    go_wp2
    go_ret
    obtain ⟨p, q, e1, e2⟩ := HW.out
    simp only [Value.slice.injEq] at e1
    exact ⟨_, _, rfl, by rw [e1.1]; exact e2, B7.out⟩
end Go.Proofs.YtgimknplckkiaaaDoor.query
