/-
  The walk of DimsUp: of whatever dimension, choice, levels and member the call answers true.
-/
import Derived.Test.YtkkgniigcfbakaaDimsSoundWalk
namespace Go.Proofs.Ytkkgniigcfbakaa.dims
open Go.ChangeShapes Go.WideShapes Go.ChangeAt Go.RowKit Go.Deep
set_option linter.unusedVariables false

theorem i64_of_wf {n : Int} (h : (Lit.int .i64 n).wf = true) : -9223372036854775808 ≤ n ∧ n ≤ 9223372036854775807 := by
  simpa [Lit.wf, IntKind.min, IntKind.max, IntKind.signed, IntKind.bits] using h

theorem pairs_one {k1 k2 : IntKind} {W : World} {B : Nat} {c : Dm} (h0 : W.cell? ⟨B, 0, none⟩ = some (.int k1 c.sz)) (h1 : W.cell? ⟨B, 1, none⟩ = some (.slice c.a c.l.length c.cap)) (hN : Nums k2 W c.a c.l.length c.cap c.l) (hw : (Lit.int k1 c.sz).wf = true) : Pairs k1 k2 W (some ⟨B, 0, none⟩) [c] := by
  refine .inr ⟨B, 0, rfl, fun i hi => ?_⟩
  match i, hi with
  | 0, _ => exact ⟨h0, h1, hN, hw⟩

theorem dims_one {W : World} {B : Nat} {c : Dm} (h0 : W.cell? ⟨B, 0, none⟩ = some (.int .i64 c.sz)) (h1 : W.cell? ⟨B, 1, none⟩ = some (.slice c.a c.l.length c.cap)) (hI : Ints W c.a c.l) (hm : c.l.length ≤ 9223372036854775807) : DimsIn W (some ⟨B, 0, none⟩) [c] := by
  refine .inr ⟨B, 0, rfl, fun i hi => ?_⟩
  match i, hi with
  | 0, _ => exact ⟨h0, h1, hI, hm⟩

theorem upR_val (sz : Int) (a : Option Addr) (n cap : Nat) (l : List Int) (f t v r : Int) (w : World) (hI : Ints w a l) (hn : l.length = n) (hm : n ≤ 9223372036854775807) (hv : v ≤ 9223372036854775807) (hr : upV sz l f t v = r) :
    Calls Try.prog 21 #[.agg #[.int .i64 sz, .slice a n cap], .int .i64 f, .int .i64 t, .int .i64 v] w fun e w' => e = .returned (.int .i64 r) ∧ Below w.heap.size w w' := by
  rw [← hr]; exact refUp_any sz a n cap l f t v w hI hn hm hv

theorem four_keep {W0 W w' : World} {g1 g2 : Nat} {x y x2 y2 : Value} (hb : Below W.heap.size W w') (h : Below W0.heap.size W0 W ∧ W0.heap.size ≤ W.heap.size ∧ W.cell? ⟨g1, 0, none⟩ = some x ∧ W.cell? ⟨g1, 1, none⟩ = some y ∧ W.cell? ⟨g2, 0, none⟩ = some x2 ∧ W.cell? ⟨g2, 1, none⟩ = some y2) :
    Below W0.heap.size W0 w' ∧ W0.heap.size ≤ w'.heap.size ∧ w'.cell? ⟨g1, 0, none⟩ = some x ∧ w'.cell? ⟨g1, 1, none⟩ = some y ∧ w'.cell? ⟨g2, 0, none⟩ = some x2 ∧ w'.cell? ⟨g2, 1, none⟩ = some y2 := by
  obtain ⟨h0, h1, h2, h3, h4, h5⟩ := h
  have k : ∀ {c o : Nat} {v : Value}, W.cell? ⟨c, o, none⟩ = some v → w'.cell? ⟨c, o, none⟩ = some v := fun {c o v} hv => (hb.cell (p := ⟨c, o, none⟩) (cell_lt hv)).trans hv
  exact ⟨h0.trans (hb.mono h1), Nat.le_trans h1 hb.size, k h2, k h3, k h4, k h5⟩

/-- the first dimension that one choice makes -/
theorem OfRes.one {w W : World} {c : Dm} {v : Value} (h : OfRes w [c] v W) : ∃ (g cap : Nat) (d : Dm), v = .slice (some ⟨g, 0, none⟩) 1 cap ∧ DimsIn W (some ⟨g, 0, none⟩) [d] ∧ SoundD d.sz d.l ∧ d.sz = 1 + c.sz % 200 ∧ d.l = divs 1 (c.l.take 4) ∧ Below w.heap.size w W ∧ W.cell? ⟨g, 0, none⟩ = some (.int .i64 d.sz) ∧ W.cell? ⟨g, 1, none⟩ = some (.slice d.a d.l.length d.cap) ∧ Ints W d.a d.l ∧ d.l.length ≤ 4 := by
  obtain ⟨ds, g, cap, hv, hD, he, _, _, _, hb⟩ := h.out
  have e1 : ofL [c] = [ofC c] := by simp [ofL]
  rw [e1] at he
  match ds, he with
  | [d], he =>
    simp only [List.map_cons, List.map_nil, List.cons.injEq, and_true, pr, ofC, Prod.mk.injEq] at he
    have hS : SoundD d.sz d.l := by rw [he.1, he.2]; exact ofC_sound c
    obtain ⟨b, off, ha, hc⟩ := hD.get (k := 0) (by simp)
    simp only [Option.some.injEq, Addr.mk.injEq] at ha
    obtain ⟨rfl, rfl, _⟩ := ha
    obtain ⟨r0, r1, r2, _⟩ := hc 0 (by simp)
    exact ⟨g, cap, d, hv, hD, hS, he.1, he.2, hb, by simpa [dn] using r0, by simpa [dn] using r1, by simpa [dn] using r2, hS.2.2.1⟩
  | [], he => simp at he
  | _ :: _ :: _, he => simp at he

set_option maxHeartbeats 8000000 in
theorem up_walk (d c : Dm) (f t v : Int) (w : World) (nD : Nums .i64 w d.a d.l.length d.cap d.l) (nC : Nums .u8 w c.a c.l.length c.cap c.l) (wc : (Lit.int .u16 c.sz).wf = true) (wv : (Lit.int .i64 v).wf = true) :
    Calls Try.prog 6 #[.agg #[.int .i64 d.sz, .slice d.a d.l.length d.cap], .agg #[.int .u16 c.sz, .slice c.a c.l.length c.cap], .int .i64 f, .int .i64 t, .int .i64 v] w fun e w' => e = .returned (.bool true) ∧ Below w.heap.size w w' := by
  have hv := (i64_of_wf wv).2
  have hml : d.l.length ≤ 9223372036854775807 := Nat.le_trans nD.lec (Nat.le_trans nD.max maxLen_le)
  have HD : Aside (Ints w d.a d.l) := nD.ints
  have HC : Aside (Nums .u8 w c.a c.l.length c.cap c.l ∧ (Lit.int .u16 c.sz).wf = true) := ⟨nC, wc⟩
  obtain ⟨u1, hu1⟩ : ∃ u, upV d.sz d.l f t v = u := ⟨_, rfl⟩
  have C1 := fun W (h : Ints W d.a d.l) => up_val d.sz d.a d.l.length d.cap d.l f t v u1 W h rfl hv hu1
  have C2 := fun W (h : Ints W d.a d.l) => upR_val d.sz d.a d.l.length d.cap d.l f t v u1 W h rfl hml hv hu1
  have D1 := fun (W : World) (B : Nat) (h0 : W.cell? ⟨B, 0, none⟩ = some (.int .i64 d.sz)) (h1 : W.cell? ⟨B, 1, none⟩ = some (.slice d.a d.l.length d.cap)) (hI : Ints W d.a d.l) => heavy_any (some ⟨B, 0, none⟩) 1 1 [d] W (dims_one h0 h1 hI hml) rfl (by omega)
  have D2 := fun (W : World) (B : Nat) (h0 : W.cell? ⟨B, 0, none⟩ = some (.int .u16 c.sz)) (h1 : W.cell? ⟨B, 1, none⟩ = some (.slice c.a c.l.length c.cap)) (hb : Below w.heap.size w W) => of_any (some ⟨B, 0, none⟩) 1 1 [c] W (pairs_one h0 h1 (nC.keep hb) wc) rfl (by omega)
  clear nD nC wc wv hml hu1
  generalize d.sz = s1 at *
  generalize d.l.length = s3 at *
  generalize d.cap = s4 at *
  generalize d.a = s2 at *
  generalize d.l = s5 at *
  generalize c.sz = q1 at *
  generalize c.l.length = q3 at *
  generalize c.cap = q4 at *
  generalize c.a = q2 at *
  go_enter Try.func6, Try.ntmps6
  go_wp2_with fail
  refine (D1 _ _ (by simp [go_sem]) (by simp [go_sem]) (HD.out.keep (by (repeat (first | with_reducible exact Below.refl _ _ | (with_reducible refine Below.drew ?_) | (with_reducible refine Below.alloc ?_ (by first | omega | (simp; done) | (simp; omega)) _) | (with_reducible refine Below.setCell ?_ (by first | exact Nat.le_refl _ | omega | (simp; done) | (simp; omega)) _)))))).mono ?_
  rintro e w0 ⟨hh, rfl⟩
  have B0 : Aside (Below w.heap.size w (((w.alloc (.cells #[.int .i64 s1, .slice s2 s3 s4] 29)).alloc (.cells #[.int .u16 q1, .slice q2 q3 q4] 36)).alloc (.cells #[.int .i64 s1, .slice s2 s3 s4] 29))) := by show Below _ _ _; (repeat (first | with_reducible exact Below.refl _ _ | (with_reducible refine Below.drew ?_) | (with_reducible refine Below.alloc ?_ (by first | omega | (simp; done) | (simp; omega)) _) | (with_reducible refine Below.setCell ?_ (by first | exact Nat.le_refl _ | omega | (simp; done) | (simp; omega)) _)))
  have k1 : (((w.alloc (.cells #[.int .i64 s1, .slice s2 s3 s4] 29)).alloc (.cells #[.int .u16 q1, .slice q2 q3 q4] 36)).alloc (.cells #[.int .i64 s1, .slice s2 s3 s4] 29)).cell? ⟨w.heap.size, 0, none⟩ = some (.int .i64 s1) := by simp [go_sem]
  have k2 : (((w.alloc (.cells #[.int .i64 s1, .slice s2 s3 s4] 29)).alloc (.cells #[.int .u16 q1, .slice q2 q3 q4] 36)).alloc (.cells #[.int .i64 s1, .slice s2 s3 s4] 29)).cell? ⟨w.heap.size, 1, none⟩ = some (.slice s2 s3 s4) := by simp [go_sem]
  have k3 : (((w.alloc (.cells #[.int .i64 s1, .slice s2 s3 s4] 29)).alloc (.cells #[.int .u16 q1, .slice q2 q3 q4] 36)).alloc (.cells #[.int .i64 s1, .slice s2 s3 s4] 29)).cell? ⟨w.heap.size + 1, 0, none⟩ = some (.int .u16 q1) := by simp [go_sem]
  have k4 : (((w.alloc (.cells #[.int .i64 s1, .slice s2 s3 s4] 29)).alloc (.cells #[.int .u16 q1, .slice q2 q3 q4] 36)).alloc (.cells #[.int .i64 s1, .slice s2 s3 s4] 29)).cell? ⟨w.heap.size + 1, 1, none⟩ = some (.slice q2 q3 q4) := by simp [go_sem]
  generalize (((w.alloc (.cells #[.int .i64 s1, .slice s2 s3 s4] 29)).alloc (.cells #[.int .u16 q1, .slice q2 q3 q4] 36)).alloc (.cells #[.int .i64 s1, .slice s2 s3 s4] 29)) = W0 at B0 k1 k2 k3 k4 ⊢
  clear D1
  rcases hh with rfl | rfl
  · as_aux_lemma =>
      go_wp2_with (go_at_call 13; refine (known_any _).mono ?_; rintro e w1 ⟨rfl, hb1⟩)
      go_ret
      exact ⟨rfl, B0.out.trans (hb1.mono B0.out.size)⟩
  go_wp2_with fail
  refine (known_any _).mono ?_
  rintro e w1 ⟨rfl, hb1⟩
  have B1 : Aside (Below w.heap.size w w1) := B0.out.trans (hb1.mono B0.out.size)
  have k1 := (hb1.cell (p := ⟨w.heap.size, 0, none⟩) (cell_lt k1)).trans k1
  have k2 := (hb1.cell (p := ⟨w.heap.size, 1, none⟩) (cell_lt k2)).trans k2
  have k3 := (hb1.cell (p := ⟨w.heap.size + 1, 0, none⟩) (cell_lt k3)).trans k3
  have k4 := (hb1.cell (p := ⟨w.heap.size + 1, 1, none⟩) (cell_lt k4)).trans k4
  clear hb1 B0
  go_wp2_with fail
  have hbn : Below w1.heap.size w1 (w1.alloc (.cells #[.int .u16 q1, .slice q2 q3 q4] 36)) := (Below.refl _ _).alloc (Nat.le_refl _) _
  refine (D2 _ _ (by simp [go_sem]) (by simp [go_sem]) (B1.out.trans (hbn.mono B1.out.size))).mono ?_
  rintro e w2 ⟨v2, rfl, hres⟩
  obtain ⟨g, cap2, x, rfl, -, hSx, -, -, hb2, x0, x1, xI, x4⟩ := hres.one
  have hb12 : Below w1.heap.size w1 w2 := hbn.trans (hb2.mono hbn.size)
  have B2 : Aside (Below w.heap.size w w2) := B1.out.trans (hb12.mono B1.out.size)
  have k1 := (hb12.cell (p := ⟨w.heap.size, 0, none⟩) (cell_lt k1)).trans k1
  have k2 := (hb12.cell (p := ⟨w.heap.size, 1, none⟩) (cell_lt k2)).trans k2
  have XI : Aside (Ints w2 x.a x.l) := xI
  obtain ⟨u2, hu2⟩ : ∃ u, upV x.sz x.l f t v = u := ⟨_, rfl⟩
  have C3 := fun W (h : Ints W x.a x.l) => up_val x.sz x.a x.l.length x.cap x.l f t v u2 W h rfl hv hu2
  have C4 := fun W (h : Ints W x.a x.l) => upR_val x.sz x.a x.l.length x.cap x.l f t v u2 W h rfl (by omega) hv hu2
  clear hres hb2 hbn hb12 B1 D2 hu2 xI x4 hSx k3 k4
  generalize x.sz = y1 at *
  generalize x.l.length = y3 at *
  generalize x.cap = y4 at *
  generalize x.a = y2 at *
  generalize x.l = y5 at *
  go_wp2_with fail
  have hbn : Below w2.heap.size w2 (w2.alloc (.cells #[.int .i64 y1, .slice y2 y3 y4] 29)) := (Below.refl _ _).alloc (Nat.le_refl _) _
  have k1 := (hbn.cell (p := ⟨w.heap.size, 0, none⟩) (cell_lt k1)).trans k1
  have k2 := (hbn.cell (p := ⟨w.heap.size, 1, none⟩) (cell_lt k2)).trans k2
  have j1 : (w2.alloc (.cells #[.int .i64 y1, .slice y2 y3 y4] 29)).cell? ⟨w2.heap.size, 0, none⟩ = some (.int .i64 y1) := by simp [go_sem]
  have j2 : (w2.alloc (.cells #[.int .i64 y1, .slice y2 y3 y4] 29)).cell? ⟨w2.heap.size, 1, none⟩ = some (.slice y2 y3 y4) := by simp [go_sem]
  have B3 : Aside (Below w.heap.size w (w2.alloc (.cells #[.int .i64 y1, .slice y2 y3 y4] 29))) := B2.out.trans (hbn.mono B2.out.size)
  have XI3 : Aside (Ints (w2.alloc (.cells #[.int .i64 y1, .slice y2 y3 y4] 29)) y2 y5) := XI.out.keep hbn
  have DI3 : Aside (Ints (w2.alloc (.cells #[.int .i64 y1, .slice y2 y3 y4] 29)) s2 s5) := HD.out.keep B3.out
  clear hbn B2 XI x0 x1
  generalize w2.alloc (.cells #[.int .i64 y1, .slice y2 y3 y4] 29) = W3 at k1 k2 j1 j2 B3 XI3 DI3 ⊢
  go_region_held3 (fun w' => Below W3.heap.size W3 w' ∧ W3.heap.size ≤ w'.heap.size ∧ w'.cell? ⟨w.heap.size, 0, none⟩ = some (.int .i64 s1) ∧ w'.cell? ⟨w.heap.size, 1, none⟩ = some (.slice s2 s3 s4) ∧ w'.cell? ⟨w2.heap.size, 0, none⟩ = some (.int .i64 y1) ∧ w'.cell? ⟨w2.heap.size, 1, none⟩ = some (.slice y2 y3 y4))
    (first | assumption | (exact ⟨(Below.refl _ _).drew, Nat.le_refl _, k1, k2, j1, j2⟩) | (exact ⟨Below.refl _ _, Nat.le_refl _, k1, k2, j1, j2⟩) | (refine four_keep (W0 := W3) (g1 := w.heap.size) (g2 := w2.heap.size) (x := .int .i64 s1) (y := .slice s2 s3 s4) (x2 := .int .i64 y1) (y2 := .slice y2 y3 y4) hb4 ?_; assumption))
    (first | (go_at_call 20; with_reducible refine (C1 _ (DI3.out.keep (by apply And.left; assumption))).mono ?_; rintro e w4 ⟨rfl, hb4⟩) | (go_at_call 21; with_reducible refine (C2 _ (DI3.out.keep (by apply And.left; assumption))).mono ?_; rintro e w4 ⟨rfl, hb4⟩) | (go_at_call 20; with_reducible refine (C3 _ (XI3.out.keep (by apply And.left; assumption))).mono ?_; rintro e w4 ⟨rfl, hb4⟩) | (go_at_call 21; with_reducible refine (C4 _ (XI3.out.keep (by apply And.left; assumption))).mono ?_; rintro e w4 ⟨rfl, hb4⟩))
  have S4 : Below W3.heap.size W3 w4 := by apply And.left; assumption
  have B4 : Aside (Below w.heap.size w w4) := B3.out.trans (S4.mono B3.out.size)
  go_wp2
  go_ret
  exact ⟨by simp, B4.out⟩

theorem raise0 {l : List Int} (hS : ∀ i, i < l.length → StepOk l i) {n x : Int} (h0 : 0 ≤ n) (h1 : n ≤ (l.length : Int) + 1) (hx : 0 ≤ x) : raiseV l 0 n x = if n = 0 then x else if n = (l.length : Int) + 1 then 0 else x / dv l n.toNat := by
  unfold raiseV
  rw [if_neg (by omega)]
  by_cases e : n = 0
  · rw [if_pos e.symm, if_pos e]
  · rw [if_neg (fun h => e h.symm), if_neg e]
    split
    · rfl
    · simp [dv]
end Go.Proofs.Ytkkgniigcfbakaa.dims
