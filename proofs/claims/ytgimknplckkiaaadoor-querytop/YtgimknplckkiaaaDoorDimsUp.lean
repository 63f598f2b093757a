/-
  The contracts of dims.divisor, raise and Up: what a member is at a level above.
-/
import Derived.Test.YtgimknplckkiaaaDoorDimsJ
namespace Go.Proofs.YtgimknplckkiaaaDoor.dims
open Go.ChangeShapes Go.WideShapes Go.ChangeAt Go.RowKit Go.Deep
set_option linter.unusedVariables false
set_option maxRecDepth 100000

theorem divisor_any (sz : Int) (a : Option Addr) (n cap k : Nat) (l : List Int) (w : World) (hI : Ints w a l) (hn : l.length = n) (hk : k ≤ n) (hm : n ≤ 9223372036854775800) :
    Calls Tryd.prog 89 #[.agg #[.int .i64 sz, .slice a n cap], .int .i64 (k : Nat)] w fun e w' => e = .returned (.int .i64 (dv l k)) ∧ w' = w.alloc (.cells #[.int .i64 sz, .slice a n cap] 57) := by
  rcases Nat.eq_zero_or_pos k with h0 | h0
  · subst h0
    clear hI
    go_enter Tryd.func89, Tryd.ntmps89
    go_wp2
    go_ret
    exact ⟨rfl, rfl⟩
  · obtain ⟨j, rfl⟩ : ∃ j, k = j + 1 := ⟨k - 1, by omega⟩
    have hjl : j < l.length := by omega
    obtain ⟨b, off, rfl, hc⟩ := hI.get hjl
    have hcj := hc j hjl
    have hb : b < w.heap.size := cell_lt hcj
    obtain ⟨x, hx⟩ : ∃ x, nth l j = x := ⟨_, rfl⟩
    have E : Hid (dv l (j + 1) = x) := hx
    rw [hx] at hcj
    have e1 : ((j + 1 : Nat) : Int) - 1 = (j : Int) := by omega
    have e0 : (((j + 1 : Nat) : Int) == 0) = false := by
      have : ¬ ((j + 1 : Nat) : Int) = 0 := by omega
      simpa using this
    have hjz : (j : Int) < (n : Int) := by omega
    clear hI hc hx hn
    go_enter Tryd.func89, Tryd.ntmps89
    go_wp2
    go_ret
    exact ⟨ret_int E.out.symm, rfl⟩

theorem divisor_bel (sz : Int) (a : Option Addr) (n cap k : Nat) (l : List Int) (w : World) (hI : Ints w a l) (hn : l.length = n) (hk : k ≤ n) (hm : n ≤ 9223372036854775800) :
    Calls Tryd.prog 89 #[.agg #[.int .i64 sz, .slice a n cap], .int .i64 (k : Nat)] w fun e w' => e = .returned (.int .i64 (dv l k)) ∧ Below w.heap.size w w' :=
  (divisor_any sz a n cap k l w hI hn hk hm).mono fun e w' ⟨h1, h2⟩ => ⟨h1, by rw [h2]; exact (Below.refl _ _).alloc (Nat.le_refl _) _⟩

/-- two cells of a boxed dimension, and all below -/
theorem box_keep {W0 W w' : World} {g : Nat} {B : Nat} {x y : Value} (hb : Below W.heap.size W w') (h : Below B W0 W ∧ B ≤ W.heap.size ∧ W.cell? ⟨g, 0, none⟩ = some x ∧ W.cell? ⟨g, 1, none⟩ = some y) : Below B W0 w' ∧ B ≤ w'.heap.size ∧ w'.cell? ⟨g, 0, none⟩ = some x ∧ w'.cell? ⟨g, 1, none⟩ = some y := by
  obtain ⟨h0, h1, h2, h3⟩ := h
  have k : ∀ {c o : Nat} {v : Value}, W.cell? ⟨c, o, none⟩ = some v → w'.cell? ⟨c, o, none⟩ = some v := fun {c o v} hv => (hb.cell (p := ⟨c, o, none⟩) (cell_lt hv)).trans hv
  exact ⟨h0.trans (hb.mono h1), Nat.le_trans h1 hb.size, k h2, k h3⟩

theorem dv_le {l : List Int} (h : ∀ i, i < l.length → StepOk l i) {k : Nat} (hk : k ≤ l.length) : 1 ≤ dv l k ∧ dv l k ≤ 10000 := by
  cases k with
  | zero => simp [dv]
  | succ j => exact ⟨by rw [dv_prev]; exact prev_pos fun i hi => h i (by omega), (h j (by omega)).2.1⟩

theorem quo_le {a b : Int} (ha : 0 ≤ a) (hb : 1 ≤ b) : 0 ≤ a / b ∧ a / b ≤ a := ⟨Int.ediv_nonneg ha (by omega), Int.ediv_le_self b ha⟩

set_option maxHeartbeats 4000000 in
theorem raise_any (sz : Int) (a : Option Addr) (n cap : Nat) (l : List Int) (f t v : Int) (w : World) (hI : Ints w a l) (hn : l.length = n) (hS : ∀ i, i < l.length → StepOk l i) (hm : n ≤ 9223372036854775800) (hv : v ≤ 9223372036854775807) :
    Calls Tryd.prog 76 #[.agg #[.int .i64 sz, .slice a n cap], .int .i64 f, .int .i64 t, .int .i64 v] w fun e w' => e = .returned (.int .i64 (raiseV l f t v)) ∧ Below w.heap.size w w' := by
  have HN : Hid (l.length = n) := hn
  have HI : Aside (Ints w a l) := hI
  have HS : Aside (∀ i, i < l.length → StepOk l i) := hS
  clear hn hI hS
  by_cases hbad : f < 0 ∨ t < f ∨ (n : Int) + 1 < t ∨ v < 0
  · have E : Hid (raiseV l f t v = -1) := by show _ = _; unfold raiseV; rw [HN.out, if_pos hbad]
    by_cases b1 : f < 0
    · go_enter Tryd.func76, Tryd.ntmps76
      go_wp2_with (go_at_call 62; refine (levels_any _ _ _ _ _ (by assumption)).mono ?_; rintro e w' ⟨rfl, rfl⟩)
      go_ret
      refine ⟨ret_int E.out.symm, ?_⟩
      (repeat (first | with_reducible exact Below.refl _ _ | (with_reducible refine Below.drew ?_) | (with_reducible refine Below.alloc ?_ (by first | omega | (simp; done) | (simp; omega)) _) | (with_reducible refine Below.setCell ?_ (by first | exact Nat.le_refl _ | omega | (simp; done) | (simp; omega)) _)))
    by_cases b2 : t < f
    · go_enter Tryd.func76, Tryd.ntmps76
      go_wp2_with (go_at_call 62; refine (levels_any _ _ _ _ _ (by assumption)).mono ?_; rintro e w' ⟨rfl, rfl⟩)
      go_ret
      refine ⟨ret_int E.out.symm, ?_⟩
      (repeat (first | with_reducible exact Below.refl _ _ | (with_reducible refine Below.drew ?_) | (with_reducible refine Below.alloc ?_ (by first | omega | (simp; done) | (simp; omega)) _) | (with_reducible refine Below.setCell ?_ (by first | exact Nat.le_refl _ | omega | (simp; done) | (simp; omega)) _)))
    by_cases b3 : (n : Int) + 1 < t
    · go_enter Tryd.func76, Tryd.ntmps76
      go_wp2_with (go_at_call 62; refine (levels_any _ _ _ _ _ (by assumption)).mono ?_; rintro e w' ⟨rfl, rfl⟩)
      go_ret
      refine ⟨ret_int E.out.symm, ?_⟩
      (repeat (first | with_reducible exact Below.refl _ _ | (with_reducible refine Below.drew ?_) | (with_reducible refine Below.alloc ?_ (by first | omega | (simp; done) | (simp; omega)) _) | (with_reducible refine Below.setCell ?_ (by first | exact Nat.le_refl _ | omega | (simp; done) | (simp; omega)) _)))
    have b4 : v < 0 := by omega
    go_enter Tryd.func76, Tryd.ntmps76
    go_wp2_with (go_at_call 62; refine (levels_any _ _ _ _ _ (by assumption)).mono ?_; rintro e w' ⟨rfl, rfl⟩)
    go_ret
    refine ⟨ret_int E.out.symm, ?_⟩
    (repeat (first | with_reducible exact Below.refl _ _ | (with_reducible refine Below.drew ?_) | (with_reducible refine Below.alloc ?_ (by first | omega | (simp; done) | (simp; omega)) _) | (with_reducible refine Below.setCell ?_ (by first | exact Nat.le_refl _ | omega | (simp; done) | (simp; omega)) _)))
  have b1 : ¬ f < 0 := by omega
  have b2 : ¬ t < f := by omega
  have b3 : ¬ (n : Int) + 1 < t := by omega
  have b4 : ¬ v < 0 := by omega
  by_cases g1 : f = t
  · have E : Hid (raiseV l f t v = v) := by show _ = _; unfold raiseV; rw [HN.out, if_neg hbad, if_pos g1]
    clear hbad
    subst g1
    go_enter Tryd.func76, Tryd.ntmps76
    go_wp2_with (go_at_call 62; refine (levels_any _ _ _ _ _ (by assumption)).mono ?_; rintro e w' ⟨rfl, rfl⟩)
    go_ret
    refine ⟨ret_int E.out.symm, ?_⟩
    (repeat (first | with_reducible exact Below.refl _ _ | (with_reducible refine Below.drew ?_) | (with_reducible refine Below.alloc ?_ (by first | omega | (simp; done) | (simp; omega)) _) | (with_reducible refine Below.setCell ?_ (by first | exact Nat.le_refl _ | omega | (simp; done) | (simp; omega)) _)))
  have g1' : (f == t) = false := by simpa using g1
  by_cases g2 : t = (n : Int) + 1
  · have E : Hid (raiseV l f t v = 0) := by show _ = _; unfold raiseV; rw [HN.out, if_neg hbad, if_neg g1, if_pos g2]
    clear hbad
    subst g2
    go_enter Tryd.func76, Tryd.ntmps76
    go_wp2_with (go_at_call 62; refine (levels_any _ _ _ _ _ (by assumption)).mono ?_; rintro e w' ⟨rfl, rfl⟩)
    go_ret
    refine ⟨ret_int E.out.symm, ?_⟩
    (repeat (first | with_reducible exact Below.refl _ _ | (with_reducible refine Below.drew ?_) | (with_reducible refine Below.alloc ?_ (by first | omega | (simp; done) | (simp; omega)) _) | (with_reducible refine Below.setCell ?_ (by first | exact Nat.le_refl _ | omega | (simp; done) | (simp; omega)) _)))
  · obtain ⟨i, rfl⟩ : ∃ i : Nat, f = (i : Int) := ⟨f.toNat, by omega⟩
    obtain ⟨j, rfl⟩ : ∃ j : Nat, t = (j : Int) := ⟨t.toNat, by omega⟩
    have E : Hid (raiseV l i j v = v / (dv l j / dv l i)) := by show _ = _; unfold raiseV; rw [HN.out, if_neg hbad, if_neg g1, if_neg g2]; simp
    have hil : i ≤ n := by omega
    have hjl : j ≤ n := by omega
    have hD := dv_div HS.out (j := i) (k := j) (by omega) (by have := HN.out; omega)
    have hDj := dv_le HS.out (k := j) (by have := HN.out; omega)
    have hDi := dv_le HS.out (k := i) (by have := HN.out; omega)
    obtain ⟨x, hx⟩ : ∃ x, dv l j = x := ⟨_, rfl⟩
    obtain ⟨y, hy⟩ : ∃ y, dv l i = y := ⟨_, rfl⟩
    have c1 := fun W (hW : Ints W a l) => divisor_bel sz a n cap j l W hW HN.out hjl hm
    have c2 := fun W (hW : Ints W a l) => divisor_bel sz a n cap i l W hW HN.out hil hm
    rw [hx, hy] at hD
    rw [hx] at hDj c1
    rw [hy] at hDi c2
    have E2 : Hid (raiseV l i j v = v / (x / y)) := by show _ = _; rw [E.out, hx, hy]
    have hd1 : 1 ≤ x / y := hD.2.1
    have hv0 : 0 ≤ v := by omega
    have hx0 : 0 ≤ x := by omega
    have hy1 : 1 ≤ y := by omega
    have q1 := quo_le hx0 hy1
    obtain ⟨d, hd⟩ : ∃ d, x / y = d := ⟨_, rfl⟩
    rw [hd] at hd1 q1
    have q2 := quo_le hv0 hd1
    obtain ⟨q, hq⟩ : ∃ q, v / d = q := ⟨_, rfl⟩
    have E3 : Hid (raiseV l i j v = q) := by show _ = _; rw [E2.out, hd, hq]
    have w1 : IntKind.i64.wrap (x.tdiv y) = d := by rw [IntWalk.i64_quo x y ⟨hx0, by omega, hy1⟩]; exact hd
    have w2 : IntKind.i64.wrap (v.tdiv d) = q := by rw [IntWalk.i64_quo v d ⟨hv0, hv, hd1⟩]; exact hq
    have y0 : (y == 0) = false := by
      have : ¬ y = 0 := by omega
      simpa using this
    have d0 : (d == 0) = false := by
      have : ¬ d = 0 := by omega
      simpa using this
    have y0' : ¬ y = 0 := by omega
    have d0' : ¬ d = 0 := by omega
    clear E2 hd hq
    have g2' : ((j : Int) == (n : Int) + 1) = false := by simpa using g2
    clear E hD hx hy hbad
    go_enter Tryd.func76, Tryd.ntmps76
    go_wp2_with (go_at_call 62; refine (levels_any _ _ _ _ _ (by assumption)).mono ?_; rintro e w' ⟨rfl, rfl⟩)
    have S0 : Below w.heap.size w ((w.alloc (.cells #[.int .i64 sz, .slice a n cap] 57)).alloc (.cells #[.int .i64 sz, .slice a n cap] 57)) ∧ w.heap.size ≤ ((w.alloc (.cells #[.int .i64 sz, .slice a n cap] 57)).alloc (.cells #[.int .i64 sz, .slice a n cap] 57)).heap.size ∧ ((w.alloc (.cells #[.int .i64 sz, .slice a n cap] 57)).alloc (.cells #[.int .i64 sz, .slice a n cap] 57)).cell? ⟨w.heap.size, 0, none⟩ = some (.int .i64 sz) ∧ ((w.alloc (.cells #[.int .i64 sz, .slice a n cap] 57)).alloc (.cells #[.int .i64 sz, .slice a n cap] 57)).cell? ⟨w.heap.size, 1, none⟩ = some (.slice a n cap) := by
      refine ⟨?_, by simp; omega, by simp [go_sem], by simp [go_sem]⟩
      (repeat (first | with_reducible exact Below.refl _ _ | (with_reducible refine Below.drew ?_) | (with_reducible refine Below.alloc ?_ (by first | omega | (simp; done) | (simp; omega)) _) | (with_reducible refine Below.setCell ?_ (by first | exact Nat.le_refl _ | omega | (simp; done) | (simp; omega)) _)))
    generalize (w.alloc (.cells #[.int .i64 sz, .slice a n cap] 57)).alloc (.cells #[.int .i64 sz, .slice a n cap] 57) = W1 at S0 ⊢
    obtain ⟨s1, s2, s3, s4⟩ := S0
    have SB : Aside _ := s1
    clear s1
    go_region_held3 (fun w' => Below w.heap.size w w' ∧ w.heap.size ≤ w'.heap.size ∧ w'.cell? ⟨w.heap.size, 0, none⟩ = some (.int .i64 sz) ∧ w'.cell? ⟨w.heap.size, 1, none⟩ = some (.slice a n cap))
      (first | assumption | (exact ⟨SB.out.drew, s2, s3, s4⟩) | (exact ⟨SB.out, s2, s3, s4⟩) | (refine box_keep (W0 := w) (g := w.heap.size) (B := w.heap.size) (x := .int .i64 sz) (y := .slice a n cap) hb2 ?_; assumption))
      (first | (go_at_call 89; with_reducible refine (c1 _ (HI.out.keep (by apply And.left; assumption))).mono ?_; rintro e w2 ⟨rfl, hb2⟩) | (go_at_call 89; with_reducible refine (c2 _ (HI.out.keep (by apply And.left; assumption))).mono ?_; rintro e w2 ⟨rfl, hb2⟩))
    have hB2 : Below w.heap.size w w2 := by apply And.left; assumption
    go_wp2
    go_ret
    exact ⟨ret_int E3.out.symm, hB2⟩

end Go.Proofs.YtgimknplckkiaaaDoor.dims
