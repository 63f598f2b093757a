/-
  The walk of the statement CellBounds.
-/
import Derived.Test.YtjkdmdadfiakgaaCellKnown
namespace Go.Proofs.Ytjkdmdadfiakgaa.cell
open Go.ChangeShapes Go.WideShapes Go.ChangeAt Go.RowKit
set_option linter.unusedVariables false

theorem bounds_no (c : C4) (h : c.n < 0 ∨ 0 < c.n ∧ c.hi < c.lo ∨ c.n = 0 ∧ (c.s ≠ 0 ∨ c.lo ≠ 0 ∨ c.hi ≠ 0)) : sound c = false := by
  rw [sound_alt]
  by_cases h0 : c.n ≤ 0
  · rw [if_pos h0, decide_eq_false_iff_not]; omega
  · rw [if_neg h0, decide_eq_false_iff_not]; omega
theorem bounds_yes (c : C4) (h : ¬ (c.n < 0 ∨ 0 < c.n ∧ c.hi < c.lo ∨ c.n = 0 ∧ (c.s ≠ 0 ∨ c.lo ≠ 0 ∨ c.hi ≠ 0))) (h1 : c.n ≠ 1) : sound c = true := by
  rw [sound_alt]
  by_cases h0 : c.n ≤ 0
  · rw [if_pos h0, decide_eq_true_iff]; omega
  · rw [if_neg h0, decide_eq_true_iff]; omega

theorem b_neg (c : C4) (w : World) (h1 : c.n < 0) (s : Hid (sound c = false)) :
    Calls Try.prog 4 #[.agg #[.int .i64 c.n, .int .i64 c.s, .int .i64 c.lo, .int .i64 c.hi]] w fun e w' => e = .returned (.bool true) ∧ Below w.heap.size w w' := by
  have C : Hid (∀ w1, Calls Try.prog 14 #[.agg #[.int .i64 c.n, .int .i64 c.s, .int .i64 c.lo, .int .i64 c.hi]] w1 fun e w' => e = .returned (.bool false) ∧ Below w1.heap.size w1 w') := by
    show ∀ w1, _
    intro w1; have := sound_any c w1; rw [s.out] at this; exact this
  clear s
  go_enter Try.func4, Try.ntmps4
  go_wp2_with fail
  refine (known_any _).mono ?_
  rintro e w1 ⟨rfl, hb1⟩
  obtain ⟨r0, r1, r2, r3, _⟩ : Has w1 w.heap.size c.n c.s c.lo c.hi := keep4 hb1 (by simp) (by unfold Has; simp [go_sem])
  go_wp2_with fail
  refine (C.out _).mono ?_
  rintro e w2 ⟨rfl, hb2⟩
  go_wp2
  go_ret
  refine ⟨rfl, ?_⟩
  have z1 := hb1.size
  simp at z1
  refine Below.trans (Below.trans ?_ (hb1.mono (by simp))) (hb2.mono (by omega))
  (repeat (first | with_reducible exact Below.refl _ _ | (with_reducible refine Below.drew ?_) | (with_reducible refine Below.alloc ?_ (by first | omega | (simp; done) | (simp; omega)) _) | (with_reducible refine Below.setCell ?_ (by first | exact Nat.le_refl _ | omega | (simp; done) | (simp; omega)) _)))

theorem b_above (c : C4) (w : World) (h1 : ¬ c.n < 0) (h2 : 0 < c.n) (h3 : c.hi < c.lo) (s : Hid (sound c = false)) :
    Calls Try.prog 4 #[.agg #[.int .i64 c.n, .int .i64 c.s, .int .i64 c.lo, .int .i64 c.hi]] w fun e w' => e = .returned (.bool true) ∧ Below w.heap.size w w' := by
  have C : Hid (∀ w1, Calls Try.prog 14 #[.agg #[.int .i64 c.n, .int .i64 c.s, .int .i64 c.lo, .int .i64 c.hi]] w1 fun e w' => e = .returned (.bool false) ∧ Below w1.heap.size w1 w') := by
    show ∀ w1, _
    intro w1; have := sound_any c w1; rw [s.out] at this; exact this
  clear s
  go_enter Try.func4, Try.ntmps4
  go_wp2_with fail
  refine (known_any _).mono ?_
  rintro e w1 ⟨rfl, hb1⟩
  obtain ⟨r0, r1, r2, r3, _⟩ : Has w1 w.heap.size c.n c.s c.lo c.hi := keep4 hb1 (by simp) (by unfold Has; simp [go_sem])
  go_wp2_with fail
  refine (C.out _).mono ?_
  rintro e w2 ⟨rfl, hb2⟩
  go_wp2
  go_ret
  refine ⟨rfl, ?_⟩
  have z1 := hb1.size
  simp at z1
  refine Below.trans (Below.trans ?_ (hb1.mono (by simp))) (hb2.mono (by omega))
  (repeat (first | with_reducible exact Below.refl _ _ | (with_reducible refine Below.drew ?_) | (with_reducible refine Below.alloc ?_ (by first | omega | (simp; done) | (simp; omega)) _) | (with_reducible refine Below.setCell ?_ (by first | exact Nat.le_refl _ | omega | (simp; done) | (simp; omega)) _)))

theorem b_many (c : C4) (w : World) (h1 : ¬ c.n < 0) (h2 : 0 < c.n) (h3 : ¬ c.hi < c.lo) (h4 : (c.n == 0) = false) (h5 : (c.n == 1) = false) (s : Hid (sound c = true)) :
    Calls Try.prog 4 #[.agg #[.int .i64 c.n, .int .i64 c.s, .int .i64 c.lo, .int .i64 c.hi]] w fun e w' => e = .returned (.bool true) ∧ Below w.heap.size w w' := by
  have C : Hid (∀ w1, Calls Try.prog 14 #[.agg #[.int .i64 c.n, .int .i64 c.s, .int .i64 c.lo, .int .i64 c.hi]] w1 fun e w' => e = .returned (.bool true) ∧ Below w1.heap.size w1 w') := by
    show ∀ w1, _
    intro w1; have := sound_any c w1; rw [s.out] at this; exact this
  clear s
  go_enter Try.func4, Try.ntmps4
  go_wp2_with fail
  refine (known_any _).mono ?_
  rintro e w1 ⟨rfl, hb1⟩
  obtain ⟨r0, r1, r2, r3, _⟩ : Has w1 w.heap.size c.n c.s c.lo c.hi := keep4 hb1 (by simp) (by unfold Has; simp [go_sem])
  go_wp2_with fail
  refine (C.out _).mono ?_
  rintro e w2 ⟨rfl, hb2⟩
  go_wp2
  go_ret
  refine ⟨rfl, ?_⟩
  have z1 := hb1.size
  simp at z1
  refine Below.trans (Below.trans ?_ (hb1.mono (by simp))) (hb2.mono (by omega))
  (repeat (first | with_reducible exact Below.refl _ _ | (with_reducible refine Below.drew ?_) | (with_reducible refine Below.alloc ?_ (by first | omega | (simp; done) | (simp; omega)) _) | (with_reducible refine Below.setCell ?_ (by first | exact Nat.le_refl _ | omega | (simp; done) | (simp; omega)) _)))

theorem b_sum (c : C4) (w : World) (h1 : ¬ c.n < 0) (h2 : ¬ 0 < c.n) (h4 : (c.n == 0) = true) (h5 : (c.s != 0) = true) (s : Hid (sound c = false)) :
    Calls Try.prog 4 #[.agg #[.int .i64 c.n, .int .i64 c.s, .int .i64 c.lo, .int .i64 c.hi]] w fun e w' => e = .returned (.bool true) ∧ Below w.heap.size w w' := by
  have C : Hid (∀ w1, Calls Try.prog 14 #[.agg #[.int .i64 c.n, .int .i64 c.s, .int .i64 c.lo, .int .i64 c.hi]] w1 fun e w' => e = .returned (.bool false) ∧ Below w1.heap.size w1 w') := by
    show ∀ w1, _
    intro w1; have := sound_any c w1; rw [s.out] at this; exact this
  clear s
  go_enter Try.func4, Try.ntmps4
  go_wp2_with fail
  refine (known_any _).mono ?_
  rintro e w1 ⟨rfl, hb1⟩
  obtain ⟨r0, r1, r2, r3, _⟩ : Has w1 w.heap.size c.n c.s c.lo c.hi := keep4 hb1 (by simp) (by unfold Has; simp [go_sem])
  go_wp2_with fail
  refine (C.out _).mono ?_
  rintro e w2 ⟨rfl, hb2⟩
  go_wp2
  go_ret
  refine ⟨rfl, ?_⟩
  have z1 := hb1.size
  simp at z1
  refine Below.trans (Below.trans ?_ (hb1.mono (by simp))) (hb2.mono (by omega))
  (repeat (first | with_reducible exact Below.refl _ _ | (with_reducible refine Below.drew ?_) | (with_reducible refine Below.alloc ?_ (by first | omega | (simp; done) | (simp; omega)) _) | (with_reducible refine Below.setCell ?_ (by first | exact Nat.le_refl _ | omega | (simp; done) | (simp; omega)) _)))

theorem b_lo (c : C4) (w : World) (h1 : ¬ c.n < 0) (h2 : ¬ 0 < c.n) (h4 : (c.n == 0) = true) (h5 : (c.s != 0) = false) (h6 : (c.lo != 0) = true) (s : Hid (sound c = false)) :
    Calls Try.prog 4 #[.agg #[.int .i64 c.n, .int .i64 c.s, .int .i64 c.lo, .int .i64 c.hi]] w fun e w' => e = .returned (.bool true) ∧ Below w.heap.size w w' := by
  have C : Hid (∀ w1, Calls Try.prog 14 #[.agg #[.int .i64 c.n, .int .i64 c.s, .int .i64 c.lo, .int .i64 c.hi]] w1 fun e w' => e = .returned (.bool false) ∧ Below w1.heap.size w1 w') := by
    show ∀ w1, _
    intro w1; have := sound_any c w1; rw [s.out] at this; exact this
  clear s
  go_enter Try.func4, Try.ntmps4
  go_wp2_with fail
  refine (known_any _).mono ?_
  rintro e w1 ⟨rfl, hb1⟩
  obtain ⟨r0, r1, r2, r3, _⟩ : Has w1 w.heap.size c.n c.s c.lo c.hi := keep4 hb1 (by simp) (by unfold Has; simp [go_sem])
  go_wp2_with fail
  refine (C.out _).mono ?_
  rintro e w2 ⟨rfl, hb2⟩
  go_wp2
  go_ret
  refine ⟨rfl, ?_⟩
  have z1 := hb1.size
  simp at z1
  refine Below.trans (Below.trans ?_ (hb1.mono (by simp))) (hb2.mono (by omega))
  (repeat (first | with_reducible exact Below.refl _ _ | (with_reducible refine Below.drew ?_) | (with_reducible refine Below.alloc ?_ (by first | omega | (simp; done) | (simp; omega)) _) | (with_reducible refine Below.setCell ?_ (by first | exact Nat.le_refl _ | omega | (simp; done) | (simp; omega)) _)))

theorem b_hi (c : C4) (w : World) (h1 : ¬ c.n < 0) (h2 : ¬ 0 < c.n) (h4 : (c.n == 0) = true) (h5 : (c.s != 0) = false) (h6 : (c.lo != 0) = false) (h7 : (c.hi != 0) = true) (s : Hid (sound c = false)) :
    Calls Try.prog 4 #[.agg #[.int .i64 c.n, .int .i64 c.s, .int .i64 c.lo, .int .i64 c.hi]] w fun e w' => e = .returned (.bool true) ∧ Below w.heap.size w w' := by
  have C : Hid (∀ w1, Calls Try.prog 14 #[.agg #[.int .i64 c.n, .int .i64 c.s, .int .i64 c.lo, .int .i64 c.hi]] w1 fun e w' => e = .returned (.bool false) ∧ Below w1.heap.size w1 w') := by
    show ∀ w1, _
    intro w1; have := sound_any c w1; rw [s.out] at this; exact this
  clear s
  go_enter Try.func4, Try.ntmps4
  go_wp2_with fail
  refine (known_any _).mono ?_
  rintro e w1 ⟨rfl, hb1⟩
  obtain ⟨r0, r1, r2, r3, _⟩ : Has w1 w.heap.size c.n c.s c.lo c.hi := keep4 hb1 (by simp) (by unfold Has; simp [go_sem])
  go_wp2_with fail
  refine (C.out _).mono ?_
  rintro e w2 ⟨rfl, hb2⟩
  go_wp2
  go_ret
  refine ⟨rfl, ?_⟩
  have z1 := hb1.size
  simp at z1
  refine Below.trans (Below.trans ?_ (hb1.mono (by simp))) (hb2.mono (by omega))
  (repeat (first | with_reducible exact Below.refl _ _ | (with_reducible refine Below.drew ?_) | (with_reducible refine Below.alloc ?_ (by first | omega | (simp; done) | (simp; omega)) _) | (with_reducible refine Below.setCell ?_ (by first | exact Nat.le_refl _ | omega | (simp; done) | (simp; omega)) _)))

theorem b_none (c : C4) (w : World) (h1 : ¬ c.n < 0) (h2 : ¬ 0 < c.n) (h4 : (c.n == 0) = true) (h5 : (c.s != 0) = false) (h6 : (c.lo != 0) = false) (h7 : (c.hi != 0) = false) (h8 : (c.n == 1) = false) (s : Hid (sound c = true)) :
    Calls Try.prog 4 #[.agg #[.int .i64 c.n, .int .i64 c.s, .int .i64 c.lo, .int .i64 c.hi]] w fun e w' => e = .returned (.bool true) ∧ Below w.heap.size w w' := by
  have C : Hid (∀ w1, Calls Try.prog 14 #[.agg #[.int .i64 c.n, .int .i64 c.s, .int .i64 c.lo, .int .i64 c.hi]] w1 fun e w' => e = .returned (.bool true) ∧ Below w1.heap.size w1 w') := by
    show ∀ w1, _
    intro w1; have := sound_any c w1; rw [s.out] at this; exact this
  clear s
  go_enter Try.func4, Try.ntmps4
  go_wp2_with fail
  refine (known_any _).mono ?_
  rintro e w1 ⟨rfl, hb1⟩
  obtain ⟨r0, r1, r2, r3, _⟩ : Has w1 w.heap.size c.n c.s c.lo c.hi := keep4 hb1 (by simp) (by unfold Has; simp [go_sem])
  go_wp2_with fail
  refine (C.out _).mono ?_
  rintro e w2 ⟨rfl, hb2⟩
  go_wp2
  go_ret
  refine ⟨rfl, ?_⟩
  have z1 := hb1.size
  simp at z1
  refine Below.trans (Below.trans ?_ (hb1.mono (by simp))) (hb2.mono (by omega))
  (repeat (first | with_reducible exact Below.refl _ _ | (with_reducible refine Below.drew ?_) | (with_reducible refine Below.alloc ?_ (by first | omega | (simp; done) | (simp; omega)) _) | (with_reducible refine Below.setCell ?_ (by first | exact Nat.le_refl _ | omega | (simp; done) | (simp; omega)) _)))

theorem b_one (c : C4) (w : World) (h1 : ¬ c.n < 0) (h2 : 0 < c.n) (h3 : ¬ c.hi < c.lo) (h4 : (c.n == 0) = false) (h5 : (c.n == 1) = true) :
    Calls Try.prog 4 #[.agg #[.int .i64 c.n, .int .i64 c.s, .int .i64 c.lo, .int .i64 c.hi]] w fun e w' => e = .returned (.bool true) ∧ Below w.heap.size w w' := by
  go_enter Try.func4, Try.ntmps4
  go_wp2_with fail
  refine (known_any _).mono ?_
  rintro e w1 ⟨rfl, hb1⟩
  obtain ⟨r0, r1, r2, r3, _⟩ : Has w1 w.heap.size c.n c.s c.lo c.hi := keep4 hb1 (by simp) (by unfold Has; simp [go_sem])
  go_wp2
  go_ret
  refine ⟨rfl, ?_⟩
  refine Below.trans ?_ (hb1.mono (by simp))
  (repeat (first | with_reducible exact Below.refl _ _ | (with_reducible refine Below.drew ?_) | (with_reducible refine Below.alloc ?_ (by first | omega | (simp; done) | (simp; omega)) _) | (with_reducible refine Below.setCell ?_ (by first | exact Nat.le_refl _ | omega | (simp; done) | (simp; omega)) _)))

theorem bounds_walk (c : C4) (w : World) :
    Calls Try.prog 4 #[.agg #[.int .i64 c.n, .int .i64 c.s, .int .i64 c.lo, .int .i64 c.hi]] w fun e w' => e = .returned (.bool true) ∧ Below w.heap.size w w' := by
  have N := bounds_no c
  have Y := bounds_yes c
  by_cases h1 : c.n < 0
  · exact b_neg c w h1 (N (.inl h1))
  by_cases h2 : 0 < c.n
  · by_cases h3 : c.hi < c.lo
    · exact b_above c w h1 h2 h3 (N (.inr (.inl ⟨h2, h3⟩)))
    · by_cases h4 : c.n = 1
      · exact b_one c w h1 h2 h3 (by simp; omega) (by simp [h4])
      · exact b_many c w h1 h2 h3 (by simp; omega) (by simp [h4]) (Y (by omega) h4)
  · have h4 : c.n = 0 := by omega
    have h8 : (c.n == 1) = false := by simp; omega
    have h9 : (c.n == 0) = true := by simp [h4]
    by_cases h5 : c.s = 0
    · by_cases h6 : c.lo = 0
      · by_cases h7 : c.hi = 0
        · exact b_none c w h1 h2 h9 (by simp [h5]) (by simp [h6]) (by simp [h7]) h8 (Y (by omega) (by omega))
        · exact b_hi c w h1 h2 h9 (by simp [h5]) (by simp [h6]) (by simp [h7]) (N (by omega))
      · exact b_lo c w h1 h2 h9 (by simp [h5]) (by simp [h6]) (N (by omega))
    · exact b_sum c w h1 h2 h9 (by simp [h5]) (N (by omega))
end Go.Proofs.Ytjkdmdadfiakgaa.cell
