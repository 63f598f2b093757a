/-
  The contracts of cell.Sound and of the chapter's Sound.
-/
import Derived.Test.YthdknjndcahhoaaDoorCellMerge
namespace Go.Proofs.YthdknjndcahhoaaDoor.cell
open Go.ChangeShapes Go.WideShapes Go.ChangeAt Go.RowKit
set_option linter.unusedVariables false
set_option maxRecDepth 100000

theorem ret_bool {a b : Bool} (h : a = b) : Ending.returned (.bool a) = .returned (.bool b) := by rw [h]

theorem sound_none (c : C4) (w : World) (hn1 : (c.n == 0) = true) (E : Hid (sound c = decide (c.s = 0 ∧ c.lo = 0 ∧ c.hi = 0))) :
    Calls Tryd.prog 50 #[.agg #[.int .i64 c.n, .int .i64 c.s, .int .i64 c.lo, .int .i64 c.hi]] w fun e w' => e = .returned (.bool (sound c)) ∧ Below w.heap.size w w' := by
  go_enter Tryd.func50, Tryd.ntmps50
  go_wp2
  all_goals
    go_ret
    refine ⟨ret_bool ?_, ?_⟩
    · rw [E.out]; simp [*]
    · (repeat (first | with_reducible exact Below.refl _ _ | (with_reducible refine Below.drew ?_) | (with_reducible refine Below.alloc ?_ (by first | omega | (simp; done) | (simp; omega)) _) | (with_reducible refine Below.setCell ?_ (by first | exact Nat.le_refl _ | omega | (simp; done) | (simp; omega)) _)))

set_option maxHeartbeats 1000000 in
theorem sound_one (c : C4) (w : World) (hn1 : (c.n == 0) = false) (hm1 : (c.n == 1) = true) (hm : c.n = 1) (E : Hid (sound c = decide (c.lo = c.s ∧ c.hi = c.s))) :
    Calls Tryd.prog 50 #[.agg #[.int .i64 c.n, .int .i64 c.s, .int .i64 c.lo, .int .i64 c.hi]] w fun e w' => e = .returned (.bool (sound c)) ∧ Below w.heap.size w w' := by
  by_cases h2 : c.lo = c.s
  · by_cases h3 : c.hi = c.s
    all_goals
      go_enter Tryd.func50, Tryd.ntmps50
      go_wp2_with fail
      go_region_with (go_at_call 28; refine (of_any _ _).mono ?_; rintro e w' ⟨rfl, rfl⟩)
      all_goals
        go_wp2
        go_ret
        refine ⟨ret_bool ?_, ?_⟩
        · rw [E.out]; simp [*]
        · (repeat (first | with_reducible exact Below.refl _ _ | (with_reducible refine Below.drew ?_) | (with_reducible refine Below.alloc ?_ (by first | omega | (simp; done) | (simp; omega)) _) | (with_reducible refine Below.setCell ?_ (by first | exact Nat.le_refl _ | omega | (simp; done) | (simp; omega)) _)))
  · go_enter Tryd.func50, Tryd.ntmps50
    go_wp2_with fail
    go_region_with (go_at_call 28; refine (of_any _ _).mono ?_; rintro e w' ⟨rfl, rfl⟩)
    all_goals
      go_wp2
      go_ret
      refine ⟨ret_bool ?_, ?_⟩
      · rw [E.out]; simp [*]
      · (repeat (first | with_reducible exact Below.refl _ _ | (with_reducible refine Below.drew ?_) | (with_reducible refine Below.alloc ?_ (by first | omega | (simp; done) | (simp; omega)) _) | (with_reducible refine Below.setCell ?_ (by first | exact Nat.le_refl _ | omega | (simp; done) | (simp; omega)) _)))

theorem sound_more (c : C4) (w : World) (hn1 : (c.n == 0) = false) (hm1 : (c.n == 1) = false) (E : Hid (sound c = decide (0 < c.n ∧ c.lo ≤ c.hi))) :
    Calls Tryd.prog 50 #[.agg #[.int .i64 c.n, .int .i64 c.s, .int .i64 c.lo, .int .i64 c.hi]] w fun e w' => e = .returned (.bool (sound c)) ∧ Below w.heap.size w w' := by
  by_cases h : 0 < c.n
  · have E2 : Hid (sound c = decide (c.lo ≤ c.hi)) := by show sound c = _; rw [E.out]; simp [h]
    go_enter Tryd.func50, Tryd.ntmps50
    go_wp2
    go_ret
    refine ⟨ret_bool E2.out.symm, ?_⟩
    (repeat (first | with_reducible exact Below.refl _ _ | (with_reducible refine Below.drew ?_) | (with_reducible refine Below.alloc ?_ (by first | omega | (simp; done) | (simp; omega)) _) | (with_reducible refine Below.setCell ?_ (by first | exact Nat.le_refl _ | omega | (simp; done) | (simp; omega)) _)))
  · have E2 : Hid (sound c = false) := by show sound c = _; rw [E.out]; simp [h]
    go_enter Tryd.func50, Tryd.ntmps50
    go_wp2
    go_ret
    refine ⟨ret_bool E2.out.symm, ?_⟩
    (repeat (first | with_reducible exact Below.refl _ _ | (with_reducible refine Below.drew ?_) | (with_reducible refine Below.alloc ?_ (by first | omega | (simp; done) | (simp; omega)) _) | (with_reducible refine Below.setCell ?_ (by first | exact Nat.le_refl _ | omega | (simp; done) | (simp; omega)) _)))

theorem sound_any (c : C4) (w : World) :
    Calls Tryd.prog 50 #[.agg #[.int .i64 c.n, .int .i64 c.s, .int .i64 c.lo, .int .i64 c.hi]] w fun e w' => e = .returned (.bool (sound c)) ∧ Below w.heap.size w w' := by
  by_cases hn : c.n = 0
  · exact sound_none c w (by simpa using hn) (by show sound c = _; unfold sound; rw [if_pos hn])
  by_cases hm : c.n = 1
  · exact sound_one c w (by simpa using hn) (by simpa using hm) hm (by show sound c = _; unfold sound; rw [if_neg hn, if_pos hm])
  · exact sound_more c w (by simpa using hn) (by simpa using hm) (by show sound c = _; unfold sound; rw [if_neg hn, if_neg hm])

theorem sound_alt (c : C4) : sound c = if c.n ≤ 0 then decide (c.n = 0 ∧ c.s = 0 ∧ c.lo = 0 ∧ c.hi = 0) else decide (c.lo ≤ c.hi ∧ (1 < c.n ∨ c.s = c.lo ∧ c.lo = c.hi)) := by
  unfold sound
  by_cases h0 : c.n = 0
  · simp [h0]
  · by_cases h1 : c.n = 1
    · rw [if_neg h0, if_pos h1, if_neg (by omega)]; congr 1; rw [eq_iff_iff]; omega
    · rw [if_neg h0, if_neg h1]
      by_cases h2 : c.n ≤ 0
      · rw [if_pos h2]; congr 1; rw [eq_iff_iff]; omega
      · rw [if_neg h2]; congr 1; rw [eq_iff_iff]; omega

theorem refSound_any (c : C4) (w : World) :
    Calls Tryd.prog 25 #[.agg #[.int .i64 c.n, .int .i64 c.s, .int .i64 c.lo, .int .i64 c.hi]] w fun e w' => e = .returned (.bool (sound c)) ∧ Below w.heap.size w w' := by
  by_cases h : c.n ≤ 0
  · have E : Hid (sound c = decide (c.n = 0 ∧ c.s = 0 ∧ c.lo = 0 ∧ c.hi = 0)) := by show sound c = _; rw [sound_alt, if_pos h]
    go_enter Tryd.func25, Tryd.ntmps25
    go_wp2
    all_goals
      go_ret
      refine ⟨ret_bool ?_, ?_⟩
      · rw [E.out]; simp [*]
      · (repeat (first | with_reducible exact Below.refl _ _ | (with_reducible refine Below.drew ?_) | (with_reducible refine Below.alloc ?_ (by first | omega | (simp; done) | (simp; omega)) _) | (with_reducible refine Below.setCell ?_ (by first | exact Nat.le_refl _ | omega | (simp; done) | (simp; omega)) _)))
  have E0 : sound c = decide (c.lo ≤ c.hi ∧ (1 < c.n ∨ c.s = c.lo ∧ c.lo = c.hi)) := by rw [sound_alt, if_neg h]
  by_cases h1 : c.lo ≤ c.hi
  · by_cases h2 : 1 < c.n
    · have E : Hid (sound c = true) := by show sound c = _; rw [E0]; simp [h1, h2]
      clear E0
      go_enter Tryd.func25, Tryd.ntmps25
      go_wp2
      go_ret
      refine ⟨ret_bool E.out.symm, ?_⟩
      (repeat (first | with_reducible exact Below.refl _ _ | (with_reducible refine Below.drew ?_) | (with_reducible refine Below.alloc ?_ (by first | omega | (simp; done) | (simp; omega)) _) | (with_reducible refine Below.setCell ?_ (by first | exact Nat.le_refl _ | omega | (simp; done) | (simp; omega)) _)))
    · by_cases h3 : c.s = c.lo
      · have E : Hid (sound c = (c.lo == c.hi)) := by show sound c = _; rw [E0, beq_iff]; simp [h1, h2, h3]
        clear E0
        go_enter Tryd.func25, Tryd.ntmps25
        go_wp2
        go_ret
        refine ⟨ret_bool E.out.symm, ?_⟩
        (repeat (first | with_reducible exact Below.refl _ _ | (with_reducible refine Below.drew ?_) | (with_reducible refine Below.alloc ?_ (by first | omega | (simp; done) | (simp; omega)) _) | (with_reducible refine Below.setCell ?_ (by first | exact Nat.le_refl _ | omega | (simp; done) | (simp; omega)) _)))
      · have E : Hid (sound c = false) := by show sound c = _; rw [E0]; simp [h1, h2, h3]
        clear E0
        go_enter Tryd.func25, Tryd.ntmps25
        go_wp2
        go_ret
        refine ⟨ret_bool E.out.symm, ?_⟩
        (repeat (first | with_reducible exact Below.refl _ _ | (with_reducible refine Below.drew ?_) | (with_reducible refine Below.alloc ?_ (by first | omega | (simp; done) | (simp; omega)) _) | (with_reducible refine Below.setCell ?_ (by first | exact Nat.le_refl _ | omega | (simp; done) | (simp; omega)) _)))
  · have E : Hid (sound c = false) := by show sound c = _; rw [E0]; simp [h1]
    clear E0
    go_enter Tryd.func25, Tryd.ntmps25
    go_wp2
    go_ret
    refine ⟨ret_bool E.out.symm, ?_⟩
    (repeat (first | with_reducible exact Below.refl _ _ | (with_reducible refine Below.drew ?_) | (with_reducible refine Below.alloc ?_ (by first | omega | (simp; done) | (simp; omega)) _) | (with_reducible refine Below.setCell ?_ (by first | exact Nat.le_refl _ | omega | (simp; done) | (simp; omega)) _)))
end Go.Proofs.YthdknjndcahhoaaDoor.cell
