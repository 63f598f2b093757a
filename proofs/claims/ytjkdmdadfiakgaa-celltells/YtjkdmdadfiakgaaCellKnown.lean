/-
  The contract of the statements' common head: the chapter's example holds.
-/
import Derived.Test.YtjkdmdadfiakgaaCellAll
namespace Go.Proofs.Ytjkdmdadfiakgaa.cell
open Go.ChangeShapes Go.WideShapes Go.ChangeAt Go.RowKit
set_option linter.unusedVariables false

theorem all_3 : all [3, -1] = ⟨2, 2, -1, 3⟩ := by simp [all, allOn, mrg, one, zero, wrap64]; omega
theorem sound_0 : sound ⟨0, 0, 0, 0⟩ = true := by simp [sound]
theorem sound_1 : sound ⟨0, 1, 0, 0⟩ = false := by simp [sound]

/-- a contract whose world is told by 'Below', carried over another one -/
theorem known_any (w : World) :
    Calls Try.prog 12 #[] w fun e w' => e = .returned (.bool true) ∧ Below w.heap.size w w' := by
  go_enter Try.func12, Try.ntmps12
  go_wp2_with fail
  have hA := all_any (some ⟨w.heap.size, 0, none⟩) 2 2 [3, -1] (w.alloc (.cells #[.int .i64 3, .int .i64 (-1)] 2)) (.inr ⟨_, _, rfl, by
    intro i hi
    match i, hi with
    | 0, _ => simp
    | 1, _ => simp⟩) rfl (by omega)
  rw [all_3] at hA
  refine hA.mono ?_
  rintro e w1 ⟨rfl, hb1⟩
  clear hA
  go_wp2_with fail
  refine (of_any _ _).mono ?_
  rintro e w2 ⟨rfl, rfl⟩
  go_wp2_with fail
  have hS := sound_any ⟨0, 0, 0, 0⟩ (w1.alloc (.cells #[.int .i64 1, .int .i64 4, .int .i64 4, .int .i64 4] 23))
  rw [sound_0] at hS
  refine hS.mono ?_
  rintro e w2 ⟨rfl, hb2⟩
  clear hS
  go_wp2_with fail
  have hS := sound_any ⟨0, 1, 0, 0⟩ w2
  rw [sound_1] at hS
  refine hS.mono ?_
  rintro e w3 ⟨rfl, hb3⟩
  clear hS
  go_wp2
  go_ret
  refine ⟨rfl, ?_⟩
  have s1 := hb1.size
  have s2 := hb2.size
  simp at s1 s2
  refine Below.trans (Below.trans (Below.trans ?_ (hb1.mono (by simp))) (Below.trans ?_ (hb2.mono (by simp; omega)))) (hb3.mono (by omega))
  · (repeat (first | with_reducible exact Below.refl _ _ | (with_reducible refine Below.drew ?_) | (with_reducible refine Below.alloc ?_ (by first | omega | (simp; done) | (simp; omega)) _) | (with_reducible refine Below.setCell ?_ (by first | exact Nat.le_refl _ | omega | (simp; done) | (simp; omega)) _)))
  · (repeat (first | with_reducible exact Below.refl _ _ | (with_reducible refine Below.drew ?_) | (with_reducible refine Below.alloc ?_ (by first | omega | (simp; done) | (simp; omega)) _) | (with_reducible refine Below.setCell ?_ (by first | exact Nat.le_refl _ | omega | (simp; done) | (simp; omega)) _)))
end Go.Proofs.Ytjkdmdadfiakgaa.cell
