/-
  The walk of the statement CellOne.
-/
import Derived.Test.YtjkdmdadfiakgaaCellRow
import Derived.Test.YtjkdmdadfiakgaaCellMergesWalk
namespace Go.Proofs.Ytjkdmdadfiakgaa.cell
open Go.ChangeShapes Go.WideShapes Go.ChangeAt Go.RowKit
set_option linter.unusedVariables false

theorem all_one (v : Int) : all [v] = ⟨1, v, v, v⟩ := by simp [all, allOn, mrg, one, zero]
theorem mrg_one (v : Int) : mrg ⟨1, v, v, v⟩ ⟨1, v, v, v⟩ = ⟨2, wrap64 (v + v), v, v⟩ := by
  unfold mrg
  rw [if_neg (by simp), if_neg (by simp)]
  simp only [C4.mk.injEq]
  refine ⟨by unfold wrap64; omega, trivial, by omega, by omega⟩
theorem sound_of (v : Int) : sound ⟨1, v, v, v⟩ = true := by simp [sound]

theorem all_lit (v : Int) (W : World) :
    Calls Try.prog 13 #[.slice (some ⟨W.heap.size, 0, none⟩) 1 1] (W.alloc (.cells #[.int .i64 v] 2)) fun e w' => e = .returned (.agg #[.int .i64 1, .int .i64 v, .int .i64 v, .int .i64 v]) ∧ Below (W.alloc (.cells #[.int .i64 v] 2)).heap.size (W.alloc (.cells #[.int .i64 v] 2)) w' := by
  have hA := all_any (some ⟨W.heap.size, 0, none⟩) 1 1 [v] (W.alloc (.cells #[.int .i64 v] 2)) (.inr ⟨_, _, rfl, by
    intro i hi
    match i, hi with
    | 0, _ => simp⟩) rfl (by omega)
  rw [all_one] at hA
  exact hA
theorem sound_lit (v : Int) (W : World) :
    Calls Try.prog 14 #[.agg #[.int .i64 1, .int .i64 v, .int .i64 v, .int .i64 v]] W fun e w' => e = .returned (.bool true) ∧ Below W.heap.size W w' := by
  have h := sound_any ⟨1, v, v, v⟩ W
  rw [sound_of] at h
  exact h

set_option maxHeartbeats 2000000 in
theorem one_walk (v : Int) (w : World) :
    Calls Try.prog 3 #[.int .i64 v] w fun e w' => e = .returned (.bool true) ∧ Below w.heap.size w w' := by
  go_enter Try.func3, Try.ntmps3
  go_wp2_with fail
  refine (of_any _ _).mono ?_
  rintro e w1 ⟨rfl, rfl⟩
  go_wp2_with fail
  have hM := merge_any ⟨1, v, v, v⟩ ⟨1, v, v, v⟩ ((w.alloc (.cells #[.int .i64 1, .int .i64 v, .int .i64 v, .int .i64 v] 23)).alloc (.cells #[.int .i64 1, .int .i64 v, .int .i64 v, .int .i64 v] 23))
  rw [mrg_one] at hM
  refine hM.mono ?_
  rintro e w1 ⟨rfl, hb1⟩
  clear hM
  have hk : Has w1 (w.heap.size + 1) 1 v v v := keep4 hb1 (by simp) (by unfold Has; simp [go_sem])
  have hz1 : w.heap.size + 1 < w1.heap.size := by have := hb1.size; simp at this; omega
  have hB1 : Below w.heap.size w w1 := by
    refine Below.trans ?_ (hb1.mono (by simp; omega))
    (repeat (first | with_reducible exact Below.refl _ _ | (with_reducible refine Below.drew ?_) | (with_reducible refine Below.alloc ?_ (by first | omega | (simp; done) | (simp; omega)) _) | (with_reducible refine Below.setCell ?_ (by first | exact Nat.le_refl _ | omega | (simp; done) | (simp; omega)) _)))
  have HB : Hid (Below w.heap.size w w1) := hB1
  obtain ⟨r0, r1, r2, r3, g0, g1, g2, g3⟩ := hk
  clear hb1 hB1
  go_wp2_with fail
  have hwr : IntKind.i64.wrap (v + v) = wrap64 (v + v) := IntWalk.i64_left _
  go_region_held3 (fun w' => Below w.heap.size w w' ∧ w'.cell? ⟨w.heap.size + 1, 0, none⟩ = some (.int .i64 1) ∧ w'.cell? ⟨w.heap.size + 1, 1, none⟩ = some (.int .i64 v) ∧ w'.cell? ⟨w.heap.size + 1, 2, none⟩ = some (.int .i64 v) ∧ w'.cell? ⟨w.heap.size + 1, 3, none⟩ = some (.int .i64 v) ∧ w'.cell? ⟨w1.heap.size, 0, none⟩ = some (.int .i64 2) ∧ w'.cell? ⟨w1.heap.size, 1, none⟩ = some (.int .i64 (wrap64 (v + v))) ∧ w'.cell? ⟨w1.heap.size, 2, none⟩ = some (.int .i64 v) ∧ w'.cell? ⟨w1.heap.size, 3, none⟩ = some (.int .i64 v))
    (first | (exact ⟨HB.out.trans (by (repeat (first | with_reducible exact Below.refl _ _ | (with_reducible refine Below.drew ?_) | (with_reducible refine Below.alloc ?_ (by first | omega | (simp; done) | (simp; omega)) _) | (with_reducible refine Below.setCell ?_ (by first | exact Nat.le_refl _ | omega | (simp; done) | (simp; omega)) _))); done), by simp [go_sem, *]; done⟩) | (refine two_keep (a := ⟨1, v, v, v⟩) (b := ⟨2, wrap64 (v + v), v, v⟩) (B := w.heap.size) (W0 := w) hb ?_ (Nat.le_refl _); assumption) | (refine two_keep (a := ⟨1, v, v, v⟩) (b := ⟨2, wrap64 (v + v), v, v⟩) (B := w.heap.size) (W0 := w) ((Below.refl _ _).alloc (Nat.le_refl _) _) ?_ (Nat.le_refl _); assumption))
    (first | (go_at_call 12; refine (known_any _).mono ?_; rintro e w2 ⟨rfl, hb⟩) | (go_at_call 13; refine (all_lit v _).mono ?_; rintro e w2 ⟨rfl, hb⟩) | (go_at_call 14; refine (sound_lit v _).mono ?_; rintro e w2 ⟨rfl, hb⟩))
  go_wp2
  go_ret
  refine ⟨rfl, ?_⟩
  apply And.left
  assumption
end Go.Proofs.Ytjkdmdadfiakgaa.cell
