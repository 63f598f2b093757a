/-
  The walk of the statement CellMerges.
-/
import Derived.Test.YtjkdmdadfiakgaaCellKnown
import Derived.Deep.RegionHeld3
namespace Go.Proofs.Ytjkdmdadfiakgaa.cell
open Go.ChangeShapes Go.WideShapes Go.ChangeAt Go.RowKit
set_option linter.unusedVariables false

theorem below_keep {B : Nat} {W0 W w1 : World} (h : Below B W0 W) (hB : B ≤ W0.heap.size) (hb : Below W.heap.size W w1) : Below B W0 w1 :=
  h.trans (hb.mono (Nat.le_trans hB h.size))

theorem two_keep {B i j : Nat} {W0 W w1 : World} {a b : C4} (hb : Below W.heap.size W w1)
    (h : Below B W0 W ∧ W.cell? ⟨i, 0, none⟩ = some (.int .i64 a.n) ∧ W.cell? ⟨i, 1, none⟩ = some (.int .i64 a.s) ∧ W.cell? ⟨i, 2, none⟩ = some (.int .i64 a.lo) ∧ W.cell? ⟨i, 3, none⟩ = some (.int .i64 a.hi) ∧
      W.cell? ⟨j, 0, none⟩ = some (.int .i64 b.n) ∧ W.cell? ⟨j, 1, none⟩ = some (.int .i64 b.s) ∧ W.cell? ⟨j, 2, none⟩ = some (.int .i64 b.lo) ∧ W.cell? ⟨j, 3, none⟩ = some (.int .i64 b.hi)) (hB : B ≤ W0.heap.size) :
    Below B W0 w1 ∧ w1.cell? ⟨i, 0, none⟩ = some (.int .i64 a.n) ∧ w1.cell? ⟨i, 1, none⟩ = some (.int .i64 a.s) ∧ w1.cell? ⟨i, 2, none⟩ = some (.int .i64 a.lo) ∧ w1.cell? ⟨i, 3, none⟩ = some (.int .i64 a.hi) ∧
      w1.cell? ⟨j, 0, none⟩ = some (.int .i64 b.n) ∧ w1.cell? ⟨j, 1, none⟩ = some (.int .i64 b.s) ∧ w1.cell? ⟨j, 2, none⟩ = some (.int .i64 b.lo) ∧ w1.cell? ⟨j, 3, none⟩ = some (.int .i64 b.hi) := by
  obtain ⟨h0, h1, h2, h3, h4, h5, h6, h7, h8⟩ := h
  have k := fun {p : Addr} {v : Value} (h : W.cell? p = some v) => (hb.cell (block_lt_of_cell h)).trans h
  exact ⟨below_keep h0 hB hb, k h1, k h2, k h3, k h4, k h5, k h6, k h7, k h8⟩

set_option maxHeartbeats 2000000 in
theorem merges_walk (a b : C4) (w : World) :
    Calls Try.prog 5 #[.agg #[.int .i64 a.n, .int .i64 a.s, .int .i64 a.lo, .int .i64 a.hi], .agg #[.int .i64 b.n, .int .i64 b.s, .int .i64 b.lo, .int .i64 b.hi]] w fun e w' => e = .returned (.bool true) ∧ Below w.heap.size w w' := by
  go_enter Try.func5, Try.ntmps5
  go_wp2_with fail
  go_region_held3 (fun w' => Below w.heap.size w w' ∧ w'.cell? ⟨w.heap.size, 0, none⟩ = some (.int .i64 a.n) ∧ w'.cell? ⟨w.heap.size, 1, none⟩ = some (.int .i64 a.s) ∧ w'.cell? ⟨w.heap.size, 2, none⟩ = some (.int .i64 a.lo) ∧ w'.cell? ⟨w.heap.size, 3, none⟩ = some (.int .i64 a.hi) ∧ w'.cell? ⟨w.heap.size + 1, 0, none⟩ = some (.int .i64 b.n) ∧ w'.cell? ⟨w.heap.size + 1, 1, none⟩ = some (.int .i64 b.s) ∧ w'.cell? ⟨w.heap.size + 1, 2, none⟩ = some (.int .i64 b.lo) ∧ w'.cell? ⟨w.heap.size + 1, 3, none⟩ = some (.int .i64 b.hi))
    (first | (exact ⟨by (repeat (first | with_reducible exact Below.refl _ _ | (with_reducible refine Below.drew ?_) | (with_reducible refine Below.alloc ?_ (by first | omega | (simp; done) | (simp; omega)) _) | (with_reducible refine Below.setCell ?_ (by first | exact Nat.le_refl _ | omega | (simp; done) | (simp; omega)) _))); done, by simp [go_sem]; done⟩) | (refine two_keep (a := a) (b := b) (B := w.heap.size) (W0 := w) hb ?_ (Nat.le_refl _); assumption))
    (first | (go_at_call 12; refine (known_any _).mono ?_; rintro e w1 ⟨rfl, hb⟩) | (go_at_call 11; refine (merge_any a b _).mono ?_; rintro e w1 ⟨rfl, hb⟩) | (go_at_call 15; refine (refMerge_any a b _).mono ?_; rintro e w1 ⟨rfl, hb⟩) | (go_at_call 14; refine (sound_any _ _).mono ?_; rintro e w1 ⟨rfl, hb⟩) | (go_at_call 16; refine (refSound_any _ _).mono ?_; rintro e w1 ⟨rfl, hb⟩))
  go_wp2
  go_ret
  refine ⟨rfl, ?_⟩
  apply And.left
  assumption
end Go.Proofs.Ytjkdmdadfiakgaa.cell
