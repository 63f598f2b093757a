/-
  The contract of pile.take: what the pile's four cells hold behind it.
-/
import Derived.Test.YthdknjndcahhoaaDoorCellLeaf
namespace Go.Proofs.YthdknjndcahhoaaDoor.cell
open Go.ChangeShapes Go.WideShapes Go.ChangeAt Go.RowKit
set_option linter.unusedVariables false
set_option maxRecDepth 100000

/-- four numbers stand in a block of their own, and may be written -/
def Has (w : World) (b : Nat) (n s lo hi : Int) : Prop :=
  w.cell? ⟨b, 0, none⟩ = some (.int .i64 n) ∧ w.cell? ⟨b, 1, none⟩ = some (.int .i64 s) ∧ w.cell? ⟨b, 2, none⟩ = some (.int .i64 lo) ∧ w.cell? ⟨b, 3, none⟩ = some (.int .i64 hi) ∧
  w.frozen? ⟨b, 0, none⟩ = false ∧ w.frozen? ⟨b, 1, none⟩ = false ∧ w.frozen? ⟨b, 2, none⟩ = false ∧ w.frozen? ⟨b, 3, none⟩ = false

theorem take_first (b : Nat) (n s lo hi n' s' lo' hi' : Int) (w : World) (hb : b < w.heap.size) (h : Has w b n s lo hi) (hn : (n == 0) = true) :
    Calls Tryd.prog 63 #[.pointer (some ⟨b, 0, none⟩), .agg #[.int .i64 n', .int .i64 s', .int .i64 lo', .int .i64 hi']] w fun e w' => e = .returned (.tuple #[]) ∧ Below b w w' ∧ Has w' b n' s' lo' hi' := by
  obtain ⟨c0, c1, c2, c3, f0, f1, f2, f3⟩ := h
  have hb1 : b < w.heap.size + 1 := by omega
  have hb2 : b < w.heap.size + 1 + 1 := by omega
  have hb3 : b < w.heap.size + 1 + 1 + 1 := by omega
  go_enter Tryd.func63, Tryd.ntmps63
  go_wp2
  go_end0
  refine ⟨rfl, ?_, ?_⟩
  · (repeat (first | with_reducible exact Below.refl _ _ | (with_reducible refine Below.drew ?_) | (with_reducible refine Below.alloc ?_ (by first | omega | (simp; done) | (simp; omega)) _) | (with_reducible refine Below.setCell ?_ (by first | exact Nat.le_refl _ | omega | (simp; done) | (simp; omega)) _)))
  · unfold Has; simp [go_sem, *]

theorem take_none (b : Nat) (n s lo hi n' s' lo' hi' : Int) (w : World) (hb : b < w.heap.size) (h : Has w b n s lo hi) (hn : (n == 0) = false) (hn' : (n' == 0) = true) :
    Calls Tryd.prog 63 #[.pointer (some ⟨b, 0, none⟩), .agg #[.int .i64 n', .int .i64 s', .int .i64 lo', .int .i64 hi']] w fun e w' => e = .returned (.tuple #[]) ∧ Below b w w' ∧ Has w' b n s lo hi := by
  obtain ⟨c0, c1, c2, c3, f0, f1, f2, f3⟩ := h
  have hb1 : b < w.heap.size + 1 := by omega
  have hb2 : b < w.heap.size + 1 + 1 := by omega
  have hb3 : b < w.heap.size + 1 + 1 + 1 := by omega
  go_enter Tryd.func63, Tryd.ntmps63
  go_wp2
  go_end0
  refine ⟨rfl, ?_, ?_⟩
  · (repeat (first | with_reducible exact Below.refl _ _ | (with_reducible refine Below.drew ?_) | (with_reducible refine Below.alloc ?_ (by first | omega | (simp; done) | (simp; omega)) _) | (with_reducible refine Below.setCell ?_ (by first | exact Nat.le_refl _ | omega | (simp; done) | (simp; omega)) _)))
  · unfold Has; simp [go_sem, *]

set_option maxHeartbeats 1000000 in
theorem take_both (b : Nat) (n s lo hi n' s' lo' hi' : Int) (w : World) (hb : b < w.heap.size) (h : Has w b n s lo hi) (hn : (n == 0) = false) (hn' : (n' == 0) = false) :
    Calls Tryd.prog 63 #[.pointer (some ⟨b, 0, none⟩), .agg #[.int .i64 n', .int .i64 s', .int .i64 lo', .int .i64 hi']] w fun e w' => e = .returned (.tuple #[]) ∧ Below b w w' ∧ Has w' b (wrap64 (n + n')) (wrap64 (s + s')) (min lo lo') (max hi hi') := by
  obtain ⟨c0, c1, c2, c3, f0, f1, f2, f3⟩ := h
  have hb1 : b < w.heap.size + 1 := by omega
  have hb2 : b < w.heap.size + 1 + 1 := by omega
  have hb3 : b < w.heap.size + 1 + 1 + 1 := by omega
  by_cases hlo : lo' < lo <;> by_cases hhi : hi < hi'
  all_goals
    go_enter Tryd.func63, Tryd.ntmps63
    go_wp2
    go_region
    go_wp2
    go_region
    go_wp2
    go_region
    go_wp2
    go_region
    go_wp2
    go_end0
    refine ⟨rfl, ?_, ?_⟩
    · (repeat (first | with_reducible exact Below.refl _ _ | (with_reducible refine Below.drew ?_) | (with_reducible refine Below.alloc ?_ (by first | omega | (simp; done) | (simp; omega)) _) | (with_reducible refine Below.setCell ?_ (by first | exact Nat.le_refl _ | omega | (simp; done) | (simp; omega)) _)))
    · clear hb2 hb3
      unfold Has
      simp [go_sem, *]
      omega
end Go.Proofs.YthdknjndcahhoaaDoor.cell
