/-
  The walk of the statement RankMeans.
-/
import Derived.Test.YtpaelakaolggmaaRankKnown
import Derived.Test.YtpaelakaolggmaaRankQuo
namespace Go.Proofs.Ytpaelakaolggmaa.rank
open Go.ChangeShapes Go.WideShapes Go.ChangeAt Go.RowKit Go.Deep
set_option linter.unusedVariables false

set_option maxHeartbeats 4000000 in
theorem means_walk (n s lo hi : Int) (hn : -9223372036854775808 ≤ n ∧ n ≤ 9223372036854775807) (hs : -9223372036854775808 ≤ s ∧ s ≤ 9223372036854775807) (w : World) :
    Calls Try.prog 5 #[.agg #[.int .i64 n, .int .i64 s, .int .i64 lo, .int .i64 hi]] w fun e w' => e = .returned (.bool true) ∧ Below w.heap.size w w' := by
  have hB := bits_run
  have hm := fun (w : World) => mean_any n s lo hi w
  have hr := fun (w : World) => refMean_any n s lo hi w
  go_enter Try.func5, Try.ntmps5
  go_wp2_with fail
  refine (hm _).mono ?_
  rintro e w1 ⟨b, ok1, rfl, hb1⟩
  have z1 : w.heap.size < w1.heap.size := by have := hb1.size; simp at this; omega
  have k0 : w1.cell? ⟨w.heap.size, 0, none⟩ = some (.int .i64 n) := by rw [hb1.cell (p := ⟨w.heap.size, 0, none⟩) (by simp)]; simp [go_sem]
  have k1 : w1.cell? ⟨w.heap.size, 1, none⟩ = some (.int .i64 s) := by rw [hb1.cell (p := ⟨w.heap.size, 1, none⟩) (by simp)]; simp [go_sem]
  have k2 : w1.cell? ⟨w.heap.size, 2, none⟩ = some (.int .i64 lo) := by rw [hb1.cell (p := ⟨w.heap.size, 2, none⟩) (by simp)]; simp [go_sem]
  have k3 : w1.cell? ⟨w.heap.size, 3, none⟩ = some (.int .i64 hi) := by rw [hb1.cell (p := ⟨w.heap.size, 3, none⟩) (by simp)]; simp [go_sem]
  have HB1 : Hid (Below w.heap.size w w1) := ((Below.refl _ _).alloc (Nat.le_refl _) _).trans (hb1.mono (by simp))
  clear hb1
  go_wp2_with fail
  refine (hr _).mono ?_
  rintro e w2 ⟨b', ok2, rfl, hb2⟩
  have j0 : w2.cell? ⟨w.heap.size, 0, none⟩ = some (.int .i64 n) := (hb2.cell (p := ⟨w.heap.size, 0, none⟩) z1).trans k0
  have j1 : w2.cell? ⟨w.heap.size, 1, none⟩ = some (.int .i64 s) := (hb2.cell (p := ⟨w.heap.size, 1, none⟩) z1).trans k1
  have z2 : w.heap.size < w2.heap.size := Nat.lt_of_lt_of_le z1 hb2.size
  have HB2 : Hid (Below w.heap.size w w2) := HB1.out.trans (hb2.mono (Nat.le_of_lt z1))
  clear hb2 HB1 k0 k1 k2 k3 z1 hm hr
  cases hq : quo n s with
  | some v =>
    have e1 := ok1.2.1 v hq
    have e2 := ok2.2.1 v hq
    subst e1
    have e3 : b' = b := e2
    subst e3
    have hI := isNaN_any b' ok1.1
    rw [quo_notnan hq] at hI
    clear ok1 ok2
    go_wp2_with (first | (go_at_call 11; refine (known_any _).mono ?_; rintro e w3 ⟨rfl, hb3⟩) | (go_at_call 15; refine (hI _).mono ?_; rintro e w3 ⟨rfl, rfl⟩))
    go_ret
    exact ⟨by simp, HB2.out.trans (hb3.mono (Nat.le_of_lt z2))⟩
  | none =>
    have hI1 := isNaN_any b ok1.1
    rw [ok1.2.2 hq] at hI1
    have hI2 := isNaN_any b' ok2.1
    rw [ok2.2.2 hq] at hI2
    obtain ⟨rfl, rfl⟩ := quo_none hn hs hq
    clear ok1 ok2
    go_wp2_with (first | (go_at_call 11; refine (known_any _).mono ?_; rintro e w3 ⟨rfl, hb3⟩; have i0 := (hb3.cell (p := ⟨w.heap.size, 0, none⟩) z2).trans j0; have i1 := (hb3.cell (p := ⟨w.heap.size, 1, none⟩) z2).trans j1) | (go_at_call 15; first | (with_reducible refine (hI1 _).mono ?_; rintro e w3 ⟨rfl, rfl⟩) | (with_reducible refine (hI2 _).mono ?_; rintro e w3 ⟨rfl, rfl⟩)))
    go_ret
    exact ⟨by simp, HB2.out.trans (hb3.mono (Nat.le_of_lt z2))⟩
end Go.Proofs.Ytpaelakaolggmaa.rank
