/-
  The walk of the statement RankTwice.
-/
import Derived.Test.YtpaelakaolggmaaRankKnown
import Derived.Test.YtpaelakaolggmaaRankQuo
import Derived.Deep.RegionHeld3
namespace Go.Proofs.Ytpaelakaolggmaa.rank
open Go.ChangeShapes Go.WideShapes Go.ChangeAt Go.RowKit Go.Deep
set_option linter.unusedVariables false

/-- both cells' means are of one height -/
theorem twice_cmp {n s : Int} {x y : Nat} (hn : n.natAbs < 4503599627370496) (hs : s.natAbs < 4503599627370496) (hx : meanOk n s x) (hy : meanOk (2 * n) (2 * s) y) : cmpH (hgt x) (hgt y) = 0 := by
  rw [hgt_of_mean hx, hgt_of_mean hy]
  unfold mh
  rw [quo_twice hn hs]
  exact cmpH_self _

theorem two_keep {w0 W w' : World} {B : Nat} {n s n2 s2 : Int} (hb : Below W.heap.size W w') (hB : B + 1 < W.heap.size)
    (h : Below B w0 W ∧ W.cell? ⟨B, 0, none⟩ = some (.int .i64 n) ∧ W.cell? ⟨B, 1, none⟩ = some (.int .i64 s) ∧ W.cell? ⟨B, 2, none⟩ = some (.int .i64 0) ∧ W.cell? ⟨B, 3, none⟩ = some (.int .i64 0) ∧ W.cell? ⟨B + 1, 0, none⟩ = some (.int .i64 n2) ∧ W.cell? ⟨B + 1, 1, none⟩ = some (.int .i64 s2) ∧ W.cell? ⟨B + 1, 2, none⟩ = some (.int .i64 0) ∧ W.cell? ⟨B + 1, 3, none⟩ = some (.int .i64 0)) :
    Below B w0 w' ∧ w'.cell? ⟨B, 0, none⟩ = some (.int .i64 n) ∧ w'.cell? ⟨B, 1, none⟩ = some (.int .i64 s) ∧ w'.cell? ⟨B, 2, none⟩ = some (.int .i64 0) ∧ w'.cell? ⟨B, 3, none⟩ = some (.int .i64 0) ∧ w'.cell? ⟨B + 1, 0, none⟩ = some (.int .i64 n2) ∧ w'.cell? ⟨B + 1, 1, none⟩ = some (.int .i64 s2) ∧ w'.cell? ⟨B + 1, 2, none⟩ = some (.int .i64 0) ∧ w'.cell? ⟨B + 1, 3, none⟩ = some (.int .i64 0) := by
  obtain ⟨h0, h1, h2, h3, h4, h5, h6, h7, h8⟩ := h
  have k : ∀ c o, c < W.heap.size → w'.cell? ⟨c, o, none⟩ = W.cell? ⟨c, o, none⟩ := fun c o hc => hb.cell (p := ⟨c, o, none⟩) hc
  exact ⟨h0.trans (hb.mono (by omega)), (k _ _ (by omega)).trans h1, (k _ _ (by omega)).trans h2, (k _ _ (by omega)).trans h3, (k _ _ (by omega)).trans h4, (k _ _ hB).trans h5, (k _ _ hB).trans h6, (k _ _ hB).trans h7, (k _ _ hB).trans h8⟩

theorem lt_of_cell {W : World} {c o : Nat} {v : Value} (h : W.cell? ⟨c, o, none⟩ = some v) : c < W.heap.size := by
  by_cases hc : c < W.heap.size
  · exact hc
  · exfalso
    have : W.heap[c]? = none := Array.getElem?_eq_none (by omega)
    simp [World.cell?, this] at h

theorem two_keep' {w0 W w' : World} {B : Nat} {n s n2 s2 : Int} (hb : Below W.heap.size W w')
    (h : Below B w0 W ∧ W.cell? ⟨B, 0, none⟩ = some (.int .i64 n) ∧ W.cell? ⟨B, 1, none⟩ = some (.int .i64 s) ∧ W.cell? ⟨B, 2, none⟩ = some (.int .i64 0) ∧ W.cell? ⟨B, 3, none⟩ = some (.int .i64 0) ∧ W.cell? ⟨B + 1, 0, none⟩ = some (.int .i64 n2) ∧ W.cell? ⟨B + 1, 1, none⟩ = some (.int .i64 s2) ∧ W.cell? ⟨B + 1, 2, none⟩ = some (.int .i64 0) ∧ W.cell? ⟨B + 1, 3, none⟩ = some (.int .i64 0)) :
    Below B w0 w' ∧ w'.cell? ⟨B, 0, none⟩ = some (.int .i64 n) ∧ w'.cell? ⟨B, 1, none⟩ = some (.int .i64 s) ∧ w'.cell? ⟨B, 2, none⟩ = some (.int .i64 0) ∧ w'.cell? ⟨B, 3, none⟩ = some (.int .i64 0) ∧ w'.cell? ⟨B + 1, 0, none⟩ = some (.int .i64 n2) ∧ w'.cell? ⟨B + 1, 1, none⟩ = some (.int .i64 s2) ∧ w'.cell? ⟨B + 1, 2, none⟩ = some (.int .i64 0) ∧ w'.cell? ⟨B + 1, 3, none⟩ = some (.int .i64 0) :=
  two_keep hb (lt_of_cell h.2.2.2.2.2.1) h

set_option maxHeartbeats 4000000 in
theorem twice_walk (n s : Int) (hn : -2147483648 ≤ n ∧ n ≤ 2147483647) (hs : -2147483648 ≤ s ∧ s ≤ 2147483647) (w : World) :
    Calls Try.prog 3 #[.int .i32 n, .int .i32 s] w fun e w' => e = .returned (.bool true) ∧ Below w.heap.size w w' := by
  obtain ⟨hn1, hn2⟩ := hn
  obtain ⟨hs1, hs2⟩ := hs
  have hn3 : n.natAbs < 4503599627370496 := by omega
  have hs3 : s.natAbs < 4503599627370496 := by omega
  go_enter Try.func3, Try.ntmps3
  go_wp2_with fail
  go_region_held3 (fun w' => Below w.heap.size w w' ∧ w'.cell? ⟨w.heap.size, 0, none⟩ = some (.int .i64 n) ∧ w'.cell? ⟨w.heap.size, 1, none⟩ = some (.int .i64 s) ∧ w'.cell? ⟨w.heap.size, 2, none⟩ = some (.int .i64 0) ∧ w'.cell? ⟨w.heap.size, 3, none⟩ = some (.int .i64 0) ∧ w'.cell? ⟨w.heap.size + 1, 0, none⟩ = some (.int .i64 (2 * n)) ∧ w'.cell? ⟨w.heap.size + 1, 1, none⟩ = some (.int .i64 (2 * s)) ∧ w'.cell? ⟨w.heap.size + 1, 2, none⟩ = some (.int .i64 0) ∧ w'.cell? ⟨w.heap.size + 1, 3, none⟩ = some (.int .i64 0))
    (first | assumption | (exact ⟨by (repeat (first | with_reducible exact Below.refl _ _ | (with_reducible refine Below.drew ?_) | (with_reducible refine Below.alloc ?_ (by first | omega | (simp; done) | (simp; omega)) _) | (with_reducible refine Below.setCell ?_ (by first | exact Nat.le_refl _ | omega | (simp; done) | (simp; omega)) _))); done, by simp [go_sem]; done⟩) | (refine two_keep' (n := n) (s := s) (n2 := 2 * n) (s2 := 2 * s) (B := w.heap.size) (w0 := w) hb ?_; assumption))
    (first | (go_at_call 11; refine (known_any _).mono ?_; rintro e w2 ⟨rfl, hb⟩) | (go_at_call 13; with_reducible refine (mean_any n s 0 0 _).mono ?_; rintro e w2 ⟨x, hx, rfl, hb⟩) | (go_at_call 13; with_reducible refine (mean_any (2 * n) (2 * s) 0 0 _).mono ?_; rintro e w2 ⟨y, hy, rfl, hb⟩) | (go_at_call 12; refine (cmp_val x y 0 hx.1 hy.1 (twice_cmp hn3 hs3 hx hy) _).mono ?_; rintro e w2 ⟨rfl, rfl⟩))
  go_wp2
  go_ret
  refine ⟨rfl, ?_⟩
  apply And.left
  assumption
end Go.Proofs.Ytpaelakaolggmaa.rank
