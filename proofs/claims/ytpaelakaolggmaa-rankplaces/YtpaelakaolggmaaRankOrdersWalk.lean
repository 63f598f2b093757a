/-
  The walk of the statement RankOrders.
-/
import Derived.Test.YtpaelakaolggmaaRankNone
import Derived.Test.YtpaelakaolggmaaRankCells
namespace Go.Proofs.Ytpaelakaolggmaa.rank
open Go.ChangeShapes Go.WideShapes Go.ChangeAt Go.RowKit Go.Deep
set_option linter.unusedVariables false

/-- rows that are the call's own, as Order reads them -/
theorem rowsAt_of {w : World} {base : Nat} {g cap : Nat} {cs : List C4} (h : w.ownsRow base 49 5 (.slice (some ⟨g, 0, none⟩) cs.length cap) cs.length (flat cs)) : RowsAt w g 0 cs := by
  intro i hi
  have c : ∀ j, j < 5 → w.cell? ⟨g, 0 + i * 5 + j, none⟩ = (rowOf (nth cs i))[j]? := fun j hj => by
    rw [Nat.zero_add, World.ownsRow.cellAt h (i * 5 + j) (by omega), flat_get cs i j hi hj]
  exact ⟨by simpa [rowOf] using c 0 (by omega), by simpa [rowOf] using c 1 (by omega), by simpa [rowOf] using c 2 (by omega), by simpa [rowOf] using c 3 (by omega), by simpa [rowOf] using c 4 (by omega)⟩

set_option maxHeartbeats 4000000 in
theorem orders_long (a : Option Addr) (len cap : Nat) (w : World) (hl : 200 < len) :
    Calls Try.prog 9 #[.slice a len cap] w fun e w' => e = .returned (.bool true) ∧ Below w.heap.size w w' := by
  have hlz : (200 : Int) < (len : Int) := by omega
  have hd : decide ((len : Int) > 200) = true := decide_eq_true hlz
  go_enter Try.func9, Try.ntmps9
  go_wp2_with (go_at_call 11; refine (known_any _).mono ?_; rintro e w2 ⟨rfl, hb2⟩)
  go_ret
  exact ⟨rfl, hb2⟩

set_option maxHeartbeats 4000000 in
theorem orders_none (a : Option Addr) (cap : Nat) (w : World) :
    Calls Try.prog 9 #[.slice a 0 cap] w fun e w' => e = .returned (.bool true) ∧ Below w.heap.size w w' := by
  go_enter Try.func9, Try.ntmps9
  go_wp2_with (first | (go_at_call 11; refine (known_any _).mono ?_; rintro e w2 ⟨rfl, hb2⟩) | (go_at_call 22; refine (rows_none _ _ _).mono ?_; rintro e w3 ⟨rfl, rfl⟩) | (go_at_call 23; refine (order_none _).mono ?_; rintro e w4 ⟨rfl, hb4⟩) | (go_at_call 24; refine (refOrder_none _).mono ?_; rintro e w5 ⟨rfl, rfl⟩))
  refine wp_loop_rounds 1 ?_
  rw [rounds_succ]
  go_wp2
  go_ret
  exact ⟨rfl, hb2.trans (hb4.mono hb2.size)⟩

set_option maxHeartbeats 8000000 in
theorem orders_some (b off cap : Nat) (cs : List C4) (w : World) (hb : b < w.heap.size) (h0 : 0 < cs.length) (hn : cs.length ≤ 200) (hC : CellsAt w b off cs) :
    Calls Try.prog 9 #[.slice (some ⟨b, off, none⟩) cs.length cap] w fun e w' => e = .returned (.bool true) ∧ Below w.heap.size w w' := by
  have hrw : ∀ w2, Below w.heap.size w w2 → Calls Try.prog 22 #[.slice (some ⟨b, off, none⟩) cs.length cap] w2 fun e w' => ∃ v, e = .returned v ∧ w'.ownsRow w2.heap.size 49 5 v cs.length (flat cs) ∧ Below w2.heap.size w2 w' := fun w2 hB =>
    rows_any cs b off cap w2 (Nat.lt_of_lt_of_le hb hB.size) hn fun i hi => by
      obtain ⟨r0, r1, r2, r3⟩ := hC i hi
      exact ⟨(hB.cell (p := ⟨b, off + i * 4, none⟩) hb).trans r0, (hB.cell (p := ⟨b, off + i * 4 + 1, none⟩) hb).trans r1, (hB.cell (p := ⟨b, off + i * 4 + 2, none⟩) hb).trans r2, (hB.cell (p := ⟨b, off + i * 4 + 3, none⟩) hb).trans r3⟩
  obtain ⟨n, hnn⟩ : ∃ n, n = cs.length := ⟨_, rfl⟩
  have HN : Hid (n = cs.length) := hnn
  have HR : Aside _ := hrw
  have hlz : ¬ (200 : Int) < (n : Int) := by omega
  have hd : decide ((n : Int) > 200) = false := decide_eq_false hlz
  rw [← hnn] at HR h0 hn ⊢
  clear hnn hrw
  go_enter Try.func9, Try.ntmps9
  go_wp2_with (go_at_call 11; refine (known_any _).mono ?_; rintro e w2 ⟨rfl, hb2⟩)
  refine (HR.out w2 hb2).mono ?_
  rintro e w3 ⟨v, rfl, hown3, hb3⟩
  obtain ⟨g, cap3, hv, hg1, hg2⟩ := row_form hown3 h0
  subst hv
  have hR3 : RowsAt w3 g 0 cs := by
    have e := HN.out
    rw [e] at hown3
    exact rowsAt_of hown3
  have B3 : Aside (Below w.heap.size w w3) := hb2.trans (hb3.mono hb2.size)
  have hO := order_some cs g 0 cap3 w3 (by rw [← HN.out]; exact h0) hg2 (by rw [← HN.out]; omega) hR3
  have R3 : Aside (RowsAt w3 g 0 cs) := hR3
  rw [← HN.out] at hO
  clear hb2 hb3 hown3 HR hR3
  go_wp2_with fail
  refine hO.mono ?_
  rintro e w4 ⟨rfl, hb4, l, hl, hll, hz4, hc4⟩
  have hW : w3.heap.size < w4.heap.size := by omega
  have hR4 : RowsAt w4 g 0 cs := fun i hi => by
    obtain ⟨r0, r1, r2, r3, r4⟩ := R3.out i hi
    exact ⟨(hb4.cell (p := ⟨g, 0 + i * 5, none⟩) hg2).trans r0, (hb4.cell (p := ⟨g, 0 + i * 5 + 1, none⟩) hg2).trans r1, (hb4.cell (p := ⟨g, 0 + i * 5 + 2, none⟩) hg2).trans r2, (hb4.cell (p := ⟨g, 0 + i * 5 + 3, none⟩) hg2).trans r3, (hb4.cell (p := ⟨g, 0 + i * 5 + 4, none⟩) hg2).trans r4⟩
  have hF := refOrder_some cs g 0 cap3 w4 (by omega) (by rw [← HN.out]; exact hn) hR4
  rw [← HN.out] at hF
  have HL : Aside (IsOrd cs l) := hl
  have HC4 : Aside _ := hc4
  have B4 : Aside (Below w.heap.size w w4) := B3.out.trans (hb4.mono B3.out.size)
  clear hO hb4 hl hc4 hR4 R3 B3
  go_wp2_with fail
  refine hF.mono ?_
  rintro e w5 ⟨v, rfl, m, hm, hown5, hb5⟩
  obtain ⟨g5, cap5, hv, hg51, hg52⟩ := row_form hown5 h0
  subst hv
  have hml : m = l := by
    have h1 : IsOrd cs m := by
      have e := HN.out
      rw [e] at hm
      exact ⟨hm.perm, hm.pw⟩
    exact h1.uniq HL.out
  subst hml
  have C5 : Aside (∀ i, (hi : i < n) → w5.cell? ⟨w3.heap.size + 1 + 1, i, none⟩ = some (.int .i64 ((m[i]'(by omega) : Nat) : Int)) ∧ w5.cell? ⟨g5, i, none⟩ = some (.int .i64 ((m[i]'(by omega) : Nat) : Int))) := fun i hi => by
    constructor
    · rw [hb5.cell (p := ⟨w3.heap.size + 1 + 1, i, none⟩) hz4, (HC4.out i (by omega)).1, getElem!_pos m i (by omega)]
    · rw [World.ownsRow.cellAt hown5 i (by omega), ints_get (by omega)]
  have B5 : Aside (Below w.heap.size w w5) := B4.out.trans (hb5.mono B4.out.size)
  clear hF hm hown5 hb5 HL HC4 B4 hz4 hW
  go_wp2_with fail
  go_loopg [6] n (fun g1 vi wr => ∃ (k : Nat) (q : Nat), vi = .int .i64 k ∧ k ≤ n ∧ n - k ≤ g1 ∧ wr = w5.drewN q)
  case atStart => exact ⟨0, 0, rfl, Nat.zero_le _, Nat.le_refl _, rfl⟩
  case round =>
    obtain ⟨k, q, rfl, hk, hg1', hwr⟩ := hrel
    subst hwr
    by_cases hlt : k < n
    · have hltz : (k : Int) < (n : Int) := by omega
      obtain ⟨c1, c2⟩ := C5.out k hlt
      generalize m[k] = x at c1 c2
      go_wp2_with fail
      go_quiet (fail)
      go_wp2
      go_roundg (n - (k + 1))
      case measure => omega
      case rel => exact ⟨k + 1, _, by go_num, by omega, by omega, rfl⟩
    · have hltz : ¬ (k : Int) < (n : Int) := by omega
      go_wp2
      go_ret
      exact ⟨rfl, below_drewN B5.out q⟩

theorem orders_walk (a : Option Addr) (len cap : Nat) (w : World) (h : CellsIn w a len) :
    Calls Try.prog 9 #[.slice a len cap] w fun e w' => e = .returned (.bool true) ∧ Below w.heap.size w w' := by
  by_cases hl : 200 < len
  · exact orders_long a len cap w hl
  · by_cases h0 : len = 0
    · subst h0; exact orders_none a cap w
    · rcases h with h | ⟨b, off, cs, rfl, hb, rfl, hC⟩
      · exact absurd h h0
      · exact orders_some b off cap cs w hb (by omega) (by omega) hC
end Go.Proofs.Ytpaelakaolggmaa.rank
