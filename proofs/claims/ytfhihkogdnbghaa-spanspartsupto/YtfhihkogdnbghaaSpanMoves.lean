/-
  The contract of spans.moves: may a range be given to a node?
-/
import Derived.Test.YtfhihkogdnbghaaSpanNodes
import Derived.Test.YtfhihkogdnbghaaSpanSound
import Derived.Test.YtfhihkogdnbghaaSpanEq
namespace Go.Proofs.Ytfhihkogdnbghaa.spans
open Go.ChangeShapes Go.WideShapes Go.ChangeAt Go.RowKit Go.Deep
open Go.Proofs.Ytfhihkogdnbghaa.bytes (ret_bool hid nth addr_add cell_lt own_below own_mono)
set_option linter.unusedVariables false
set_option maxRecDepth 100000
set_option linter.unusedSimpArgs false

theorem nodesS_any (ep : Int) (a : Option Addr) (n c : Nat) (l : List Sp) (frm till : Int) (w : World) (h : Sps w a n c l) (hnM : n ≤ maxLen) :
    Calls Try.prog 12 #[mapV ep a n c, .int .i64 frm, .int .i64 till] w fun e w' => ∃ a2 q c2, e = .returned (.slice a2 q c2) ∧ Aside (q = (nodesOf l frm till).length ∧ Ints w' a2 (nodesOf l frm till) ∧ Below w.heap.size w w') ∧ q ≤ 6 :=
  (nodes_any ep a n c l frm till w h hnM).mono fun e w' ⟨v, he, ho, hb⟩ => by
    obtain ⟨a2, c2, rfl, hI, hc⟩ := ints_out ho
    exact ⟨a2, _, c2, he, ⟨rfl, hI, hb⟩, nodes_len l frm till⟩
theorem ints_one {w : World} {g : Nat} {x : Int} (h : w.cell? ⟨g, 0, none⟩ = some (.int .i64 x)) : Ints w (some ⟨g, 0, none⟩) [x] :=
  .inr ⟨g, 0, rfl, fun i hi => by
    obtain rfl : i = 0 := by simpa using hi
    exact h⟩

set_option maxRecDepth 100000 in
set_option maxHeartbeats 4000000 in
theorem moves_any (ep : Int) (a : Option Addr) (n c : Nat) (l : List Sp) (size nodes frm till node : Int) (w : World) (h : Sps w a n c l) (hnM : n ≤ maxLen) :
    Calls Try.prog 36 #[mapV ep a n c, .int .i64 size, .int .i64 nodes, .int .i64 frm, .int .i64 till, .int .i64 node] w fun e w' => e = .returned (.bool (mayB l size nodes frm till node)) ∧ Below w.heap.size w w' := by
  obtain ⟨W0, hW0⟩ : ∃ W0, w.alloc (.cells (mapC ep a n c) 29) = W0 := ⟨_, rfl⟩
  have hb0 : Below w.heap.size w W0 := by rw [← hW0]; exact (Below.refl _ w).alloc (Nat.le_refl _) _
  have hM : Bx W0 w.heap.size (mapC ep a n c) 29 := by rw [← hW0]; exact Bx.new _ _ _
  have P : Aside (∀ W, Below W0.heap.size W0 W → W.cell? ⟨w.heap.size, 0, none⟩ = some (.int .u32 ep) ∧ W.cell? ⟨w.heap.size, 1, none⟩ = some (.slice a n c)) := fun W hb => ⟨(hM.below hb).cell (j := 0) rfl, (hM.below hb).cell (j := 1) rfl⟩
  have q0 := hM.cell (j := 0) (x := .int .u32 ep) rfl
  have q1 := hM.cell (j := 1) (x := .slice a n c) rfl
  have hS := sound_any ep a n c l size nodes W0 (h.keep hb0)
  have hI := fun W => isNode_any node nodes W
  have HN : Aside (∀ W, Below W0.heap.size W0 W → Calls Try.prog 12 #[mapV ep a n c, .int .i64 frm, .int .i64 till] W fun e w' => ∃ a2 q c2, e = .returned (.slice a2 q c2) ∧ Aside (q = (nodesOf l frm till).length ∧ Ints w' a2 (nodesOf l frm till) ∧ Below W.heap.size W w') ∧ q ≤ 6) := fun W hb => nodesS_any ep a n c l frm till W ((h.keep hb0).keep hb) hnM
  have HB : Aside (Below w.heap.size w W0) := hb0
  have HW : Hid (w.alloc (.cells #[.int .u32 ep, .slice a n c] 29) = W0) := hW0
  clear h hb0 hM hW0 hnM
  unfold mapV at hS HN ⊢
  have hm : ∀ (s nb : Bool), sndB size nodes l = s → isN node nodes = nb → Hid (mayB l size nodes frm till node = (s && decide (size ≤ 10000) && decide (0 ≤ frm) && decide (frm < till) && decide (till ≤ size) && nb && !decide (nodesOf l frm till = [node]))) := fun s nb h1 h2 => by
    show _ = _
    unfold mayB
    rw [h1, ← h2]; unfold isN; simp only [Bool.and_assoc]
  obtain ⟨s, hs⟩ : ∃ s, sndB size nodes l = s := ⟨_, rfl⟩
  obtain ⟨nb, hnb⟩ : ∃ nb, isN node nodes = nb := ⟨_, rfl⟩
  have M := hm s nb hs hnb
  rw [hs] at hS
  rw [hnb] at hI
  clear hm hs hnb
  generalize mayB l size nodes frm till node = r at M ⊢
  cases s with
  | false =>
    have E : Hid (r = false) := by show _ = _; rw [M.out]; simp
    clear M
    go_enter Try.func36, Try.ntmps36
    go_wp2_with fail
    rw [HW.out]
    go_wp2_with (go_at_call 17; refine hS.mono ?_; rintro e w1 ⟨rfl, hb1⟩)
    go_ret
    exact ⟨ret_bool E.out.symm, HB.out.trans (hb1.mono HB.out.size)⟩
  | true =>
    by_cases hz : 10000 < size
    · have E : Hid (r = false) := by show _ = _; rw [M.out, decide_eq_false (show ¬ size ≤ 10000 by omega)]; simp
      clear M
      go_enter Try.func36, Try.ntmps36
      go_wp2_with fail
      rw [HW.out]
      go_wp2_with (go_at_call 17; refine hS.mono ?_; rintro e w1 ⟨rfl, hb1⟩)
      go_ret
      exact ⟨ret_bool E.out.symm, HB.out.trans (hb1.mono HB.out.size)⟩
    cases nb with
    | false =>
      have E : Hid (r = false) := by show _ = _; rw [M.out]; simp
      clear M
      go_enter Try.func36, Try.ntmps36
      go_wp2_with fail
      rw [HW.out]
      go_wp2_with (first
        | (go_at_call 17; refine hS.mono ?_; rintro e w1 ⟨rfl, hb1⟩)
        | (go_at_call 33; refine (hI _).mono ?_; rintro e w2 ⟨rfl, rfl⟩))
      go_ret
      exact ⟨ret_bool E.out.symm, HB.out.trans (hb1.mono HB.out.size)⟩
    | true =>
      by_cases h0 : 0 ≤ frm
      rotate_left
      · have E : Hid (r = false) := by show _ = _; rw [M.out, decide_eq_false h0]; simp
        clear M
        go_enter Try.func36, Try.ntmps36
        go_wp2_with fail
        rw [HW.out]
        go_wp2_with (first
          | (go_at_call 17; refine hS.mono ?_; rintro e w1 ⟨rfl, hb1⟩)
          | (go_at_call 33; refine (hI _).mono ?_; rintro e w2 ⟨rfl, rfl⟩))
        go_ret
        exact ⟨ret_bool E.out.symm, HB.out.trans (hb1.mono HB.out.size)⟩
      by_cases h1 : frm < till
      rotate_left
      · have E : Hid (r = false) := by show _ = _; rw [M.out, decide_eq_false h1]; simp
        clear M
        go_enter Try.func36, Try.ntmps36
        go_wp2_with fail
        rw [HW.out]
        go_wp2_with (first
          | (go_at_call 17; refine hS.mono ?_; rintro e w1 ⟨rfl, hb1⟩)
          | (go_at_call 33; refine (hI _).mono ?_; rintro e w2 ⟨rfl, rfl⟩))
        go_ret
        exact ⟨ret_bool E.out.symm, HB.out.trans (hb1.mono HB.out.size)⟩
      by_cases h2 : till ≤ size
      rotate_left
      · have E : Hid (r = false) := by show _ = _; rw [M.out, decide_eq_false h2]; simp
        clear M
        go_enter Try.func36, Try.ntmps36
        go_wp2_with fail
        rw [HW.out]
        go_wp2_with (first
          | (go_at_call 17; refine hS.mono ?_; rintro e w1 ⟨rfl, hb1⟩)
          | (go_at_call 33; refine (hI _).mono ?_; rintro e w2 ⟨rfl, rfl⟩))
        go_ret
        exact ⟨ret_bool E.out.symm, HB.out.trans (hb1.mono HB.out.size)⟩
      have E : Hid (r = !decide (nodesOf l frm till = [node])) := by show _ = _; rw [M.out, decide_eq_true h0, decide_eq_true h1, decide_eq_true h2, decide_eq_true (show size ≤ 10000 by omega)]; simp
      clear M
      go_enter Try.func36, Try.ntmps36
      go_wp2_with fail
      rw [HW.out]
      go_wp2_with (first
        | (go_at_call 17; refine hS.mono ?_; rintro e w1 ⟨rfl, hb1⟩; obtain ⟨m0, m1⟩ := P.out _ hb1)
        | (go_at_call 33; refine (hI _).mono ?_; rintro e w2 ⟨rfl, rfl⟩)
        | (go_at_call 12; refine (HN.out _ hb1).mono ?_; rintro e w3 ⟨a2, q, c2, rfl, HQ, hq6⟩; have y0 := (Bx.new w3 #[.int .i64 node] 3).cell (j := 0) (x := .int .i64 node) rfl)
        | (go_at_call 47; refine (eqInts_any _ a2 (some ⟨w3.heap.size, 0, none⟩) (nodesOf l frm till) [node] q 1 c2 1 (HQ.out.2.1.keep ((Below.refl _ w3).alloc (Nat.le_refl _) _)) HQ.out.1.symm (ints_one y0) rfl (by omega) (by omega)).mono ?_; rintro e w4 ⟨rfl, hb4⟩))
      go_ret
      refine ⟨ret_bool E.out.symm, ?_⟩
      have x1 := HB.out.trans (hb1.mono HB.out.size)
      have x2 := x1.trans (HQ.out.2.2.mono x1.size)
      have x3 := x2.trans (((Below.refl _ w3).alloc (Nat.le_refl _) (.cells #[.int .i64 node] 3)).mono x2.size)
      exact x3.trans (hb4.mono x3.size)
end Go.Proofs.Ytfhihkogdnbghaa.spans
