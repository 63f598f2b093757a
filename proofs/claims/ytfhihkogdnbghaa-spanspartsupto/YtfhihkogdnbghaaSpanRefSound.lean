/-
  The contract of the chapter's Sound.
-/
import Derived.Test.YtfhihkogdnbghaaSpanSound
namespace Go.Proofs.Ytfhihkogdnbghaa.spans
open Go.ChangeShapes Go.WideShapes Go.ChangeAt Go.RowKit Go.Deep
open Go.Proofs.Ytfhihkogdnbghaa.bytes (ret_bool hid nth addr_add cell_lt own_below own_mono)
set_option linter.unusedVariables false
set_option maxRecDepth 100000
set_option linter.unusedSimpArgs false

theorem okB_no {size nodes : Int} {l : List Sp} {k : Nat} (h : ¬ ((spn l k).1 < size ∧ (0 ≤ (spn l k).2 ∧ (spn l k).2 < min nodes 6) ∧ (k = 0 → (spn l k).1 = 0) ∧ (k ≠ 0 → (spn l (k - 1)).1 < (spn l k).1 ∧ (spn l k).2 ≠ (spn l (k - 1)).2))) : okB size nodes l k = false := by
  cases e : okB size nodes l k
  · rfl
  · exact absurd (okB_iff.1 e) h

set_option maxRecDepth 100000 in
set_option maxHeartbeats 16000000 in
theorem refSound_any (ep : Int) (a : Option Addr) (n c : Nat) (l : List Sp) (size nodes : Int) (w : World) (h : Sps w a n c l) :
    Calls Try.prog 18 #[mapV ep a n c, .int .i64 size, .int .i64 nodes] w fun e w' => e = .returned (.bool (sndB size nodes l)) ∧ Below w.heap.size w w' := by
  have hnn : n ≤ 9223372036854775807 := Nat.le_trans h.cap h.big
  unfold mapV
  obtain ⟨W0, hW⟩ : ∃ W0, w.alloc (.cells #[.int .u32 ep, .slice a n c] 29) = W0 := ⟨_, rfl⟩
  have hB : Below w.heap.size w W0 := by rw [← hW]; exact (Below.refl _ w).alloc (Nat.le_refl _) _
  have hM : Bx W0 w.heap.size #[.int .u32 ep, .slice a n c] 29 := by rw [← hW]; exact Bx.new _ _ _
  have H : Aside (Sps W0 a n c l ∧ Below w.heap.size w W0 ∧ Bx W0 w.heap.size #[.int .u32 ep, .slice a n c] 29) := ⟨h.keep hB, hB, hM⟩
  have HW : Hid (w.alloc (.cells #[.int .u32 ep, .slice a n c] 29) = W0) := hW
  clear h hB hW hM
  have e0 : Hid (∀ k, k < n → okB size nodes l k = false → sndB size nodes l = false) := fun k hk h0 => by
    unfold sndB
    rw [H.out.1.len, range_not hk h0, Bool.and_false]
  have e1 : Hid ((List.range n).all (okB size nodes l) = true → sndB size nodes l = (decide (1 ≤ n) && decide (n ≤ 40))) := fun h1 => by
    unfold sndB
    rw [H.out.1.len, h1, Bool.and_true]
  go_enter Try.func18, Try.ntmps18
  go_wp2_with fail
  rw [HW.out]
  go_loopg [7] n (fun g1 vi wr => ∃ (k : Nat), vi = .int .i64 k ∧ k ≤ n ∧ n - k ≤ g1 ∧ Aside (Below W0.heap.size W0 wr ∧ (List.range k).all (okB size nodes l) = true))
  case atStart => exact ⟨0, rfl, Nat.zero_le _, Nat.le_refl _, Below.refl _ _, rfl⟩
  case round =>
    obtain ⟨k, rfl, hk, hg1, SK⟩ := hrel
    have HBW : Aside (Below w.heap.size w wr) := H.out.2.1.trans (SK.out.1.mono H.out.2.1.size)
    have m1 := (H.out.2.2.below SK.out.1).cell (j := 1) (x := .slice a n c) rfl
    by_cases hlt : k < n
    · have hltz : (k : Int) < (n : Int) := by omega
      have hkl : k < l.length := by rw [H.out.1.len]; exact hlt
      obtain ⟨b, off, ha, hc⟩ := (H.out.1.keep SK.out.1).mem.get hkl
      subst ha
      obtain ⟨r1, r2, -, -⟩ := hc k hkl
      have y1 := fun (h : 0 < k) => (hc (k - 1) (by omega)).1
      have y2 := fun (h : 0 < k) => (hc (k - 1) (by omega)).2.1
      clear hc
      have no : Hid (¬ ((spn l k).1 < size ∧ (0 ≤ (spn l k).2 ∧ (spn l k).2 < min nodes 6) ∧ (k = 0 → (spn l k).1 = 0) ∧ (k ≠ 0 → (spn l (k - 1)).1 < (spn l k).1 ∧ (spn l k).2 ≠ (spn l (k - 1)).2)) → sndB size nodes l = false) := fun h => e0.out k hlt (okB_no h)
      have yes : Hid (((spn l k).1 < size ∧ (0 ≤ (spn l k).2 ∧ (spn l k).2 < min nodes 6) ∧ (k = 0 → (spn l k).1 = 0) ∧ (k ≠ 0 → (spn l (k - 1)).1 < (spn l k).1 ∧ (spn l k).2 ≠ (spn l (k - 1)).2)) → (List.range (k + 1)).all (okB size nodes l) = true) := fun h => range_all SK.out.2 (okB_iff.2 h)
      generalize (spn l k).1 = x1 at r1 no yes
      generalize (spn l k).2 = x2 at r2 no yes
      generalize (spn l (k - 1)).1 = z1 at y1 no yes
      generalize (spn l (k - 1)).2 = z2 at y2 no yes
      have HS : Aside (Below W0.heap.size W0 wr) := SK.out.1
      clear SK
      obtain ⟨mn, hmn⟩ : ∃ mn, min nodes 6 = mn := ⟨_, rfl⟩
      rw [hmn] at no yes
      by_cases h1 : x2 < 0
      · have E : Hid (sndB size nodes l = false) := no.out (fun h => by have := h.2.1.1; omega)
        clear y1 y2 no yes
        go_wp2
        all_goals (go_ret; exact ⟨ret_bool E.out.symm, HBW.out⟩)
      by_cases h2 : x2 < mn
      rotate_left
      · have E : Hid (sndB size nodes l = false) := no.out (fun h => by have := h.2.1.2; omega)
        have h2' : mn ≤ x2 := by omega
        clear y1 y2 no yes
        go_wp2
        all_goals (go_ret; exact ⟨ret_bool E.out.symm, HBW.out⟩)
      have h2' : ¬ mn ≤ x2 := by omega
      by_cases h3 : x1 < size
      rotate_left
      · have E : Hid (sndB size nodes l = false) := no.out (fun h => by have := h.1; omega)
        have h3' : size ≤ x1 := by omega
        clear y1 y2 no yes
        go_wp2
        all_goals (go_ret; exact ⟨ret_bool E.out.symm, HBW.out⟩)
      have h3' : ¬ size ≤ x1 := by omega
      by_cases h0 : k = 0
      · subst h0
        by_cases h4 : x1 = 0
        rotate_left
        · have E : Hid (sndB size nodes l = false) := no.out (fun h => h4 (h.2.2.1 rfl))
          have d1 : (x1 != 0) = true := by simp [h4]
          have d2 : (x1 == 0) = false := by simp [h4]
          simp only [Nat.zero_mul, Nat.add_zero] at r1 r2
          clear y1 y2 no yes
          go_wp2
          all_goals (go_ret; exact ⟨ret_bool E.out.symm, HBW.out⟩)
        have Y : Aside (_ = true) := yes.out ⟨h3, ⟨by omega, h2⟩, fun _ => h4, fun h => absurd rfl h⟩
        subst h4
        simp only [Nat.zero_mul, Nat.add_zero] at r1 r2
        clear y1 y2 no yes
        go_wp2_with fail
        all_goals
          go_quiet (fail)
          have SB : Aside (Below W0.heap.size W0 (wr.drewN nq)) := below_drewN HS.out nq
          go_wp2
          go_roundg (n - (0 + 1))
          case measure => omega
          case rel => exact ⟨0 + 1, by go_num, by omega, by omega, SB.out, Y.out⟩
      · have hk0 : 0 < k := by omega
        have Y1 := y1 hk0
        have Y2 := y2 hk0
        clear y1 y2
        obtain ⟨k', rfl⟩ : ∃ k', k = k' + 1 := ⟨k - 1, by omega⟩
        rw [Nat.add_sub_cancel] at Y1 Y2
        have hkp : ((k' + 1 : Nat) : Int) - 1 = (k' : Int) := by omega
        have hkz : (0 : Int) < ((k' + 1 : Nat) : Int) := by omega
        have hkn : (k' : Int) < (n : Int) := by omega
        have hke : (((k' + 1 : Nat) : Int) == 0) = false := by simp; omega
        by_cases h5 : z1 < x1
        rotate_left
        · have E : Hid (sndB size nodes l = false) := no.out (fun h => by have := (h.2.2.2 (by omega)).1; omega)
          have h5' : x1 ≤ z1 := by omega
          have d5 : decide (x1 ≤ z1) = true := decide_eq_true h5'
          clear no yes h0
          go_wp2_with fail
          all_goals
            go_quiet (fail)
            have SB : Aside (Below w.heap.size w (wr.drewN nq)) := below_drewN HBW.out nq
            go_wp2
            go_ret
            exact ⟨ret_bool E.out.symm, SB.out⟩
        have h5' : ¬ x1 ≤ z1 := by omega
        have d5 : decide (x1 ≤ z1) = false := decide_eq_false h5'
        by_cases h6 : x2 = z2
        · have E : Hid (sndB size nodes l = false) := no.out (fun h => (h.2.2.2 (by omega)).2 h6)
          have d6 : (x2 == z2) = true := by simp [h6]
          clear no yes h0 h6
          go_wp2_with fail
          all_goals
            go_quiet (fail)
            have SB : Aside (Below w.heap.size w (wr.drewN nq)) := below_drewN HBW.out nq
            go_wp2
            go_ret
            exact ⟨ret_bool E.out.symm, SB.out⟩
        have Y : Aside (_ = true) := yes.out ⟨h3, ⟨by omega, h2⟩, fun h => absurd h h0, fun _ => ⟨h5, h6⟩⟩
        have d6 : (x2 == z2) = false := by simp [h6]
        clear no yes h0 h6
        go_wp2_with fail
        all_goals
          go_quiet (fail)
          have SB : Aside (Below W0.heap.size W0 (wr.drewN nq)) := below_drewN HS.out nq
          go_wp2
          go_roundg (n - (k' + 1 + 1))
          case measure => omega
          case rel => exact ⟨k' + 1 + 1, by go_num, by omega, by omega, SB.out, Y.out⟩
    · have hltz : ¬ (k : Int) < (n : Int) := by omega
      have E : Hid (sndB size nodes l = (decide (1 ≤ n) && decide (n ≤ 40))) := by
        obtain rfl : k = n := by omega
        exact e1.out SK.out.2
      by_cases hA : 1 ≤ n
      · have hAz : (1 : Int) ≤ (n : Int) := by omega
        by_cases hC : n ≤ 40
        · have hCz : (n : Int) ≤ 40 := by omega
          have E2 : Hid (sndB size nodes l = true) := by show _ = _; rw [E.out, decide_eq_true hA, decide_eq_true hC]; rfl
          clear hA hC
          go_wp2
          go_ret
          exact ⟨ret_bool E2.out.symm, HBW.out⟩
        · have hCz : ¬ (n : Int) ≤ 40 := by omega
          have E2 : Hid (sndB size nodes l = false) := by show _ = _; rw [E.out, decide_eq_false hC, Bool.and_false]
          clear hA hC
          go_wp2
          go_ret
          exact ⟨ret_bool E2.out.symm, HBW.out⟩
      · have hAz : ¬ (1 : Int) ≤ (n : Int) := by omega
        have E2 : Hid (sndB size nodes l = false) := by show _ = _; rw [E.out, decide_eq_false hA, Bool.false_and]
        clear hA
        go_wp2
        go_ret
        exact ⟨ret_bool E2.out.symm, HBW.out⟩
end Go.Proofs.Ytfhihkogdnbghaa.spans
