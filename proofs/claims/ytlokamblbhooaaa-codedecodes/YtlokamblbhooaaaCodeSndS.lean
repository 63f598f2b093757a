/-
  The program's soundSpans, soundEntries.
-/
import Derived.Test.YtlokamblbhooaaaCodeSnd
namespace Go.Proofs.Ytlokamblbhooaaa.code
open Go.ChangeShapes Go.WideShapes Go.ChangeAt Go.RowKit Go.Deep
open Go.Proofs.Ytlokamblbhooaaa.dims (nth Ints cell_lt vals vals_len vals_get vals_one vals_app own_below own_mono own_out own_apart RowOut ret_bool ret_int)
set_option linter.unusedVariables false
set_option maxRecDepth 100000

set_option maxHeartbeats 4000000 in
theorem soundSpans_any (a : Option Addr) (n c : Nat) (ss : List PSpan) (w : World) (hI : SpansIn w a ss) (hn : ss.length = n) (hm : n ≤ 9223372036854775807) :
    Calls Try.prog 29 #[.slice a n c] w fun e w' => e = .returned (.bool (spansOk ss)) ∧ Below w.heap.size w w' := by
  by_cases h6 : 40 < n
  · have E : Hid (spansOk ss = false) := spansOk_long (by omega)
    have h6z : (40 : Int) < (n : Int) := by omega
    clear hI hn
    go_enter Try.func29, Try.ntmps29
    go_wp2
    go_ret
    exact ⟨ret_bool E.out.symm, Below.refl _ _⟩
  have h6z : ¬ (40 : Int) < (n : Int) := by omega
  have HI : Aside (SpansIn w a ss ∧ ss.length = n) := ⟨hI, hn⟩
  clear hI hn
  go_enter Try.func29, Try.ntmps29
  go_wp2_with fail
  go_loopg [10] n (fun g1 vi wr => ∃ (k : Nat), vi = .int .i64 k ∧ k ≤ n ∧ n - k ≤ g1 ∧ Aside (Below w.heap.size w wr ∧ ∀ i, i < k → (0 ≤ (spn ss i).1 ∧ (spn ss i).1 ≤ 9999) ∧ 0 ≤ (spn ss i).2 ∧ (spn ss i).2 ≤ 5))
  case atStart => exact ⟨0, rfl, Nat.zero_le _, Nat.le_refl _, Below.refl _ _, fun i hi => by omega⟩
  case round =>
    obtain ⟨k, rfl, hk, hg1, SK⟩ := hrel
    by_cases hlt : k < n
    · have hltz : (k : Int) < (n : Int) := by omega
      have hkl : k < ss.length := by rw [HI.out.2]; exact hlt
      obtain ⟨b, off, ha, hc⟩ := (HI.out.1.keep SK.out.1).get hkl
      subst ha
      obtain ⟨r0, r1, r2⟩ := hc k hkl
      have hb1 : Below wr.heap.size wr (wr.alloc (.cells #[.int .i64 (spn ss k).1, .int .i64 (spn ss k).2] 63)) := by (repeat (first | with_reducible exact Below.refl _ _ | (with_reducible refine Below.drew ?_) | (with_reducible refine Below.alloc ?_ (by first | omega | (simp; done) | (simp; omega)) _) | (with_reducible refine Below.setCell ?_ (by first | exact Nat.le_refl _ | omega | (simp; done) | (simp; omega)) _)))
      have SB : Aside (Below w.heap.size w _) := SK.out.1.trans (hb1.mono SK.out.1.size)
      obtain ⟨t, ht⟩ : ∃ t, decide (0 ≤ (spn ss k).1 ∧ (spn ss k).1 ≤ 9999) = t := ⟨_, rfl⟩
      have hK := within_is (spn ss k).1 9999 t ht
      obtain ⟨t2, ht2⟩ : ∃ t, decide (0 ≤ (spn ss k).2 ∧ (spn ss k).2 ≤ 5) = t := ⟨_, rfl⟩
      have hK2 := within_is (spn ss k).2 5 t2 ht2
      have S2 : Aside (if t = true ∧ t2 = true then (∀ i, i < k + 1 → (0 ≤ (spn ss i).1 ∧ (spn ss i).1 ≤ 9999) ∧ 0 ≤ (spn ss i).2 ∧ (spn ss i).2 ≤ 5) else spansOk ss = false) := by
        show ite _ _ _
        split
        · rename_i htt
          obtain ⟨rfl, rfl⟩ := htt
          intro i hi
          by_cases e : i = k
          · subst e; exact ⟨of_decide_eq_true ht, of_decide_eq_true ht2⟩
          · exact SK.out.2 i (by omega)
        · rename_i htt
          refine spansOk_not (spn_mem hkl) fun h => htt ?_
          rw [← ht, ← ht2]
          exact ⟨decide_eq_true h.1, decide_eq_true h.2⟩
      clear hc ht ht2 r2 hb1
      generalize (spn ss k).1 = x0 at r0 hK SB
      generalize (spn ss k).2 = x1 at r1 hK2 SB
      cases t with
      | false =>
        go_wp2_with (go_at_call 31; refine (hK _).mono ?_; rintro e w1 ⟨rfl, rfl⟩)
        go_ret
        exact ⟨ret_bool (by have := S2.out; simp at this; exact this.symm), SB.out⟩
      | true =>
        cases t2 with
        | false =>
          go_wp2_with (go_at_call 31; refine (hK _).mono ?_; rintro e w1 ⟨rfl, rfl⟩; refine Hid.out ?_)
          refine hid ?_
          go_wp2_with (go_at_call 31; refine (hK2 _).mono ?_; rintro e w1 ⟨rfl, rfl⟩)
          go_ret
          exact ⟨ret_bool (by have := S2.out; simp at this; exact this.symm), SB.out⟩
        | true =>
          go_wp2_with (go_at_call 31; refine (hK _).mono ?_; rintro e w1 ⟨rfl, rfl⟩; refine Hid.out ?_)
          refine hid ?_
          go_wp2_with (go_at_call 31; refine (hK2 _).mono ?_; rintro e w1 ⟨rfl, rfl⟩)
          go_roundg (n - (k + 1))
          case measure => omega
          case rel => exact ⟨k + 1, by go_num, by omega, by omega, SB.out, by have := S2.out; simpa using this⟩
    · have hltz : ¬ (k : Int) < (n : Int) := by omega
      have E : Hid (spansOk ss = true) := spansOk_all (by have := HI.out.2; omega) fun i hi => by
        have := SK.out.2 i (by have := HI.out.2; omega)
        rwa [spn_eq hi] at this
      go_wp2
      go_ret
      exact ⟨ret_bool E.out.symm, SK.out.1⟩
end Go.Proofs.Ytlokamblbhooaaa.code
