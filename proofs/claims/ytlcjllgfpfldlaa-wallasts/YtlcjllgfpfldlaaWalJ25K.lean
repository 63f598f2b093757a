/-
 The program's soundNodes, soundKey, soundFacts, soundSpans.
 The program's soundSpans, soundEntries.
-/
import Derived.Test.YtlcjllgfpfldlaaWalJ19K
import Derived.Test.YtlcjllgfpfldlaaCodeSndMath
namespace Go.Proofs.Ytlcjllgfpfldlaa.code
open Go.ChangeShapes Go.WideShapes Go.ChangeAt Go.RowKit Go.Deep
open Go.Proofs.Ytlcjllgfpfldlaa.dims (nth Ints cell_lt vals vals_len vals_get own_below own_mono own_out RowOut ret_bool)
set_option linter.unusedVariables false
set_option maxRecDepth 100000

theorem within_any (x m : Int) (w : World) :
  Calls Try.prog 75 #[.int .i64 x, .int .i64 m] w fun e w' => e = .returned (.bool (decide (0 ≤ x ∧ x ≤ m))) ∧ w' = w := by
 by_cases h0 : 0 ≤ x
 ·go_enter Try.func75, Try.ntmps75
  go_wp2
  go_ret
  exact ⟨ret_bool (by simp [h0]), rfl⟩
 ·go_enter Try.func75, Try.ntmps75
  go_wp2
  go_ret
  exact ⟨ret_bool (by simp; omega), rfl⟩
theorem within_is (x m : Int) (t : Bool) (h : decide (0 ≤ x ∧ x ≤ m) = t) (w : World) :
  Calls Try.prog 75 #[.int .i64 x, .int .i64 m] w fun e w' => e = .returned (.bool t) ∧ w' = w := by rw [← h]; exact within_any x m w

set_option maxHeartbeats 4000000 in
theorem soundNodes_any (a : Option Addr) (n c : Nat) (l : List Int) (w : World) (hI : Ints w a l) (hn : l.length = n) (hm : n ≤ 9223372036854775807) :
  Calls Try.prog 71 #[.slice a n c] w fun e w' => e = .returned (.bool (nodesOk l)) ∧ w' = w := by
 by_cases h6 : 6 < n
 ·have E : Hid (nodesOk l = false) := by
   show _ = _
   cases e : nodesOk l with
   | false => rfl
   | true => have := nodesOk_few e; omega
  have h6z : (6 : Int) < (n : Int) := by omega
  clear hI hn
  go_enter Try.func71, Try.ntmps71
  go_wp2
  go_ret
  exact ⟨ret_bool E.out.symm, rfl⟩
 have h6z : ¬ (6 : Int) < (n : Int) := by omega
 have HI : Aside (Ints w a l ∧ l.length = n) := ⟨hI, hn⟩
 clear hI hn
 go_enter Try.func71, Try.ntmps71
 go_wp2_with fail
 go_loopg [10] n (fun g1 vi wr => ∃ (k : Nat), vi = .int .i64 k ∧ k ≤ n ∧ n - k ≤ g1 ∧ wr = w ∧ Aside (∀ i, i < k → ndGood l i))
 case atStart => exact ⟨0, rfl, Nat.zero_le _, Nat.le_refl _, rfl, fun i hi => by omega⟩
 case round =>
  obtain ⟨k, rfl, hk, hg1, rfl, SK⟩ := hrel
  by_cases hlt : k < n
  ·have hltz : (k : Int) < (n : Int) := by omega
   have hkl : k < l.length := by rw [HI.out.2]; exact hlt
   obtain ⟨b, off, ha, hc⟩ := HI.out.1.get hkl
   subst ha
   have r0 := hc k hkl
   obtain ⟨t, ht⟩ : ∃ t, decide (0 ≤ nth l k ∧ nth l k ≤ 5) = t := ⟨_, rfl⟩
   have hW := within_is (nth l k) 5 t ht
   cases t with
   | false =>
    have E : Hid (nodesOk l = false) := nodesOk_not hkl fun h => by have := of_decide_eq_false ht; exact this h.1
    generalize nth l k = x at r0 hW
    clear hc ht
    go_wp2_with (go_at_call 75; refine (hW _).mono ?_; rintro e w1 ⟨rfl, rfl⟩)
    go_ret
    exact ⟨ret_bool E.out.symm, rfl⟩
   | true =>
    have ht2 := of_decide_eq_true ht
    by_cases hk0 : k = 0
    ·have S2 : Aside (∀ i, i < k + 1 → ndGood l i) := fun i hi => by
      obtain rfl : i = k := by omega
      exact ⟨ht2, fun h => by omega⟩
     generalize nth l k = x at r0 hW
     have hk0z : ¬ (0 : Int) < (k : Int) := by omega
     clear hc ht ht2 hk0
     go_wp2_with (go_at_call 75; refine (hW _).mono ?_; rintro e w1 ⟨rfl, rfl⟩)
     go_roundg (n - (k + 1))
     case measure => omega
     case rel => exact ⟨k + 1, by go_num, by omega, by omega, rfl, S2⟩
    ·obtain ⟨j, hj⟩ : ∃ j, k = j + 1 := ⟨k - 1, by omega⟩
     have HJ : Hid (k = j + 1) := hj
     have r1 := hc j (by omega)
     have hj1 : (k : Int) - 1 = (j : Int) := by omega
     have hj0 : (0 : Int) < (k : Int) := by omega
     have hjj : (0 : Int) ≤ (j : Int) ∧ (j : Int) < (n : Int) := by omega
     clear hj hk0
     by_cases hle : nth l k ≤ nth l j
     ·have E : Hid (nodesOk l = false) := nodesOk_not hkl fun h => by
       have h1 := h.2 (by omega)
       have h2 := HJ.out
       rw [show k - 1 = j by omega] at h1; omega
      generalize nth l k = x at r0 hW hle
      generalize nth l j = y at r1 hle
      clear hc ht ht2
      go_wp2_with (go_at_call 75; refine (hW _).mono ?_; rintro e w1 ⟨rfl, rfl⟩)
      go_ret
      exact ⟨ret_bool E.out.symm, rfl⟩
     ·have S2 : Aside (∀ i, i < k + 1 → ndGood l i) := fun i hi => by
       by_cases e : i = k
       ·subst e
        refine ⟨ht2, fun _ => ?_⟩
        rw [show i - 1 = j by have := HJ.out; omega]; omega
       ·exact SK.out i (by omega)
      generalize nth l k = x at r0 hW hle
      generalize nth l j = y at r1 hle
      clear hc ht ht2
      go_wp2_with (go_at_call 75; refine (hW _).mono ?_; rintro e w1 ⟨rfl, rfl⟩)
      go_roundg (n - (k + 1))
      case measure => omega
      case rel => exact ⟨k + 1, by go_num, by omega, by omega, rfl, S2⟩
  ·have hltz : ¬ (k : Int) < (n : Int) := by omega
   have E : Hid (nodesOk l = true) := (nodesOk_iff l).2 fun i hi => SK.out i (by have := HI.out.2; omega)
   go_wp2
   go_ret
   exact ⟨ret_bool E.out.symm, rfl⟩

set_option maxHeartbeats 4000000 in
theorem soundKey_any (a : Option Addr) (n c : Nat) (l : List Int) (w : World) (hI : Ints w a l) (hn : l.length = n) (hm : n ≤ 9223372036854775807) :
  Calls Try.prog 84 #[.slice a n c] w fun e w' => e = .returned (.bool (keyOk l)) ∧ w' = w := by
 by_cases h6 : 4 < n
 ·have E : Hid (keyOk l = false) := keyOk_long (by omega)
  have h6z : (4 : Int) < (n : Int) := by omega
  clear hI hn
  go_enter Try.func84, Try.ntmps84
  go_wp2
  go_ret
  exact ⟨ret_bool E.out.symm, rfl⟩
 have h6z : ¬ (4 : Int) < (n : Int) := by omega
 have HI : Aside (Ints w a l ∧ l.length = n) := ⟨hI, hn⟩
 clear hI hn
 go_enter Try.func84, Try.ntmps84
 go_wp2_with fail
 go_loopg [10] n (fun g1 vi wr => ∃ (k : Nat), vi = .int .i64 k ∧ k ≤ n ∧ n - k ≤ g1 ∧ wr = w ∧ Aside (∀ i, i < k → 0 ≤ nth l i ∧ nth l i ≤ 9999))
 case atStart => exact ⟨0, rfl, Nat.zero_le _, Nat.le_refl _, rfl, fun i hi => by omega⟩
 case round =>
  obtain ⟨k, rfl, hk, hg1, rfl, SK⟩ := hrel
  by_cases hlt : k < n
  ·have hltz : (k : Int) < (n : Int) := by omega
   have hkl : k < l.length := by rw [HI.out.2]; exact hlt
   obtain ⟨b, off, ha, hc⟩ := HI.out.1.get hkl
   subst ha
   have r0 := hc k hkl
   obtain ⟨t, ht⟩ : ∃ t, decide (0 ≤ nth l k ∧ nth l k ≤ 9999) = t := ⟨_, rfl⟩
   have hW := within_is (nth l k) 9999 t ht
   cases t with
   | false =>
    have E : Hid (keyOk l = false) := keyOk_not hkl (of_decide_eq_false ht)
    generalize nth l k = x at r0 hW
    clear hc ht
    go_wp2_with (go_at_call 75; refine (hW _).mono ?_; rintro e w1 ⟨rfl, rfl⟩)
    go_ret
    exact ⟨ret_bool E.out.symm, rfl⟩
   | true =>
    have ht2 := of_decide_eq_true ht
    have S2 : Aside (∀ i, i < k + 1 → 0 ≤ nth l i ∧ nth l i ≤ 9999) := fun i hi => by
     by_cases e : i = k
     ·subst e; exact ht2
     ·exact SK.out i (by omega)
    generalize nth l k = x at r0 hW
    clear hc ht ht2
    go_wp2_with (go_at_call 75; refine (hW _).mono ?_; rintro e w1 ⟨rfl, rfl⟩)
    go_roundg (n - (k + 1))
    case measure => omega
    case rel => exact ⟨k + 1, by go_num, by omega, by omega, rfl, S2⟩
  ·have hltz : ¬ (k : Int) < (n : Int) := by omega
   have E : Hid (keyOk l = true) := keyOk_at (by have := HI.out.2; omega) fun i hi => SK.out i (by have := HI.out.2; omega)
   go_wp2
   go_ret
   exact ⟨ret_bool E.out.symm, rfl⟩

set_option maxHeartbeats 4000000 in
theorem soundFacts_any (a : Option Addr) (n c : Nat) (fs : List Ft) (w : World) (hI : FactsIn w a fs) (hn : fs.length = n) (hm : n ≤ 9223372036854775807) :
  Calls Try.prog 72 #[.slice a n c] w fun e w' => e = .returned (.bool (factsOk (fs.map pf))) ∧ Below w.heap.size w w' := by
 by_cases h6 : 200 < n
 ·have E : Hid (factsOk (fs.map pf) = false) := factsOk_long (by simp; omega)
  have h6z : (200 : Int) < (n : Int) := by omega
  clear hI hn
  go_enter Try.func72, Try.ntmps72
  go_wp2
  go_ret
  exact ⟨ret_bool E.out.symm, Below.refl _ _⟩
 have h6z : ¬ (200 : Int) < (n : Int) := by omega
 have HI : Aside (FactsIn w a fs ∧ fs.length = n) := ⟨hI, hn⟩
 clear hI hn
 go_enter Try.func72, Try.ntmps72
 go_wp2_with fail
 go_loopg [10] n (fun g1 vi wr => ∃ (k : Nat), vi = .int .i64 k ∧ k ≤ n ∧ n - k ≤ g1 ∧ Aside (Below w.heap.size w wr ∧ ∀ i, i < k → keyOk (ftn fs i).k = true))
 case atStart => exact ⟨0, rfl, Nat.zero_le _, Nat.le_refl _, Below.refl _ _, fun i hi => by omega⟩
 case round =>
  obtain ⟨k, rfl, hk, hg1, SK⟩ := hrel
  by_cases hlt : k < n
  ·have hltz : (k : Int) < (n : Int) := by omega
   have hkl : k < fs.length := by rw [HI.out.2]; exact hlt
   obtain ⟨b, off, ha, hc⟩ := (HI.out.1.keep SK.out.1).get hkl
   subst ha
   obtain ⟨r0, r1, r2⟩ := hc k hkl
   have hb1 : Below wr.heap.size wr (wr.alloc (.cells #[.slice (ftn fs k).a (ftn fs k).k.length (ftn fs k).cap, .int .i64 (ftn fs k).v] 97)) := by (repeat (first | with_reducible exact Below.refl _ _ | (with_reducible refine Below.drew ?_) | (with_reducible refine Below.alloc ?_ (by first | omega | (simp; done) | (simp; omega)) _) | (with_reducible refine Below.setCell ?_ (by first | exact Nat.le_refl _ | omega | (simp; done) | (simp; omega)) _)))
   have hK := soundKey_any (ftn fs k).a (ftn fs k).k.length (ftn fs k).cap (ftn fs k).k _ (r2.mem.keep hb1) rfl r2.len
   have SB : Aside (Below w.heap.size w _) := SK.out.1.trans (hb1.mono SK.out.1.size)
   obtain ⟨t, ht⟩ : ∃ t, keyOk (ftn fs k).k = t := ⟨_, rfl⟩
   rw [ht] at hK
   cases t with
   | false =>
    have E : Hid (factsOk (fs.map pf) = false) := factsOk_not (List.mem_map.2 ⟨_, ftn_mem hkl, rfl⟩) ht
    clear hc ht r2 hb1
    generalize (ftn fs k).a = x0 at r0 hK SB
    generalize (ftn fs k).k.length = x1 at r0 hK SB
    generalize (ftn fs k).cap = x2 at r0 hK SB
    generalize (ftn fs k).v = x3 at r1 hK SB
    go_wp2_with (go_at_call 84; refine hK.mono ?_; rintro e w1 ⟨rfl, rfl⟩)
    go_ret
    exact ⟨ret_bool E.out.symm, SB.out⟩
   | true =>
    have S2 : Aside (∀ i, i < k + 1 → keyOk (ftn fs i).k = true) := fun i hi => by
     by_cases e : i = k
     ·subst e; exact ht
     ·exact SK.out.2 i (by omega)
    clear hc ht r2 hb1
    generalize (ftn fs k).a = x0 at r0 hK SB
    generalize (ftn fs k).k.length = x1 at r0 hK SB
    generalize (ftn fs k).cap = x2 at r0 hK SB
    generalize (ftn fs k).v = x3 at r1 hK SB
    go_wp2_with (go_at_call 84; refine hK.mono ?_; rintro e w1 ⟨rfl, rfl⟩)
    go_roundg (n - (k + 1))
    case measure => omega
    case rel => exact ⟨k + 1, by go_num, by omega, by omega, SB.out, S2.out⟩
  ·have hltz : ¬ (k : Int) < (n : Int) := by omega
   have E : Hid (factsOk (fs.map pf) = true) := factsOk_all (by have := HI.out.2; simp; omega) fun i hi => by
    have hi2 : i < fs.length := by simpa using hi
    have := SK.out.2 i (by have := HI.out.2; omega)
    rw [ftn_eq hi2] at this
    simpa [pf] using this
   go_wp2
   go_ret
   exact ⟨ret_bool E.out.symm, SK.out.1⟩

end Go.Proofs.Ytlcjllgfpfldlaa.code

namespace Go.Proofs.Ytlcjllgfpfldlaa.code
open Go.ChangeShapes Go.WideShapes Go.ChangeAt Go.RowKit Go.Deep
open Go.Proofs.Ytlcjllgfpfldlaa.dims (nth Ints cell_lt vals vals_len vals_get own_below own_mono own_out RowOut ret_bool)
set_option linter.unusedVariables false
set_option maxRecDepth 100000

set_option maxHeartbeats 4000000 in
theorem soundSpans_any (a : Option Addr) (n c : Nat) (ss : List PSpan) (w : World) (hI : SpansIn w a ss) (hn : ss.length = n) (hm : n ≤ 9223372036854775807) :
  Calls Try.prog 73 #[.slice a n c] w fun e w' => e = .returned (.bool (spansOk ss)) ∧ Below w.heap.size w w' := by
 by_cases h6 : 40 < n
 ·have E : Hid (spansOk ss = false) := spansOk_long (by omega)
  have h6z : (40 : Int) < (n : Int) := by omega
  clear hI hn
  go_enter Try.func73, Try.ntmps73
  go_wp2
  go_ret
  exact ⟨ret_bool E.out.symm, Below.refl _ _⟩
 have h6z : ¬ (40 : Int) < (n : Int) := by omega
 have HI : Aside (SpansIn w a ss ∧ ss.length = n) := ⟨hI, hn⟩
 clear hI hn
 go_enter Try.func73, Try.ntmps73
 go_wp2_with fail
 go_loopg [10] n (fun g1 vi wr => ∃ (k : Nat), vi = .int .i64 k ∧ k ≤ n ∧ n - k ≤ g1 ∧ Aside (Below w.heap.size w wr ∧ ∀ i, i < k → (0 ≤ (spn ss i).1 ∧ (spn ss i).1 ≤ 9999) ∧ 0 ≤ (spn ss i).2 ∧ (spn ss i).2 ≤ 5))
 case atStart => exact ⟨0, rfl, Nat.zero_le _, Nat.le_refl _, Below.refl _ _, fun i hi => by omega⟩
 case round =>
  obtain ⟨k, rfl, hk, hg1, SK⟩ := hrel
  by_cases hlt : k < n
  ·have hltz : (k : Int) < (n : Int) := by omega
   have hkl : k < ss.length := by rw [HI.out.2]; exact hlt
   obtain ⟨b, off, ha, hc⟩ := (HI.out.1.keep SK.out.1).get hkl
   subst ha
   obtain ⟨r0, r1, r2⟩ := hc k hkl
   have hb1 : Below wr.heap.size wr (wr.alloc (.cells #[.int .i64 (spn ss k).1, .int .i64 (spn ss k).2] 92)) := by (repeat (first | with_reducible exact Below.refl _ _ | (with_reducible refine Below.drew ?_) | (with_reducible refine Below.alloc ?_ (by first | omega | (simp; done) | (simp; omega)) _) | (with_reducible refine Below.setCell ?_ (by first | exact Nat.le_refl _ | omega | (simp; done) | (simp; omega)) _)))
   have SB : Aside (Below w.heap.size w _) := SK.out.1.trans (hb1.mono SK.out.1.size)
   obtain ⟨t, ht⟩ : ∃ t, decide (0 ≤ (spn ss k).1 ∧ (spn ss k).1 ≤ 9999) = t := ⟨_, rfl⟩
   have hK := within_is (spn ss k).1 9999 t ht
   obtain ⟨t2, ht2⟩ : ∃ t, decide (0 ≤ (spn ss k).2 ∧ (spn ss k).2 ≤ 5) = t := ⟨_, rfl⟩
   have hK2 := within_is (spn ss k).2 5 t2 ht2
   have S2 : Aside (if t = true ∧ t2 = true then (∀ i, i < k + 1 → (0 ≤ (spn ss i).1 ∧ (spn ss i).1 ≤ 9999) ∧ 0 ≤ (spn ss i).2 ∧ (spn ss i).2 ≤ 5) else spansOk ss = false) := by
    show ite _ _ _
    split
    ·rename_i htt
     obtain ⟨rfl, rfl⟩ := htt
     intro i hi
     by_cases e : i = k
     ·subst e; exact ⟨of_decide_eq_true ht, of_decide_eq_true ht2⟩
     ·exact SK.out.2 i (by omega)
    ·rename_i htt
     refine spansOk_not (spn_mem hkl) fun h => htt ?_
     rw [← ht, ← ht2]
     exact ⟨decide_eq_true h.1, decide_eq_true h.2⟩
   clear hc ht ht2 r2 hb1
   generalize (spn ss k).1 = x0 at r0 hK SB
   generalize (spn ss k).2 = x1 at r1 hK2 SB
   cases t with
   | false =>
    go_wp2_with (go_at_call 75; refine (hK _).mono ?_; rintro e w1 ⟨rfl, rfl⟩)
    go_ret
    exact ⟨ret_bool (by have := S2.out; simp at this; exact this.symm), SB.out⟩
   | true =>
    cases t2 with
    | false =>
     go_wp2_with (go_at_call 75; refine (hK _).mono ?_; rintro e w1 ⟨rfl, rfl⟩; refine Hid.out ?_)
     refine hid ?_
     go_wp2_with (go_at_call 75; refine (hK2 _).mono ?_; rintro e w1 ⟨rfl, rfl⟩)
     go_ret
     exact ⟨ret_bool (by have := S2.out; simp at this; exact this.symm), SB.out⟩
    | true =>
     go_wp2_with (go_at_call 75; refine (hK _).mono ?_; rintro e w1 ⟨rfl, rfl⟩; refine Hid.out ?_)
     refine hid ?_
     go_wp2_with (go_at_call 75; refine (hK2 _).mono ?_; rintro e w1 ⟨rfl, rfl⟩)
     go_roundg (n - (k + 1))
     case measure => omega
     case rel => exact ⟨k + 1, by go_num, by omega, by omega, SB.out, by have := S2.out; simpa using this⟩
  ·have hltz : ¬ (k : Int) < (n : Int) := by omega
   have E : Hid (spansOk ss = true) := spansOk_all (by have := HI.out.2; omega) fun i hi => by
    have := SK.out.2 i (by have := HI.out.2; omega)
    rwa [spn_eq hi] at this
   go_wp2
   go_ret
   exact ⟨ret_bool E.out.symm, SK.out.1⟩
end Go.Proofs.Ytlcjllgfpfldlaa.code
