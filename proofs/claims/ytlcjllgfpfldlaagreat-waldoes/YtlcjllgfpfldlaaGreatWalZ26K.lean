/-
 The program's soundNodes, soundKey, soundFacts, soundSpans.
 The program's soundSpans, soundEntries.
 The program's soundEntries.
 What of a record is not written for its kind; whether there is nothing: the program's unwritten, nought.
-/
import Derived.Test.YtlcjllgfpfldlaaGreatWalZ22K
import Derived.Test.YtlcjllgfpfldlaaGreatCodeSndMath
set_option maxHeartbeats 16000000
open Go.ChangeShapes Go.WideShapes Go.ChangeAt Go.RowKit Go.Deep
set_option linter.unusedVariables false
set_option maxRecDepth 100000
namespace Go.Proofs.YtlcjllgfpfldlaaGreat
namespace code
open dims (nth Ints cell_lt ret_bool)
theorem within_any (x m : Int) (w : World) :
  Calls Tryz.prog 105 #[.int .i64 x, .int .i64 m] w fun e w' => e = .returned (.bool (decide (0 ≤ x ∧ x ≤ m))) ∧ w' = w := by
 by_cases h0 : 0 ≤ x
 ·go_enter Tryz.func105, Tryz.ntmps105
  go_wp2
  go_ret
  exact ⟨ret_bool (by simp [h0]), rfl⟩
 ·go_enter Tryz.func105, Tryz.ntmps105
  go_wp2
  go_ret
  exact ⟨ret_bool (by simp; omega), rfl⟩
theorem within_is (x m : Int) (t : Bool) (h : decide (0 ≤ x ∧ x ≤ m) = t) (w : World) :
  Calls Tryz.prog 105 #[.int .i64 x, .int .i64 m] w fun e w' => e = .returned (.bool t) ∧ w' = w := by rw [← h]; exact within_any x m w

theorem soundNodes_any (a : Option Addr) (n c : Nat) (l : List Int) (w : World) (hI : Ints w a l) (hn : l.length = n) (hm : n ≤ 9223372036854775807) :
  Calls Tryz.prog 101 #[.slice a n c] w fun e w' => e = .returned (.bool (nodesOk l)) ∧ w' = w := by
 by_cases h6 : 6 < n
 ·have E : Hid (nodesOk l = false) := by
   show _ = _
   cases e : nodesOk l with
   | false => rfl
   | true => have := nodesOk_few e; omega
  have h6z : (6 : Int) < (n : Int) := by omega
  clear hI hn
  go_enter Tryz.func101, Tryz.ntmps101
  go_wp2
  go_ret
  exact ⟨ret_bool E.out.symm, rfl⟩
 have h6z : ¬ (6 : Int) < (n : Int) := by omega
 have HI : Aside (Ints w a l ∧ l.length = n) := ⟨hI, hn⟩
 clear hI hn
 go_enter Tryz.func101, Tryz.ntmps101
 go_wp2_with fail
 go_loopg [10] n (fun g1 vi wr => ∃ (k : Nat), vi = .int .i64 k ∧ k ≤ n ∧ n - k ≤ g1 ∧ wr = w ∧ Aside (∀ i, i < k → ndGood l i))
 case atStart => exact ⟨0, rfl, Nat.zero_le _, nrQ _, rfl, fun i hi => by omega⟩
 case round =>
  obtain ⟨k, rfl, hk, hg1, rfl, SK⟩ := hrel
  by_cases hlt : k < n
  ·have hltz : (k : Int) < (n : Int) := by omega
   have hkl : k < l.length := by rw [HI.out.2]; exact hlt
   obtain ⟨b, off, ha, hc⟩ := HI.out.1.get hkl
   subst ha
   have r0 := hc k hkl
   obtain ⟨t, ht⟩ : ∃ t, decide (0 ≤ nth l k ∧ nth l k ≤ 5) = t := ⟨_, rfl⟩
   have hW := within_is (nth l k) 5 t ht
   cases t with
   | false =>
    have E : Hid (nodesOk l = false) := nodesOk_not hkl fun h => by have := of_decide_eq_false ht; exact this h.1
    generalize nth l k = x at r0 hW
    clear hc ht
    go_wp2_with (go_at_call 105; refine (hW _).mono ?_; rintro e w1 ⟨rfl, rfl⟩)
    go_ret
    exact ⟨ret_bool E.out.symm, rfl⟩
   | true =>
    have ht2 := of_decide_eq_true ht
    by_cases hk0 : k = 0
    ·have S2 : Aside (∀ i, i < k + 1 → ndGood l i) := fun i hi => by
      obtain rfl : i = k := by omega
      exact ⟨ht2, fun h => by omega⟩
     generalize nth l k = x at r0 hW
     have hk0z : ¬ (0 : Int) < (k : Int) := by omega
     clear hc ht ht2 hk0
     go_wp2_with (go_at_call 105; refine (hW _).mono ?_; rintro e w1 ⟨rfl, rfl⟩)
     go_roundg (n - (k + 1))
     case measure => omega
     case rel => exact ⟨k + 1, by go_num, by omega, by omega, rfl, S2⟩
    ·obtain ⟨j, hj⟩ : ∃ j, k = j + 1 := ⟨k - 1, by omega⟩
     have HJ : Hid (k = j + 1) := hj
     have r1 := hc j (by omega)
     have hj1 : (k : Int) - 1 = (j : Int) := by omega
     have hj0 : (0 : Int) < (k : Int) := by omega
     have hjj : (0 : Int) ≤ (j : Int) ∧ (j : Int) < (n : Int) := by omega
     clear hj hk0
     by_cases hle : nth l k ≤ nth l j
     ·have E : Hid (nodesOk l = false) := nodesOk_not hkl fun h => by
       have h1 := h.2 (by omega)
       have h2 := HJ.out
       rw [show k - 1 = j by omega] at h1; omega
      generalize nth l k = x at r0 hW hle
      generalize nth l j = y at r1 hle
      clear hc ht ht2
      go_wp2_with (go_at_call 105; refine (hW _).mono ?_; rintro e w1 ⟨rfl, rfl⟩)
      go_ret
      exact ⟨ret_bool E.out.symm, rfl⟩
     ·have S2 : Aside (∀ i, i < k + 1 → ndGood l i) := fun i hi => by
       by_cases e : i = k
       ·subst e
        refine ⟨ht2, fun _ => ?_⟩
        rw [show i - 1 = j by have := HJ.out; omega]; omega
       ·exact SK.out i (by omega)
      generalize nth l k = x at r0 hW hle
      generalize nth l j = y at r1 hle
      clear hc ht ht2
      go_wp2_with (go_at_call 105; refine (hW _).mono ?_; rintro e w1 ⟨rfl, rfl⟩)
      go_roundg (n - (k + 1))
      case measure => omega
      case rel => exact ⟨k + 1, by go_num, by omega, by omega, rfl, S2⟩
  ·have hltz : ¬ (k : Int) < (n : Int) := by omega
   have E : Hid (nodesOk l = true) := (nodesOk_iff l).2 fun i hi => SK.out i (by have := HI.out.2; omega)
   go_wp2
   go_ret
   exact ⟨ret_bool E.out.symm, rfl⟩

theorem soundKey_any (a : Option Addr) (n c : Nat) (l : List Int) (w : World) (hI : Ints w a l) (hn : l.length = n) (hm : n ≤ 9223372036854775807) :
  Calls Tryz.prog 114 #[.slice a n c] w fun e w' => e = .returned (.bool (keyOk l)) ∧ w' = w := by
 by_cases h6 : 4 < n
 ·have E : Hid (keyOk l = false) := keyOk_long (by omega)
  have h6z : (4 : Int) < (n : Int) := by omega
  clear hI hn
  go_enter Tryz.func114, Tryz.ntmps114
  go_wp2
  go_ret
  exact ⟨ret_bool E.out.symm, rfl⟩
 have h6z : ¬ (4 : Int) < (n : Int) := by omega
 have HI : Aside (Ints w a l ∧ l.length = n) := ⟨hI, hn⟩
 clear hI hn
 go_enter Tryz.func114, Tryz.ntmps114
 go_wp2_with fail
 go_loopg [10] n (fun g1 vi wr => ∃ (k : Nat), vi = .int .i64 k ∧ k ≤ n ∧ n - k ≤ g1 ∧ wr = w ∧ Aside (∀ i, i < k → 0 ≤ nth l i ∧ nth l i ≤ 9999))
 case atStart => exact ⟨0, rfl, Nat.zero_le _, nrQ _, rfl, fun i hi => by omega⟩
 case round =>
  obtain ⟨k, rfl, hk, hg1, rfl, SK⟩ := hrel
  by_cases hlt : k < n
  ·have hltz : (k : Int) < (n : Int) := by omega
   have hkl : k < l.length := by rw [HI.out.2]; exact hlt
   obtain ⟨b, off, ha, hc⟩ := HI.out.1.get hkl
   subst ha
   have r0 := hc k hkl
   obtain ⟨t, ht⟩ : ∃ t, decide (0 ≤ nth l k ∧ nth l k ≤ 9999) = t := ⟨_, rfl⟩
   have hW := within_is (nth l k) 9999 t ht
   cases t with
   | false =>
    have E : Hid (keyOk l = false) := keyOk_not hkl (of_decide_eq_false ht)
    generalize nth l k = x at r0 hW
    clear hc ht
    go_wp2_with (go_at_call 105; refine (hW _).mono ?_; rintro e w1 ⟨rfl, rfl⟩)
    go_ret
    exact ⟨ret_bool E.out.symm, rfl⟩
   | true =>
    have ht2 := of_decide_eq_true ht
    have S2 : Aside (∀ i, i < k + 1 → 0 ≤ nth l i ∧ nth l i ≤ 9999) := fun i hi => by
     by_cases e : i = k
     ·subst e; exact ht2
     ·exact SK.out i (by omega)
    generalize nth l k = x at r0 hW
    clear hc ht ht2
    go_wp2_with (go_at_call 105; refine (hW _).mono ?_; rintro e w1 ⟨rfl, rfl⟩)
    go_roundg (n - (k + 1))
    case measure => omega
    case rel => exact ⟨k + 1, by go_num, by omega, by omega, rfl, S2⟩
  ·have hltz : ¬ (k : Int) < (n : Int) := by omega
   have E : Hid (keyOk l = true) := keyOk_at (by have := HI.out.2; omega) fun i hi => SK.out i (by have := HI.out.2; omega)
   go_wp2
   go_ret
   exact ⟨ret_bool E.out.symm, rfl⟩

theorem soundFacts_any (a : Option Addr) (n c : Nat) (fs : List Ft) (w : World) (hI : FactsIn w a fs) (hn : fs.length = n) (hm : n ≤ 9223372036854775807) :
  Calls Tryz.prog 102 #[.slice a n c] w fun e w' => e = .returned (.bool (factsOk (fs.map pf))) ∧ Below w.heap.size w w' := by
 by_cases h6 : 200 < n
 ·have E : Hid (factsOk (fs.map pf) = false) := factsOk_long (by simp; omega)
  have h6z : (200 : Int) < (n : Int) := by omega
  clear hI hn
  go_enter Tryz.func102, Tryz.ntmps102
  go_wp2
  go_ret
  exact ⟨ret_bool E.out.symm, Below.refl _ _⟩
 have h6z : ¬ (200 : Int) < (n : Int) := by omega
 have HI : Aside (FactsIn w a fs ∧ fs.length = n) := ⟨hI, hn⟩
 clear hI hn
 go_enter Tryz.func102, Tryz.ntmps102
 go_wp2_with fail
 go_loopg [10] n (fun g1 vi wr => ∃ (k : Nat), vi = .int .i64 k ∧ k ≤ n ∧ n - k ≤ g1 ∧ Aside (Below w.heap.size w wr ∧ ∀ i, i < k → keyOk (ftn fs i).k = true))
 case atStart => exact ⟨0, rfl, Nat.zero_le _, nrQ _, Below.refl _ _, fun i hi => by omega⟩
 case round =>
  obtain ⟨k, rfl, hk, hg1, SK⟩ := hrel
  by_cases hlt : k < n
  ·have hltz : (k : Int) < (n : Int) := by omega
   have hkl : k < fs.length := by rw [HI.out.2]; exact hlt
   obtain ⟨b, off, ha, hc⟩ := (HI.out.1.keep SK.out.1).get hkl
   subst ha
   obtain ⟨r0, r1, r2⟩ := hc k hkl
   have hb1 : Below wr.heap.size wr (wr.alloc (.cells #[.slice (ftn fs k).a (ftn fs k).k.length (ftn fs k).cap, .int .i64 (ftn fs k).v] 124)) := by (repeat (first | with_reducible exact Below.refl _ _ | (with_reducible refine Below.drew ?_) | (with_reducible refine Below.alloc ?_ (by first | omega | (simp; done) | (simp; omega)) _) | (with_reducible refine Below.setCell ?_ (by first | exact nrQ _ | omega | (simp; done) | (simp; omega)) _)))
   have hK := soundKey_any (ftn fs k).a (ftn fs k).k.length (ftn fs k).cap (ftn fs k).k _ (r2.mem.keep hb1) rfl r2.len
   have SB : Aside (Below w.heap.size w _) := SK.out.1.trans (hb1.mono SK.out.1.size)
   obtain ⟨t, ht⟩ : ∃ t, keyOk (ftn fs k).k = t := ⟨_, rfl⟩
   rw [ht] at hK
   cases t with
   | false =>
    have E : Hid (factsOk (fs.map pf) = false) := factsOk_not (List.mem_map.2 ⟨_, ftn_mem hkl, rfl⟩) ht
    clear hc ht r2 hb1
    generalize (ftn fs k).a = x0 at r0 hK SB
    generalize (ftn fs k).k.length = x1 at r0 hK SB
    generalize (ftn fs k).cap = x2 at r0 hK SB
    generalize (ftn fs k).v = x3 at r1 hK SB
    go_wp2_with (go_at_call 114; refine hK.mono ?_; rintro e w1 ⟨rfl, rfl⟩)
    go_ret
    exact ⟨ret_bool E.out.symm, SB.out⟩
   | true =>
    have S2 : Aside (∀ i, i < k + 1 → keyOk (ftn fs i).k = true) := fun i hi => by
     by_cases e : i = k
     ·subst e; exact ht
     ·exact SK.out.2 i (by omega)
    clear hc ht r2 hb1
    generalize (ftn fs k).a = x0 at r0 hK SB
    generalize (ftn fs k).k.length = x1 at r0 hK SB
    generalize (ftn fs k).cap = x2 at r0 hK SB
    generalize (ftn fs k).v = x3 at r1 hK SB
    go_wp2_with (go_at_call 114; refine hK.mono ?_; rintro e w1 ⟨rfl, rfl⟩)
    go_roundg (n - (k + 1))
    case measure => omega
    case rel => exact ⟨k + 1, by go_num, by omega, by omega, SB.out, S2.out⟩
  ·have hltz : ¬ (k : Int) < (n : Int) := by omega
   have E : Hid (factsOk (fs.map pf) = true) := factsOk_all (by have := HI.out.2; simp; omega) fun i hi => by
    have hi2 : i < fs.length := by simpa using hi
    have := SK.out.2 i (by have := HI.out.2; omega)
    rw [ftn_eq hi2] at this
    simpa [pf] using this
   go_wp2
   go_ret
   exact ⟨ret_bool E.out.symm, SK.out.1⟩
theorem soundSpans_any (a : Option Addr) (n c : Nat) (ss : List PSpan) (w : World) (hI : SpansIn w a ss) (hn : ss.length = n) (hm : n ≤ 9223372036854775807) :
  Calls Tryz.prog 103 #[.slice a n c] w fun e w' => e = .returned (.bool (spansOk ss)) ∧ Below w.heap.size w w' := by
 by_cases h6 : 40 < n
 ·have E : Hid (spansOk ss = false) := spansOk_long (by omega)
  have h6z : (40 : Int) < (n : Int) := by omega
  clear hI hn
  go_enter Tryz.func103, Tryz.ntmps103
  go_wp2
  go_ret
  exact ⟨ret_bool E.out.symm, Below.refl _ _⟩
 have h6z : ¬ (40 : Int) < (n : Int) := by omega
 have HI : Aside (SpansIn w a ss ∧ ss.length = n) := ⟨hI, hn⟩
 clear hI hn
 go_enter Tryz.func103, Tryz.ntmps103
 go_wp2_with fail
 go_loopg [10] n (fun g1 vi wr => ∃ (k : Nat), vi = .int .i64 k ∧ k ≤ n ∧ n - k ≤ g1 ∧ Aside (Below w.heap.size w wr ∧ ∀ i, i < k → (0 ≤ (spn ss i).1 ∧ (spn ss i).1 ≤ 9999) ∧ 0 ≤ (spn ss i).2 ∧ (spn ss i).2 ≤ 5))
 case atStart => exact ⟨0, rfl, Nat.zero_le _, nrQ _, Below.refl _ _, fun i hi => by omega⟩
 case round =>
  obtain ⟨k, rfl, hk, hg1, SK⟩ := hrel
  by_cases hlt : k < n
  ·have hltz : (k : Int) < (n : Int) := by omega
   have hkl : k < ss.length := by rw [HI.out.2]; exact hlt
   obtain ⟨b, off, ha, hc⟩ := (HI.out.1.keep SK.out.1).get hkl
   subst ha
   obtain ⟨r0, r1, r2⟩ := hc k hkl
   have hb1 : Below wr.heap.size wr (wr.alloc (.cells #[.int .i64 (spn ss k).1, .int .i64 (spn ss k).2] 109)) := by (repeat (first | with_reducible exact Below.refl _ _ | (with_reducible refine Below.drew ?_) | (with_reducible refine Below.alloc ?_ (by first | omega | (simp; done) | (simp; omega)) _) | (with_reducible refine Below.setCell ?_ (by first | exact nrQ _ | omega | (simp; done) | (simp; omega)) _)))
   have SB : Aside (Below w.heap.size w _) := SK.out.1.trans (hb1.mono SK.out.1.size)
   obtain ⟨t, ht⟩ : ∃ t, decide (0 ≤ (spn ss k).1 ∧ (spn ss k).1 ≤ 9999) = t := ⟨_, rfl⟩
   have hK := within_is (spn ss k).1 9999 t ht
   obtain ⟨t2, ht2⟩ : ∃ t, decide (0 ≤ (spn ss k).2 ∧ (spn ss k).2 ≤ 5) = t := ⟨_, rfl⟩
   have hK2 := within_is (spn ss k).2 5 t2 ht2
   have S2 : Aside (if t = true ∧ t2 = true then (∀ i, i < k + 1 → (0 ≤ (spn ss i).1 ∧ (spn ss i).1 ≤ 9999) ∧ 0 ≤ (spn ss i).2 ∧ (spn ss i).2 ≤ 5) else spansOk ss = false) := by
    show ite _ _ _
    split
    ·rename_i htt
     obtain ⟨rfl, rfl⟩ := htt
     intro i hi
     by_cases e : i = k
     ·subst e; exact ⟨of_decide_eq_true ht, of_decide_eq_true ht2⟩
     ·exact SK.out.2 i (by omega)
    ·rename_i htt
     refine spansOk_not (spn_mem hkl) fun h => htt ?_
     rw [← ht, ← ht2]
     exact ⟨decide_eq_true h.1, decide_eq_true h.2⟩
   clear hc ht ht2 r2 hb1
   generalize (spn ss k).1 = x0 at r0 hK SB
   generalize (spn ss k).2 = x1 at r1 hK2 SB
   cases t with
   | false =>
    go_wp2_with (go_at_call 105; refine (hK _).mono ?_; rintro e w1 ⟨rfl, rfl⟩)
    go_ret
    exact ⟨ret_bool (by have := S2.out; simp at this; exact this.symm), SB.out⟩
   | true =>
    cases t2 with
    | false =>
     go_wp2_with (go_at_call 105; refine (hK _).mono ?_; rintro e w1 ⟨rfl, rfl⟩; refine Hid.out ?_)
     refine hid ?_
     go_wp2_with (go_at_call 105; refine (hK2 _).mono ?_; rintro e w1 ⟨rfl, rfl⟩)
     go_ret
     exact ⟨ret_bool (by have := S2.out; simp at this; exact this.symm), SB.out⟩
    | true =>
     go_wp2_with (go_at_call 105; refine (hK _).mono ?_; rintro e w1 ⟨rfl, rfl⟩; refine Hid.out ?_)
     refine hid ?_
     go_wp2_with (go_at_call 105; refine (hK2 _).mono ?_; rintro e w1 ⟨rfl, rfl⟩)
     go_roundg (n - (k + 1))
     case measure => omega
     case rel => exact ⟨k + 1, by go_num, by omega, by omega, SB.out, by have := S2.out; simpa using this⟩
  ·have hltz : ¬ (k : Int) < (n : Int) := by omega
   have E : Hid (spansOk ss = true) := spansOk_all (by have := HI.out.2; omega) fun i hi => by
    have := SK.out.2 i (by have := HI.out.2; omega)
    rwa [spn_eq hi] at this
   go_wp2
   go_ret
   exact ⟨ret_bool E.out.symm, SK.out.1⟩
theorem keep2 {W0 W w' : World} {p1 p2 : Addr} {x1 x2 : Value} (e1 : p1.spot = none) (e2 : p2.spot = none) (hb : Below W.heap.size W w')
  (h : Below W0.heap.size W0 W ∧ W.cell? p1 = some x1 ∧ W.cell? p2 = some x2) : Below W0.heap.size W0 w' ∧ w'.cell? p1 = some x1 ∧ w'.cell? p2 = some x2 := by
 obtain ⟨g0, h1, h2⟩ := h
 exact ⟨g0.trans (hb.mono g0.size), (hb.cell (World.block_lt_of_cell? _ _ h1)).trans h1, (hb.cell (World.block_lt_of_cell? _ _ h2)).trans h2⟩
theorem keep3 {W0 W w' : World} {p1 p2 p3 : Addr} {x1 x2 x3 : Value} (hb : Below W.heap.size W w')
  (h : Below W0.heap.size W0 W ∧ W.cell? p1 = some x1 ∧ W.cell? p2 = some x2 ∧ W.cell? p3 = some x3) : Below W0.heap.size W0 w' ∧ w'.cell? p1 = some x1 ∧ w'.cell? p2 = some x2 ∧ w'.cell? p3 = some x3 := by
 obtain ⟨g0, h1, h2, h3⟩ := h
 exact ⟨g0.trans (hb.mono g0.size), (hb.cell (World.block_lt_of_cell? _ _ h1)).trans h1, (hb.cell (World.block_lt_of_cell? _ _ h2)).trans h2, (hb.cell (World.block_lt_of_cell? _ _ h3)).trans h3⟩
theorem pen_map {es : List Et} {i : Nat} (h : i < es.length) : pen (es.map pe) i = pe (etn es i) := by simp [pen, etn, h]

theorem soundEntries_any (a : Option Addr) (n c : Nat) (es : List Et) (w : World) (hI : EntsIn w a es) (hn : es.length = n) (hm : n ≤ 9223372036854775807) :
  Calls Tryz.prog 104 #[.slice a n c] w fun e w' => e = .returned (.bool (entsOk (es.map pe))) ∧ Below w.heap.size w w' := by
 by_cases h6 : 5000 < n
 ·have E : Hid (entsOk (es.map pe) = false) := entsOk_long (by simp; omega)
  have h6z : (5000 : Int) < (n : Int) := by omega
  clear hI hn
  go_enter Tryz.func104, Tryz.ntmps104
  go_wp2
  go_ret
  exact ⟨ret_bool E.out.symm, Below.refl _ _⟩
 have h6z : ¬ (5000 : Int) < (n : Int) := by omega
 have HI : Aside (EntsIn w a es ∧ es.length = n) := ⟨hI, hn⟩
 clear hI hn
 go_enter Tryz.func104, Tryz.ntmps104
 go_wp2_with fail
 go_loopg [10] n (fun g1 vi wr => ∃ (k : Nat), vi = .int .i64 k ∧ k ≤ n ∧ n - k ≤ g1 ∧ Aside (Below w.heap.size w wr ∧ ∀ i, i < k → enGood (es.map pe) i))
 case atStart => exact ⟨0, rfl, Nat.zero_le _, nrQ _, Below.refl _ _, fun i hi => by omega⟩
 case round =>
  obtain ⟨k, rfl, hk, hg1, SK⟩ := hrel
  by_cases hlt : k < n
  ·have hltz : (k : Int) < (n : Int) := by omega
   have hkl : k < es.length := by rw [HI.out.2]; exact hlt
   have hkm : k < (es.map pe).length := by simpa using hkl
   obtain ⟨b, off, ha, hc⟩ := (HI.out.1.keep SK.out.1).get hkl
   subst ha
   obtain ⟨r0, r1, r2⟩ := hc k hkl
   have hsz := SK.out.1.size
   have SB : Aside (Below w.heap.size w wr) := SK.out.1
   have hB0 : ∀ o, Below wr.heap.size wr (wr.alloc o) := fun o => (Below.refl _ _).alloc (nrQ _) _
   obtain ⟨t, ht⟩ : ∃ t, factsOk ((etn es k).fs.map pf) = t := ⟨_, rfl⟩
   have hV : ∀ W, Below wr.heap.size wr W → Calls Tryz.prog 102 #[.slice (etn es k).a (etn es k).fs.length (etn es k).cap] W fun e w' => e = .returned (.bool t) ∧ Below W.heap.size W w' := fun W hW => by
    have := soundFacts_any (etn es k).a (etn es k).fs.length (etn es k).cap (etn es k).fs W (r2.mem.keep hW) rfl r2.len
    rwa [ht] at this
   have HNO : Aside (t = false → entsOk (es.map pe) = false) := fun h => entsOk_not hkm fun hg => by
    have := hg.1
    rw [pen_map hkl] at this
    change factsOk ((etn es k).fs.map pf) = true at this
    rw [ht, h] at this; cases this
   have HOK : Aside (t = true → k = 0 → ∀ i, i < k + 1 → enGood (es.map pe) i) := fun h h0 i hi => by
    obtain rfl : i = k := by omega
    refine ⟨?_, fun h => by omega⟩
    rw [pen_map hkl]; exact ht.trans h
   cases t with
   | false =>
    have E : Hid (entsOk (es.map pe) = false) := HNO.out rfl
    clear hc HNO HOK ht SK r2
    generalize (etn es k).t = x at r0
    generalize (etn es k).a = d2 at r1 hV
    generalize (etn es k).fs.length = d3 at r1 hV
    generalize (etn es k).cap = d4 at r1 hV
    as_aux_lemma =>
     go_wp2_with fail
     refine wp_region_held_drew (S := (fun w' => Below wr.heap.size wr w' ∧ w'.cell? ⟨wr.heap.size, 0, none⟩ = some (.int .u32 x) ∧ w'.cell? ⟨wr.heap.size, 1, none⟩ = some (.slice d2 d3 d4))) (by kernel_rfl) ?_ (fun hHeld => ?_)
     ·(try dsimp only); refine ⟨(hB0 _).drew, by simp [go_sem], by simp [go_sem]⟩
     change wpAnyH _ _ _ _ _ 19 #[false, false, false, false, false, false, false, false, false, false, false, false, false, false, false, false, false, false, false] _ _
     refine wpAnyH_take (i := 0) (oi := { dst := some 15, op := Op.fieldAddr 94 (Operand.tmp 4) 1, type := 0, pos := "sound.go:72", after := #[], guard := none }) (v := ?_) rfl (by kernel_rfl) (by kernel_rfl) (by kernel_rfl) (fun _ _ _ h => h) (Or.inl ⟨by kernel_rfl, ?_⟩) (by assumption) ?_
     rotate_left
     focus
      intro w hSw
      (try dsimp only at hSw)
      go_simp
      all_goals (try with_reducible rfl)
     simp only [Act.put, saQ, szQ, ssQ]
     refine wpAnyH_take (i := 1) (oi := { dst := some 16, op := Op.load 40 (Operand.tmp 15), type := 40, pos := "sound.go:72", after := #[{ on := 0, ground := Ground.data }], guard := none }) (v := ?_) rfl (by kernel_rfl) (by kernel_rfl) (by kernel_rfl) (fun _ _ _ h => h) (Or.inl ⟨by kernel_rfl, ?_⟩) (by assumption) ?_
     rotate_left
     focus
      intro w hSw
      (try dsimp only at hSw)
      go_simp
      all_goals (try with_reducible rfl)
     simp only [Act.put, saQ, szQ, ssQ]
     refine wpAnyH_ready (rs := [2]) (by kernel_rfl) (by simp) ?_
     refine AllReadyH.cons (o := { dst := some 17, op := Op.call { callee := Callee.value (Operand.func 102), args := #[Operand.tmp 16], argTypes := #[40] }, type := 4, pos := "sound.go:72", after := #[{ on := 1, ground := Ground.data }], guard := none }) rfl (fun K hK => ?_) AllReadyH.nil
     go_simp
     refine (hV _ hHeld.1).mono ?_
     (rintro e w2 ⟨rfl, hb2⟩)
     go_wp2_with fail
     refine hK.out _ _ ?_ (fun hHeld2 => ?_)
     ·(try dsimp only); exact keep2 rfl rfl hb2 hHeld
     clear hK K hHeld
     have hHeld := hHeld2
     clear hHeld2
     simp only [saQ, szQ, ssQ]
     refine wpAnyH_take (i := 3) (oi := { dst := some 18, op := Op.unOp UnOp.not 4 (Operand.tmp 17), type := 4, pos := "sound.go:72", after := #[{ on := 2, ground := Ground.data }], guard := none }) (v := ?_) rfl (by kernel_rfl) (by kernel_rfl) (by kernel_rfl) (fun _ _ _ h => h) (Or.inl ⟨by kernel_rfl, ?_⟩) (by assumption) ?_
     rotate_left
     focus
      intro w hSw
      (try dsimp only at hSw)
      go_simp
      all_goals (try with_reducible rfl)
     simp only [Act.put, saQ, szQ, ssQ]
     refine wpAnyH_take (i := 4) (oi := { dst := some 19, op := Op.move (Operand.tmp 18), type := 4, pos := "sound.go:72", after := #[{ on := 3, ground := Ground.data }, { on := 2, ground := Ground.chain }], guard := none }) (v := ?_) rfl (by kernel_rfl) (by kernel_rfl) (by kernel_rfl) (fun _ _ _ h => h) (Or.inl ⟨by kernel_rfl, ?_⟩) (by assumption) ?_
     rotate_left
     focus
      intro w hSw
      (try dsimp only at hSw)
      go_simp
      all_goals (try with_reducible rfl)
     simp only [Act.put, saQ, szQ, ssQ]
     refine wpAnyH_take (i := 5) (oi := { dst := some 20, op := Op.move (Operand.tmp 3), type := 3, pos := "sound.go:72", after := #[{ on := 4, ground := Ground.guard }], guard := some (4, false) }) (v := undef) rfl (by kernel_rfl) (by kernel_rfl) (by kernel_rfl) (fun _ _ _ h => h) (Or.inr ⟨by kernel_rfl, rfl⟩) (by assumption) ?_
     simp only [Act.put, saQ, szQ, ssQ]
     refine wpAnyH_take (i := 6) (oi := { dst := some 21, op := Op.binOp BinOp.gtr 3 (Operand.tmp 20) (Operand.const (Value.int IntKind.i64 0)) 3, type := 4, pos := "sound.go:72", after := #[{ on := 5, ground := Ground.data }, { on := 4, ground := Ground.guard }], guard := some (4, false) }) (v := undef) rfl (by kernel_rfl) (by kernel_rfl) (by kernel_rfl) (fun _ _ _ h => h) (Or.inr ⟨by kernel_rfl, rfl⟩) (by assumption) ?_
     simp only [Act.put, saQ, szQ, ssQ]
     refine wpAnyH_take (i := 7) (oi := { dst := some 22, op := Op.move (Operand.tmp 21), type := 4, pos := "sound.go:72", after := #[{ on := 6, ground := Ground.data }, { on := 4, ground := Ground.chain }, { on := 4, ground := Ground.guard }], guard := some (4, false) }) (v := undef) rfl (by kernel_rfl) (by kernel_rfl) (by kernel_rfl) (fun _ _ _ h => h) (Or.inr ⟨by kernel_rfl, rfl⟩) (by assumption) ?_
     simp only [Act.put, saQ, szQ, ssQ]
     refine wpAnyH_take (i := 8) (oi := { dst := some 23, op := Op.fieldAddr 94 (Operand.tmp 4) 0, type := 0, pos := "sound.go:72", after := #[{ on := 7, ground := Ground.guard }], guard := some (7, true) }) (v := undef) rfl (by kernel_rfl) (by kernel_rfl) (by kernel_rfl) (fun _ _ _ h => h) (Or.inr ⟨by kernel_rfl, rfl⟩) (by assumption) ?_
     simp only [Act.put, saQ, szQ, ssQ]
     refine wpAnyH_take (i := 9) (oi := { dst := some 24, op := Op.load 38 (Operand.tmp 23), type := 38, pos := "sound.go:72", after := #[{ on := 8, ground := Ground.data }, { on := 7, ground := Ground.guard }], guard := some (7, true) }) (v := undef) rfl (by kernel_rfl) (by kernel_rfl) (by kernel_rfl) (fun _ _ _ h => h) (Or.inr ⟨by kernel_rfl, rfl⟩) (by assumption) ?_
     simp only [Act.put, saQ, szQ, ssQ]
     refine wpAnyH_take (i := 10) (oi := { dst := some 25, op := Op.move (Operand.tmp 0), type := 44, pos := "sound.go:72", after := #[{ on := 7, ground := Ground.guard }], guard := some (7, true) }) (v := undef) rfl (by kernel_rfl) (by kernel_rfl) (by kernel_rfl) (fun _ _ _ h => h) (Or.inr ⟨by kernel_rfl, rfl⟩) (by assumption) ?_
     simp only [Act.put, saQ, szQ, ssQ]
     refine wpAnyH_take (i := 11) (oi := { dst := some 26, op := Op.move (Operand.tmp 3), type := 3, pos := "sound.go:72", after := #[{ on := 7, ground := Ground.guard }], guard := some (7, true) }) (v := undef) rfl (by kernel_rfl) (by kernel_rfl) (by kernel_rfl) (fun _ _ _ h => h) (Or.inr ⟨by kernel_rfl, rfl⟩) (by assumption) ?_
     simp only [Act.put, saQ, szQ, ssQ]
     refine wpAnyH_take (i := 12) (oi := { dst := some 27, op := Op.binOp BinOp.sub 3 (Operand.tmp 26) (Operand.const (Value.int IntKind.i64 1)) 3, type := 3, pos := "sound.go:72", after := #[{ on := 11, ground := Ground.data }, { on := 7, ground := Ground.guard }], guard := some (7, true) }) (v := undef) rfl (by kernel_rfl) (by kernel_rfl) (by kernel_rfl) (fun _ _ _ h => h) (Or.inr ⟨by kernel_rfl, rfl⟩) (by assumption) ?_
     simp only [Act.put, saQ, szQ, ssQ]
     refine wpAnyH_take (i := 13) (oi := { dst := some 28, op := Op.indexAddr 44 (Operand.tmp 25) (Operand.tmp 27), type := 0, pos := "sound.go:72", after := #[{ on := 10, ground := Ground.data }, { on := 12, ground := Ground.data }, { on := 7, ground := Ground.guard }], guard := some (7, true) }) (v := undef) rfl (by kernel_rfl) (by kernel_rfl) (by kernel_rfl) (fun _ _ _ h => h) (Or.inr ⟨by kernel_rfl, rfl⟩) (by assumption) ?_
     simp only [Act.put, saQ, szQ, ssQ]
     refine wpAnyH_take (i := 14) (oi := { dst := some 29, op := Op.fieldAddr 94 (Operand.tmp 28) 0, type := 0, pos := "sound.go:72", after := #[{ on := 13, ground := Ground.data }, { on := 7, ground := Ground.guard }], guard := some (7, true) }) (v := undef) rfl (by kernel_rfl) (by kernel_rfl) (by kernel_rfl) (fun _ _ _ h => h) (Or.inr ⟨by kernel_rfl, rfl⟩) (by assumption) ?_
     simp only [Act.put, saQ, szQ, ssQ]
     refine wpAnyH_take (i := 15) (oi := { dst := some 30, op := Op.load 38 (Operand.tmp 29), type := 38, pos := "sound.go:72", after := #[{ on := 14, ground := Ground.data }, { on := 7, ground := Ground.guard }], guard := some (7, true) }) (v := undef) rfl (by kernel_rfl) (by kernel_rfl) (by kernel_rfl) (fun _ _ _ h => h) (Or.inr ⟨by kernel_rfl, rfl⟩) (by assumption) ?_
     simp only [Act.put, saQ, szQ, ssQ]
     refine wpAnyH_take (i := 16) (oi := { dst := some 31, op := Op.binOp BinOp.leq 38 (Operand.tmp 24) (Operand.tmp 30) 38, type := 4, pos := "sound.go:72", after := #[{ on := 9, ground := Ground.data }, { on := 15, ground := Ground.data }, { on := 7, ground := Ground.guard }], guard := some (7, true) }) (v := undef) rfl (by kernel_rfl) (by kernel_rfl) (by kernel_rfl) (fun _ _ _ h => h) (Or.inr ⟨by kernel_rfl, rfl⟩) (by assumption) ?_
     simp only [Act.put, saQ, szQ, ssQ]
     refine wpAnyH_take (i := 17) (oi := { dst := some 32, op := Op.pick (Operand.tmp 22) (Operand.tmp 31) (Operand.const (Value.bool false)), type := 4, pos := "sound.go:72", after := #[{ on := 7, ground := Ground.data }, { on := 16, ground := Ground.data }, { on := 4, ground := Ground.guard }], guard := some (4, false) }) (v := undef) rfl (by kernel_rfl) (by kernel_rfl) (by kernel_rfl) (fun _ _ _ h => h) (Or.inr ⟨by kernel_rfl, rfl⟩) (by assumption) ?_
     simp only [Act.put, saQ, szQ, ssQ]
     refine wpAnyH_take (i := 18) (oi := { dst := some 33, op := Op.pick (Operand.tmp 19) (Operand.const (Value.bool true)) (Operand.tmp 32), type := 4, pos := "sound.go:72", after := #[{ on := 4, ground := Ground.data }, { on := 17, ground := Ground.data }], guard := none }) (v := ?_) rfl (by kernel_rfl) (by kernel_rfl) (by kernel_rfl) (fun _ _ _ h => h) (Or.inl ⟨by kernel_rfl, ?_⟩) (by assumption) ?_
     rotate_left
     focus
      intro w hSw
      (try dsimp only at hSw)
      go_simp
      all_goals (try with_reducible rfl)
     simp only [Act.put, saQ, szQ, ssQ]
     refine wpAnyH_done (by kernel_rfl) ?_ _
     have B2 : Aside _ := hHeld.1
     clear hHeld
     go_wp2
     go_ret
     exact ⟨ret_bool E.out.symm, SB.out.trans (B2.out.mono hsz)⟩
   | true =>
    by_cases hk0 : k = 0
    ·have S2 : Aside (∀ i, i < k + 1 → enGood (es.map pe) i) := HOK.out rfl hk0
     have hk0z : ¬ (0 : Int) < (k : Int) := by omega
     have hk0d : decide ((0 : Int) < (k : Int)) = false := decide_eq_false hk0z
     have hk0e : decide (0 < k) = false := decide_eq_false (by omega)
     clear hc HNO HOK ht SK r2 hk0
     generalize (etn es k).t = x at r0
     generalize (etn es k).a = d2 at r1 hV
     generalize (etn es k).fs.length = d3 at r1 hV
     generalize (etn es k).cap = d4 at r1 hV
     as_aux_lemma =>
      go_wp2_with fail
      refine wp_region_held_drew (S := (fun w' => Below wr.heap.size wr w' ∧ w'.cell? ⟨wr.heap.size, 0, none⟩ = some (.int .u32 x) ∧ w'.cell? ⟨wr.heap.size, 1, none⟩ = some (.slice d2 d3 d4))) (by kernel_rfl) ?_ (fun hHeld => ?_)
      ·(try dsimp only); refine ⟨(hB0 _).drew, by simp [go_sem], by simp [go_sem]⟩
      change wpAnyH _ _ _ _ _ 19 #[false, false, false, false, false, false, false, false, false, false, false, false, false, false, false, false, false, false, false] _ _
      refine wpAnyH_take (i := 0) (oi := { dst := some 15, op := Op.fieldAddr 94 (Operand.tmp 4) 1, type := 0, pos := "sound.go:72", after := #[], guard := none }) (v := ?_) rfl (by kernel_rfl) (by kernel_rfl) (by kernel_rfl) (fun _ _ _ h => h) (Or.inl ⟨by kernel_rfl, ?_⟩) (by assumption) ?_
      rotate_left
      focus
       intro w hSw
       (try dsimp only at hSw)
       go_simp
       all_goals (try with_reducible rfl)
      simp only [Act.put, saQ, szQ, ssQ]
      refine wpAnyH_take (i := 1) (oi := { dst := some 16, op := Op.load 40 (Operand.tmp 15), type := 40, pos := "sound.go:72", after := #[{ on := 0, ground := Ground.data }], guard := none }) (v := ?_) rfl (by kernel_rfl) (by kernel_rfl) (by kernel_rfl) (fun _ _ _ h => h) (Or.inl ⟨by kernel_rfl, ?_⟩) (by assumption) ?_
      rotate_left
      focus
       intro w hSw
       (try dsimp only at hSw)
       go_simp
       all_goals (try with_reducible rfl)
      simp only [Act.put, saQ, szQ, ssQ]
      refine wpAnyH_ready (rs := [2]) (by kernel_rfl) (by simp) ?_
      refine AllReadyH.cons (o := { dst := some 17, op := Op.call { callee := Callee.value (Operand.func 102), args := #[Operand.tmp 16], argTypes := #[40] }, type := 4, pos := "sound.go:72", after := #[{ on := 1, ground := Ground.data }], guard := none }) rfl (fun K hK => ?_) AllReadyH.nil
      go_simp
      refine (hV _ hHeld.1).mono ?_
      (rintro e w2 ⟨rfl, hb2⟩)
      go_wp2_with fail
      refine hK.out _ _ ?_ (fun hHeld2 => ?_)
      ·(try dsimp only); exact keep2 rfl rfl hb2 hHeld
      clear hK K hHeld
      have hHeld := hHeld2
      clear hHeld2
      simp only [saQ, szQ, ssQ]
      refine wpAnyH_take (i := 3) (oi := { dst := some 18, op := Op.unOp UnOp.not 4 (Operand.tmp 17), type := 4, pos := "sound.go:72", after := #[{ on := 2, ground := Ground.data }], guard := none }) (v := ?_) rfl (by kernel_rfl) (by kernel_rfl) (by kernel_rfl) (fun _ _ _ h => h) (Or.inl ⟨by kernel_rfl, ?_⟩) (by assumption) ?_
      rotate_left
      focus
       intro w hSw
       (try dsimp only at hSw)
       go_simp
       all_goals (try with_reducible rfl)
      simp only [Act.put, saQ, szQ, ssQ]
      refine wpAnyH_take (i := 4) (oi := { dst := some 19, op := Op.move (Operand.tmp 18), type := 4, pos := "sound.go:72", after := #[{ on := 3, ground := Ground.data }, { on := 2, ground := Ground.chain }], guard := none }) (v := ?_) rfl (by kernel_rfl) (by kernel_rfl) (by kernel_rfl) (fun _ _ _ h => h) (Or.inl ⟨by kernel_rfl, ?_⟩) (by assumption) ?_
      rotate_left
      focus
       intro w hSw
       (try dsimp only at hSw)
       go_simp
       all_goals (try with_reducible rfl)
      simp only [Act.put, saQ, szQ, ssQ]
      refine wpAnyH_take (i := 5) (oi := { dst := some 20, op := Op.move (Operand.tmp 3), type := 3, pos := "sound.go:72", after := #[{ on := 4, ground := Ground.guard }], guard := some (4, false) }) (v := ?_) rfl (by kernel_rfl) (by kernel_rfl) (by kernel_rfl) (fun _ _ _ h => h) (Or.inl ⟨by kernel_rfl, ?_⟩) (by assumption) ?_
      rotate_left
      focus
       intro w hSw
       (try dsimp only at hSw)
       go_simp
       all_goals (try with_reducible rfl)
      simp only [Act.put, saQ, szQ, ssQ]
      refine wpAnyH_take (i := 6) (oi := { dst := some 21, op := Op.binOp BinOp.gtr 3 (Operand.tmp 20) (Operand.const (Value.int IntKind.i64 0)) 3, type := 4, pos := "sound.go:72", after := #[{ on := 5, ground := Ground.data }, { on := 4, ground := Ground.guard }], guard := some (4, false) }) (v := ?_) rfl (by kernel_rfl) (by kernel_rfl) (by kernel_rfl) (fun _ _ _ h => h) (Or.inl ⟨by kernel_rfl, ?_⟩) (by assumption) ?_
      rotate_left
      focus
       intro w hSw
       (try dsimp only at hSw)
       go_simp
       all_goals (try with_reducible rfl)
      simp only [Act.put, saQ, szQ, ssQ]
      refine wpAnyH_take (i := 7) (oi := { dst := some 22, op := Op.move (Operand.tmp 21), type := 4, pos := "sound.go:72", after := #[{ on := 6, ground := Ground.data }, { on := 4, ground := Ground.chain }, { on := 4, ground := Ground.guard }], guard := some (4, false) }) (v := ?_) rfl (by kernel_rfl) (by kernel_rfl) (by kernel_rfl) (fun _ _ _ h => h) (Or.inl ⟨by kernel_rfl, ?_⟩) (by assumption) ?_
      rotate_left
      focus
       intro w hSw
       (try dsimp only at hSw)
       go_simp
       all_goals (try with_reducible rfl)
      simp only [Act.put, saQ, szQ, ssQ]
      refine wpAnyH_take (i := 8) (oi := { dst := some 23, op := Op.fieldAddr 94 (Operand.tmp 4) 0, type := 0, pos := "sound.go:72", after := #[{ on := 7, ground := Ground.guard }], guard := some (7, true) }) (v := undef) rfl (by kernel_rfl) (by kernel_rfl) (by kernel_rfl) (fun _ _ _ h => h) (Or.inr ⟨by kernel_rfl, rfl⟩) (by assumption) ?_
      simp only [Act.put, saQ, szQ, ssQ]
      refine wpAnyH_take (i := 9) (oi := { dst := some 24, op := Op.load 38 (Operand.tmp 23), type := 38, pos := "sound.go:72", after := #[{ on := 8, ground := Ground.data }, { on := 7, ground := Ground.guard }], guard := some (7, true) }) (v := undef) rfl (by kernel_rfl) (by kernel_rfl) (by kernel_rfl) (fun _ _ _ h => h) (Or.inr ⟨by kernel_rfl, rfl⟩) (by assumption) ?_
      simp only [Act.put, saQ, szQ, ssQ]
      refine wpAnyH_take (i := 10) (oi := { dst := some 25, op := Op.move (Operand.tmp 0), type := 44, pos := "sound.go:72", after := #[{ on := 7, ground := Ground.guard }], guard := some (7, true) }) (v := undef) rfl (by kernel_rfl) (by kernel_rfl) (by kernel_rfl) (fun _ _ _ h => h) (Or.inr ⟨by kernel_rfl, rfl⟩) (by assumption) ?_
      simp only [Act.put, saQ, szQ, ssQ]
      refine wpAnyH_take (i := 11) (oi := { dst := some 26, op := Op.move (Operand.tmp 3), type := 3, pos := "sound.go:72", after := #[{ on := 7, ground := Ground.guard }], guard := some (7, true) }) (v := undef) rfl (by kernel_rfl) (by kernel_rfl) (by kernel_rfl) (fun _ _ _ h => h) (Or.inr ⟨by kernel_rfl, rfl⟩) (by assumption) ?_
      simp only [Act.put, saQ, szQ, ssQ]
      refine wpAnyH_take (i := 12) (oi := { dst := some 27, op := Op.binOp BinOp.sub 3 (Operand.tmp 26) (Operand.const (Value.int IntKind.i64 1)) 3, type := 3, pos := "sound.go:72", after := #[{ on := 11, ground := Ground.data }, { on := 7, ground := Ground.guard }], guard := some (7, true) }) (v := undef) rfl (by kernel_rfl) (by kernel_rfl) (by kernel_rfl) (fun _ _ _ h => h) (Or.inr ⟨by kernel_rfl, rfl⟩) (by assumption) ?_
      simp only [Act.put, saQ, szQ, ssQ]
      refine wpAnyH_take (i := 13) (oi := { dst := some 28, op := Op.indexAddr 44 (Operand.tmp 25) (Operand.tmp 27), type := 0, pos := "sound.go:72", after := #[{ on := 10, ground := Ground.data }, { on := 12, ground := Ground.data }, { on := 7, ground := Ground.guard }], guard := some (7, true) }) (v := undef) rfl (by kernel_rfl) (by kernel_rfl) (by kernel_rfl) (fun _ _ _ h => h) (Or.inr ⟨by kernel_rfl, rfl⟩) (by assumption) ?_
      simp only [Act.put, saQ, szQ, ssQ]
      refine wpAnyH_take (i := 14) (oi := { dst := some 29, op := Op.fieldAddr 94 (Operand.tmp 28) 0, type := 0, pos := "sound.go:72", after := #[{ on := 13, ground := Ground.data }, { on := 7, ground := Ground.guard }], guard := some (7, true) }) (v := undef) rfl (by kernel_rfl) (by kernel_rfl) (by kernel_rfl) (fun _ _ _ h => h) (Or.inr ⟨by kernel_rfl, rfl⟩) (by assumption) ?_
      simp only [Act.put, saQ, szQ, ssQ]
      refine wpAnyH_take (i := 15) (oi := { dst := some 30, op := Op.load 38 (Operand.tmp 29), type := 38, pos := "sound.go:72", after := #[{ on := 14, ground := Ground.data }, { on := 7, ground := Ground.guard }], guard := some (7, true) }) (v := undef) rfl (by kernel_rfl) (by kernel_rfl) (by kernel_rfl) (fun _ _ _ h => h) (Or.inr ⟨by kernel_rfl, rfl⟩) (by assumption) ?_
      simp only [Act.put, saQ, szQ, ssQ]
      refine wpAnyH_take (i := 16) (oi := { dst := some 31, op := Op.binOp BinOp.leq 38 (Operand.tmp 24) (Operand.tmp 30) 38, type := 4, pos := "sound.go:72", after := #[{ on := 9, ground := Ground.data }, { on := 15, ground := Ground.data }, { on := 7, ground := Ground.guard }], guard := some (7, true) }) (v := undef) rfl (by kernel_rfl) (by kernel_rfl) (by kernel_rfl) (fun _ _ _ h => h) (Or.inr ⟨by kernel_rfl, rfl⟩) (by assumption) ?_
      simp only [Act.put, saQ, szQ, ssQ]
      refine wpAnyH_take (i := 17) (oi := { dst := some 32, op := Op.pick (Operand.tmp 22) (Operand.tmp 31) (Operand.const (Value.bool false)), type := 4, pos := "sound.go:72", after := #[{ on := 7, ground := Ground.data }, { on := 16, ground := Ground.data }, { on := 4, ground := Ground.guard }], guard := some (4, false) }) (v := ?_) rfl (by kernel_rfl) (by kernel_rfl) (by kernel_rfl) (fun _ _ _ h => h) (Or.inl ⟨by kernel_rfl, ?_⟩) (by assumption) ?_
      rotate_left
      focus
       intro w hSw
       (try dsimp only at hSw)
       go_simp
       all_goals (try with_reducible rfl)
      simp only [Act.put, saQ, szQ, ssQ]
      refine wpAnyH_take (i := 18) (oi := { dst := some 33, op := Op.pick (Operand.tmp 19) (Operand.const (Value.bool true)) (Operand.tmp 32), type := 4, pos := "sound.go:72", after := #[{ on := 4, ground := Ground.data }, { on := 17, ground := Ground.data }], guard := none }) (v := ?_) rfl (by kernel_rfl) (by kernel_rfl) (by kernel_rfl) (fun _ _ _ h => h) (Or.inl ⟨by kernel_rfl, ?_⟩) (by assumption) ?_
      rotate_left
      focus
       intro w hSw
       (try dsimp only at hSw)
       go_simp
       all_goals (try with_reducible rfl)
      simp only [Act.put, saQ, szQ, ssQ]
      refine wpAnyH_done (by kernel_rfl) ?_ _
      have B2 : Aside _ := hHeld.1
      clear hHeld
      go_wp2
      go_roundg (n - (k + 1))
      case measure => omega
      case rel => exact ⟨k + 1, by go_num, by omega, by omega, SB.out.trans (B2.out.mono hsz), S2.out⟩
    ·obtain ⟨j, hj⟩ : ∃ j, k = j + 1 := ⟨k - 1, by omega⟩
     have HJ : Hid (k = j + 1) := hj
     have hjl : j < es.length := by omega
     obtain ⟨r3, -, -⟩ := hc j hjl
     have l1 := cell_lt r3
     have hj1 : IntKind.i64.wrap ((k : Int) - 1) = (j : Int) := by rw [IntKind.wrap_i64]; omega
     have hj2 : wrap64 ((k : Int) - 1) = (j : Int) := by unfold wrap64; omega
     have hk0d : decide ((0 : Int) < (k : Int)) = true := decide_eq_true (by omega)
     have hk0e : decide (0 < k) = true := decide_eq_true (by omega)
     have hjj : (0 : Int) ≤ (j : Int) ∧ (j : Int) < (n : Int) := by omega
     have HG : Aside (enGood (es.map pe) k ↔ (etn es j).t < (etn es k).t) := by
      show _ ↔ _
      unfold enGood
      rw [show k - 1 = j by omega, pen_map hkl, pen_map hjl]
      constructor
      ·intro h; exact h.2 (by omega)
      ·intro h; exact ⟨ht, fun _ => h⟩
     by_cases hle : (etn es k).t ≤ (etn es j).t
     ·have E : Hid (entsOk (es.map pe) = false) := entsOk_not hkm fun h => by have := HG.out.1 h; omega
      have hled : decide ((etn es k).t ≤ (etn es j).t) = true := decide_eq_true hle
      clear hc HNO HOK ht SK r2 hk0 hj HG hle
      generalize (etn es k).t = x at r0 hled
      generalize (etn es j).t = y at r3 hled
      generalize (etn es k).a = d2 at r1 hV
      generalize (etn es k).fs.length = d3 at r1 hV
      generalize (etn es k).cap = d4 at r1 hV
      as_aux_lemma =>
       go_wp2_with fail
       refine wp_region_held_drew (S := (fun w' => Below wr.heap.size wr w' ∧ w'.cell? ⟨wr.heap.size, 0, none⟩ = some (.int .u32 x) ∧ w'.cell? ⟨wr.heap.size, 1, none⟩ = some (.slice d2 d3 d4) ∧ w'.cell? ⟨b, off + j * 2, none⟩ = some (.int .u32 y))) (by kernel_rfl) ?_ (fun hHeld => ?_)
       ·(try dsimp only); refine ⟨(hB0 _).drew, by simp [go_sem], by simp [go_sem], ((hB0 _).drew.cell (p := ⟨b, off + j * 2, none⟩) l1).trans r3⟩
       change wpAnyH _ _ _ _ _ 19 #[false, false, false, false, false, false, false, false, false, false, false, false, false, false, false, false, false, false, false] _ _
       refine wpAnyH_take (i := 0) (oi := { dst := some 15, op := Op.fieldAddr 94 (Operand.tmp 4) 1, type := 0, pos := "sound.go:72", after := #[], guard := none }) (v := ?_) rfl (by kernel_rfl) (by kernel_rfl) (by kernel_rfl) (fun _ _ _ h => h) (Or.inl ⟨by kernel_rfl, ?_⟩) (by assumption) ?_
       rotate_left
       focus
        intro w hSw
        (try dsimp only at hSw)
        go_simp
        all_goals (try with_reducible rfl)
       simp only [Act.put, saQ, szQ, ssQ]
       refine wpAnyH_take (i := 1) (oi := { dst := some 16, op := Op.load 40 (Operand.tmp 15), type := 40, pos := "sound.go:72", after := #[{ on := 0, ground := Ground.data }], guard := none }) (v := ?_) rfl (by kernel_rfl) (by kernel_rfl) (by kernel_rfl) (fun _ _ _ h => h) (Or.inl ⟨by kernel_rfl, ?_⟩) (by assumption) ?_
       rotate_left
       focus
        intro w hSw
        (try dsimp only at hSw)
        go_simp
        all_goals (try with_reducible rfl)
       simp only [Act.put, saQ, szQ, ssQ]
       refine wpAnyH_ready (rs := [2]) (by kernel_rfl) (by simp) ?_
       refine AllReadyH.cons (o := { dst := some 17, op := Op.call { callee := Callee.value (Operand.func 102), args := #[Operand.tmp 16], argTypes := #[40] }, type := 4, pos := "sound.go:72", after := #[{ on := 1, ground := Ground.data }], guard := none }) rfl (fun K hK => ?_) AllReadyH.nil
       go_simp
       refine (hV _ hHeld.1).mono ?_
       (rintro e w2 ⟨rfl, hb2⟩)
       go_wp2_with fail
       refine hK.out _ _ ?_ (fun hHeld2 => ?_)
       ·(try dsimp only); exact keep3 hb2 hHeld
       clear hK K hHeld
       have hHeld := hHeld2
       clear hHeld2
       simp only [saQ, szQ, ssQ]
       refine wpAnyH_take (i := 3) (oi := { dst := some 18, op := Op.unOp UnOp.not 4 (Operand.tmp 17), type := 4, pos := "sound.go:72", after := #[{ on := 2, ground := Ground.data }], guard := none }) (v := ?_) rfl (by kernel_rfl) (by kernel_rfl) (by kernel_rfl) (fun _ _ _ h => h) (Or.inl ⟨by kernel_rfl, ?_⟩) (by assumption) ?_
       rotate_left
       focus
        intro w hSw
        (try dsimp only at hSw)
        go_simp
        all_goals (try with_reducible rfl)
       simp only [Act.put, saQ, szQ, ssQ]
       refine wpAnyH_take (i := 4) (oi := { dst := some 19, op := Op.move (Operand.tmp 18), type := 4, pos := "sound.go:72", after := #[{ on := 3, ground := Ground.data }, { on := 2, ground := Ground.chain }], guard := none }) (v := ?_) rfl (by kernel_rfl) (by kernel_rfl) (by kernel_rfl) (fun _ _ _ h => h) (Or.inl ⟨by kernel_rfl, ?_⟩) (by assumption) ?_
       rotate_left
       focus
        intro w hSw
        (try dsimp only at hSw)
        go_simp
        all_goals (try with_reducible rfl)
       simp only [Act.put, saQ, szQ, ssQ]
       refine wpAnyH_take (i := 5) (oi := { dst := some 20, op := Op.move (Operand.tmp 3), type := 3, pos := "sound.go:72", after := #[{ on := 4, ground := Ground.guard }], guard := some (4, false) }) (v := ?_) rfl (by kernel_rfl) (by kernel_rfl) (by kernel_rfl) (fun _ _ _ h => h) (Or.inl ⟨by kernel_rfl, ?_⟩) (by assumption) ?_
       rotate_left
       focus
        intro w hSw
        (try dsimp only at hSw)
        go_simp
        all_goals (try with_reducible rfl)
       simp only [Act.put, saQ, szQ, ssQ]
       refine wpAnyH_take (i := 6) (oi := { dst := some 21, op := Op.binOp BinOp.gtr 3 (Operand.tmp 20) (Operand.const (Value.int IntKind.i64 0)) 3, type := 4, pos := "sound.go:72", after := #[{ on := 5, ground := Ground.data }, { on := 4, ground := Ground.guard }], guard := some (4, false) }) (v := ?_) rfl (by kernel_rfl) (by kernel_rfl) (by kernel_rfl) (fun _ _ _ h => h) (Or.inl ⟨by kernel_rfl, ?_⟩) (by assumption) ?_
       rotate_left
       focus
        intro w hSw
        (try dsimp only at hSw)
        go_simp
        all_goals (try with_reducible rfl)
       simp only [Act.put, saQ, szQ, ssQ]
       refine wpAnyH_take (i := 7) (oi := { dst := some 22, op := Op.move (Operand.tmp 21), type := 4, pos := "sound.go:72", after := #[{ on := 6, ground := Ground.data }, { on := 4, ground := Ground.chain }, { on := 4, ground := Ground.guard }], guard := some (4, false) }) (v := ?_) rfl (by kernel_rfl) (by kernel_rfl) (by kernel_rfl) (fun _ _ _ h => h) (Or.inl ⟨by kernel_rfl, ?_⟩) (by assumption) ?_
       rotate_left
       focus
        intro w hSw
        (try dsimp only at hSw)
        go_simp
        all_goals (try with_reducible rfl)
       simp only [Act.put, saQ, szQ, ssQ]
       refine wpAnyH_take (i := 8) (oi := { dst := some 23, op := Op.fieldAddr 94 (Operand.tmp 4) 0, type := 0, pos := "sound.go:72", after := #[{ on := 7, ground := Ground.guard }], guard := some (7, true) }) (v := ?_) rfl (by kernel_rfl) (by kernel_rfl) (by kernel_rfl) (fun _ _ _ h => h) (Or.inl ⟨by kernel_rfl, ?_⟩) (by assumption) ?_
       rotate_left
       focus
        intro w hSw
        (try dsimp only at hSw)
        go_simp
        all_goals (try with_reducible rfl)
       simp only [Act.put, saQ, szQ, ssQ]
       refine wpAnyH_take (i := 9) (oi := { dst := some 24, op := Op.load 38 (Operand.tmp 23), type := 38, pos := "sound.go:72", after := #[{ on := 8, ground := Ground.data }, { on := 7, ground := Ground.guard }], guard := some (7, true) }) (v := ?_) rfl (by kernel_rfl) (by kernel_rfl) (by kernel_rfl) (fun _ _ _ h => h) (Or.inl ⟨by kernel_rfl, ?_⟩) (by assumption) ?_
       rotate_left
       focus
        intro w hSw
        (try dsimp only at hSw)
        go_simp
        all_goals (try with_reducible rfl)
       simp only [Act.put, saQ, szQ, ssQ]
       refine wpAnyH_take (i := 10) (oi := { dst := some 25, op := Op.move (Operand.tmp 0), type := 44, pos := "sound.go:72", after := #[{ on := 7, ground := Ground.guard }], guard := some (7, true) }) (v := ?_) rfl (by kernel_rfl) (by kernel_rfl) (by kernel_rfl) (fun _ _ _ h => h) (Or.inl ⟨by kernel_rfl, ?_⟩) (by assumption) ?_
       rotate_left
       focus
        intro w hSw
        (try dsimp only at hSw)
        go_simp
        all_goals (try with_reducible rfl)
       simp only [Act.put, saQ, szQ, ssQ]
       refine wpAnyH_take (i := 11) (oi := { dst := some 26, op := Op.move (Operand.tmp 3), type := 3, pos := "sound.go:72", after := #[{ on := 7, ground := Ground.guard }], guard := some (7, true) }) (v := ?_) rfl (by kernel_rfl) (by kernel_rfl) (by kernel_rfl) (fun _ _ _ h => h) (Or.inl ⟨by kernel_rfl, ?_⟩) (by assumption) ?_
       rotate_left
       focus
        intro w hSw
        (try dsimp only at hSw)
        go_simp
        all_goals (try with_reducible rfl)
       simp only [Act.put, saQ, szQ, ssQ]
       refine wpAnyH_take (i := 12) (oi := { dst := some 27, op := Op.binOp BinOp.sub 3 (Operand.tmp 26) (Operand.const (Value.int IntKind.i64 1)) 3, type := 3, pos := "sound.go:72", after := #[{ on := 11, ground := Ground.data }, { on := 7, ground := Ground.guard }], guard := some (7, true) }) (v := ?_) rfl (by kernel_rfl) (by kernel_rfl) (by kernel_rfl) (fun _ _ _ h => h) (Or.inl ⟨by kernel_rfl, ?_⟩) (by assumption) ?_
       rotate_left
       focus
        intro w hSw
        (try dsimp only at hSw)
        go_simp
        all_goals (try with_reducible rfl)
       simp only [Act.put, saQ, szQ, ssQ]
       refine wpAnyH_take (i := 13) (oi := { dst := some 28, op := Op.indexAddr 44 (Operand.tmp 25) (Operand.tmp 27), type := 0, pos := "sound.go:72", after := #[{ on := 10, ground := Ground.data }, { on := 12, ground := Ground.data }, { on := 7, ground := Ground.guard }], guard := some (7, true) }) (v := ?_) rfl (by kernel_rfl) (by kernel_rfl) (by kernel_rfl) (fun _ _ _ h => h) (Or.inl ⟨by kernel_rfl, ?_⟩) (by assumption) ?_
       rotate_left
       focus
        intro w hSw
        (try dsimp only at hSw)
        go_simp
        all_goals (try with_reducible rfl)
       simp only [Act.put, saQ, szQ, ssQ]
       refine wpAnyH_take (i := 14) (oi := { dst := some 29, op := Op.fieldAddr 94 (Operand.tmp 28) 0, type := 0, pos := "sound.go:72", after := #[{ on := 13, ground := Ground.data }, { on := 7, ground := Ground.guard }], guard := some (7, true) }) (v := ?_) rfl (by kernel_rfl) (by kernel_rfl) (by kernel_rfl) (fun _ _ _ h => h) (Or.inl ⟨by kernel_rfl, ?_⟩) (by assumption) ?_
       rotate_left
       focus
        intro w hSw
        (try dsimp only at hSw)
        go_simp
        all_goals (try with_reducible rfl)
       simp only [Act.put, saQ, szQ, ssQ]
       refine wpAnyH_take (i := 15) (oi := { dst := some 30, op := Op.load 38 (Operand.tmp 29), type := 38, pos := "sound.go:72", after := #[{ on := 14, ground := Ground.data }, { on := 7, ground := Ground.guard }], guard := some (7, true) }) (v := ?_) rfl (by kernel_rfl) (by kernel_rfl) (by kernel_rfl) (fun _ _ _ h => h) (Or.inl ⟨by kernel_rfl, ?_⟩) (by assumption) ?_
       rotate_left
       focus
        intro w hSw
        (try dsimp only at hSw)
        go_simp
        all_goals (try with_reducible rfl)
       simp only [Act.put, saQ, szQ, ssQ]
       refine wpAnyH_take (i := 16) (oi := { dst := some 31, op := Op.binOp BinOp.leq 38 (Operand.tmp 24) (Operand.tmp 30) 38, type := 4, pos := "sound.go:72", after := #[{ on := 9, ground := Ground.data }, { on := 15, ground := Ground.data }, { on := 7, ground := Ground.guard }], guard := some (7, true) }) (v := ?_) rfl (by kernel_rfl) (by kernel_rfl) (by kernel_rfl) (fun _ _ _ h => h) (Or.inl ⟨by kernel_rfl, ?_⟩) (by assumption) ?_
       rotate_left
       focus
        intro w hSw
        (try dsimp only at hSw)
        go_simp
        all_goals (try with_reducible rfl)
       simp only [Act.put, saQ, szQ, ssQ]
       refine wpAnyH_take (i := 17) (oi := { dst := some 32, op := Op.pick (Operand.tmp 22) (Operand.tmp 31) (Operand.const (Value.bool false)), type := 4, pos := "sound.go:72", after := #[{ on := 7, ground := Ground.data }, { on := 16, ground := Ground.data }, { on := 4, ground := Ground.guard }], guard := some (4, false) }) (v := ?_) rfl (by kernel_rfl) (by kernel_rfl) (by kernel_rfl) (fun _ _ _ h => h) (Or.inl ⟨by kernel_rfl, ?_⟩) (by assumption) ?_
       rotate_left
       focus
        intro w hSw
        (try dsimp only at hSw)
        go_simp
        all_goals (try with_reducible rfl)
       simp only [Act.put, saQ, szQ, ssQ]
       refine wpAnyH_take (i := 18) (oi := { dst := some 33, op := Op.pick (Operand.tmp 19) (Operand.const (Value.bool true)) (Operand.tmp 32), type := 4, pos := "sound.go:72", after := #[{ on := 4, ground := Ground.data }, { on := 17, ground := Ground.data }], guard := none }) (v := ?_) rfl (by kernel_rfl) (by kernel_rfl) (by kernel_rfl) (fun _ _ _ h => h) (Or.inl ⟨by kernel_rfl, ?_⟩) (by assumption) ?_
       rotate_left
       focus
        intro w hSw
        (try dsimp only at hSw)
        go_simp
        all_goals (try with_reducible rfl)
       simp only [Act.put, saQ, szQ, ssQ]
       refine wpAnyH_done (by kernel_rfl) ?_ _
       have B2 : Aside _ := hHeld.1
       clear hHeld
       go_wp2
       go_ret
       exact ⟨ret_bool E.out.symm, SB.out.trans (B2.out.mono hsz)⟩
     ·have S2 : Aside (∀ i, i < k + 1 → enGood (es.map pe) i) := fun i hi => by
       by_cases e : i = k
       ·subst e; exact HG.out.2 (by omega)
       ·exact SK.out.2 i (by omega)
      have hled : decide ((etn es k).t ≤ (etn es j).t) = false := decide_eq_false hle
      clear hc HNO HOK ht SK r2 hk0 hj HG hle
      generalize (etn es k).t = x at r0 hled
      generalize (etn es j).t = y at r3 hled
      generalize (etn es k).a = d2 at r1 hV
      generalize (etn es k).fs.length = d3 at r1 hV
      generalize (etn es k).cap = d4 at r1 hV
      as_aux_lemma =>
       go_wp2_with fail
       refine wp_region_held_drew (S := (fun w' => Below wr.heap.size wr w' ∧ w'.cell? ⟨wr.heap.size, 0, none⟩ = some (.int .u32 x) ∧ w'.cell? ⟨wr.heap.size, 1, none⟩ = some (.slice d2 d3 d4) ∧ w'.cell? ⟨b, off + j * 2, none⟩ = some (.int .u32 y))) (by kernel_rfl) ?_ (fun hHeld => ?_)
       ·(try dsimp only); refine ⟨(hB0 _).drew, by simp [go_sem], by simp [go_sem], ((hB0 _).drew.cell (p := ⟨b, off + j * 2, none⟩) l1).trans r3⟩
       change wpAnyH _ _ _ _ _ 19 #[false, false, false, false, false, false, false, false, false, false, false, false, false, false, false, false, false, false, false] _ _
       refine wpAnyH_take (i := 0) (oi := { dst := some 15, op := Op.fieldAddr 94 (Operand.tmp 4) 1, type := 0, pos := "sound.go:72", after := #[], guard := none }) (v := ?_) rfl (by kernel_rfl) (by kernel_rfl) (by kernel_rfl) (fun _ _ _ h => h) (Or.inl ⟨by kernel_rfl, ?_⟩) (by assumption) ?_
       rotate_left
       focus
        intro w hSw
        (try dsimp only at hSw)
        go_simp
        all_goals (try with_reducible rfl)
       simp only [Act.put, saQ, szQ, ssQ]
       refine wpAnyH_take (i := 1) (oi := { dst := some 16, op := Op.load 40 (Operand.tmp 15), type := 40, pos := "sound.go:72", after := #[{ on := 0, ground := Ground.data }], guard := none }) (v := ?_) rfl (by kernel_rfl) (by kernel_rfl) (by kernel_rfl) (fun _ _ _ h => h) (Or.inl ⟨by kernel_rfl, ?_⟩) (by assumption) ?_
       rotate_left
       focus
        intro w hSw
        (try dsimp only at hSw)
        go_simp
        all_goals (try with_reducible rfl)
       simp only [Act.put, saQ, szQ, ssQ]
       refine wpAnyH_ready (rs := [2]) (by kernel_rfl) (by simp) ?_
       refine AllReadyH.cons (o := { dst := some 17, op := Op.call { callee := Callee.value (Operand.func 102), args := #[Operand.tmp 16], argTypes := #[40] }, type := 4, pos := "sound.go:72", after := #[{ on := 1, ground := Ground.data }], guard := none }) rfl (fun K hK => ?_) AllReadyH.nil
       go_simp
       refine (hV _ hHeld.1).mono ?_
       (rintro e w2 ⟨rfl, hb2⟩)
       go_wp2_with fail
       refine hK.out _ _ ?_ (fun hHeld2 => ?_)
       ·(try dsimp only); exact keep3 hb2 hHeld
       clear hK K hHeld
       have hHeld := hHeld2
       clear hHeld2
       simp only [saQ, szQ, ssQ]
       refine wpAnyH_take (i := 3) (oi := { dst := some 18, op := Op.unOp UnOp.not 4 (Operand.tmp 17), type := 4, pos := "sound.go:72", after := #[{ on := 2, ground := Ground.data }], guard := none }) (v := ?_) rfl (by kernel_rfl) (by kernel_rfl) (by kernel_rfl) (fun _ _ _ h => h) (Or.inl ⟨by kernel_rfl, ?_⟩) (by assumption) ?_
       rotate_left
       focus
        intro w hSw
        (try dsimp only at hSw)
        go_simp
        all_goals (try with_reducible rfl)
       simp only [Act.put, saQ, szQ, ssQ]
       refine wpAnyH_take (i := 4) (oi := { dst := some 19, op := Op.move (Operand.tmp 18), type := 4, pos := "sound.go:72", after := #[{ on := 3, ground := Ground.data }, { on := 2, ground := Ground.chain }], guard := none }) (v := ?_) rfl (by kernel_rfl) (by kernel_rfl) (by kernel_rfl) (fun _ _ _ h => h) (Or.inl ⟨by kernel_rfl, ?_⟩) (by assumption) ?_
       rotate_left
       focus
        intro w hSw
        (try dsimp only at hSw)
        go_simp
        all_goals (try with_reducible rfl)
       simp only [Act.put, saQ, szQ, ssQ]
       refine wpAnyH_take (i := 5) (oi := { dst := some 20, op := Op.move (Operand.tmp 3), type := 3, pos := "sound.go:72", after := #[{ on := 4, ground := Ground.guard }], guard := some (4, false) }) (v := ?_) rfl (by kernel_rfl) (by kernel_rfl) (by kernel_rfl) (fun _ _ _ h => h) (Or.inl ⟨by kernel_rfl, ?_⟩) (by assumption) ?_
       rotate_left
       focus
        intro w hSw
        (try dsimp only at hSw)
        go_simp
        all_goals (try with_reducible rfl)
       simp only [Act.put, saQ, szQ, ssQ]
       refine wpAnyH_take (i := 6) (oi := { dst := some 21, op := Op.binOp BinOp.gtr 3 (Operand.tmp 20) (Operand.const (Value.int IntKind.i64 0)) 3, type := 4, pos := "sound.go:72", after := #[{ on := 5, ground := Ground.data }, { on := 4, ground := Ground.guard }], guard := some (4, false) }) (v := ?_) rfl (by kernel_rfl) (by kernel_rfl) (by kernel_rfl) (fun _ _ _ h => h) (Or.inl ⟨by kernel_rfl, ?_⟩) (by assumption) ?_
       rotate_left
       focus
        intro w hSw
        (try dsimp only at hSw)
        go_simp
        all_goals (try with_reducible rfl)
       simp only [Act.put, saQ, szQ, ssQ]
       refine wpAnyH_take (i := 7) (oi := { dst := some 22, op := Op.move (Operand.tmp 21), type := 4, pos := "sound.go:72", after := #[{ on := 6, ground := Ground.data }, { on := 4, ground := Ground.chain }, { on := 4, ground := Ground.guard }], guard := some (4, false) }) (v := ?_) rfl (by kernel_rfl) (by kernel_rfl) (by kernel_rfl) (fun _ _ _ h => h) (Or.inl ⟨by kernel_rfl, ?_⟩) (by assumption) ?_
       rotate_left
       focus
        intro w hSw
        (try dsimp only at hSw)
        go_simp
        all_goals (try with_reducible rfl)
       simp only [Act.put, saQ, szQ, ssQ]
       refine wpAnyH_take (i := 8) (oi := { dst := some 23, op := Op.fieldAddr 94 (Operand.tmp 4) 0, type := 0, pos := "sound.go:72", after := #[{ on := 7, ground := Ground.guard }], guard := some (7, true) }) (v := ?_) rfl (by kernel_rfl) (by kernel_rfl) (by kernel_rfl) (fun _ _ _ h => h) (Or.inl ⟨by kernel_rfl, ?_⟩) (by assumption) ?_
       rotate_left
       focus
        intro w hSw
        (try dsimp only at hSw)
        go_simp
        all_goals (try with_reducible rfl)
       simp only [Act.put, saQ, szQ, ssQ]
       refine wpAnyH_take (i := 9) (oi := { dst := some 24, op := Op.load 38 (Operand.tmp 23), type := 38, pos := "sound.go:72", after := #[{ on := 8, ground := Ground.data }, { on := 7, ground := Ground.guard }], guard := some (7, true) }) (v := ?_) rfl (by kernel_rfl) (by kernel_rfl) (by kernel_rfl) (fun _ _ _ h => h) (Or.inl ⟨by kernel_rfl, ?_⟩) (by assumption) ?_
       rotate_left
       focus
        intro w hSw
        (try dsimp only at hSw)
        go_simp
        all_goals (try with_reducible rfl)
       simp only [Act.put, saQ, szQ, ssQ]
       refine wpAnyH_take (i := 10) (oi := { dst := some 25, op := Op.move (Operand.tmp 0), type := 44, pos := "sound.go:72", after := #[{ on := 7, ground := Ground.guard }], guard := some (7, true) }) (v := ?_) rfl (by kernel_rfl) (by kernel_rfl) (by kernel_rfl) (fun _ _ _ h => h) (Or.inl ⟨by kernel_rfl, ?_⟩) (by assumption) ?_
       rotate_left
       focus
        intro w hSw
        (try dsimp only at hSw)
        go_simp
        all_goals (try with_reducible rfl)
       simp only [Act.put, saQ, szQ, ssQ]
       refine wpAnyH_take (i := 11) (oi := { dst := some 26, op := Op.move (Operand.tmp 3), type := 3, pos := "sound.go:72", after := #[{ on := 7, ground := Ground.guard }], guard := some (7, true) }) (v := ?_) rfl (by kernel_rfl) (by kernel_rfl) (by kernel_rfl) (fun _ _ _ h => h) (Or.inl ⟨by kernel_rfl, ?_⟩) (by assumption) ?_
       rotate_left
       focus
        intro w hSw
        (try dsimp only at hSw)
        go_simp
        all_goals (try with_reducible rfl)
       simp only [Act.put, saQ, szQ, ssQ]
       refine wpAnyH_take (i := 12) (oi := { dst := some 27, op := Op.binOp BinOp.sub 3 (Operand.tmp 26) (Operand.const (Value.int IntKind.i64 1)) 3, type := 3, pos := "sound.go:72", after := #[{ on := 11, ground := Ground.data }, { on := 7, ground := Ground.guard }], guard := some (7, true) }) (v := ?_) rfl (by kernel_rfl) (by kernel_rfl) (by kernel_rfl) (fun _ _ _ h => h) (Or.inl ⟨by kernel_rfl, ?_⟩) (by assumption) ?_
       rotate_left
       focus
        intro w hSw
        (try dsimp only at hSw)
        go_simp
        all_goals (try with_reducible rfl)
       simp only [Act.put, saQ, szQ, ssQ]
       refine wpAnyH_take (i := 13) (oi := { dst := some 28, op := Op.indexAddr 44 (Operand.tmp 25) (Operand.tmp 27), type := 0, pos := "sound.go:72", after := #[{ on := 10, ground := Ground.data }, { on := 12, ground := Ground.data }, { on := 7, ground := Ground.guard }], guard := some (7, true) }) (v := ?_) rfl (by kernel_rfl) (by kernel_rfl) (by kernel_rfl) (fun _ _ _ h => h) (Or.inl ⟨by kernel_rfl, ?_⟩) (by assumption) ?_
       rotate_left
       focus
        intro w hSw
        (try dsimp only at hSw)
        go_simp
        all_goals (try with_reducible rfl)
       simp only [Act.put, saQ, szQ, ssQ]
       refine wpAnyH_take (i := 14) (oi := { dst := some 29, op := Op.fieldAddr 94 (Operand.tmp 28) 0, type := 0, pos := "sound.go:72", after := #[{ on := 13, ground := Ground.data }, { on := 7, ground := Ground.guard }], guard := some (7, true) }) (v := ?_) rfl (by kernel_rfl) (by kernel_rfl) (by kernel_rfl) (fun _ _ _ h => h) (Or.inl ⟨by kernel_rfl, ?_⟩) (by assumption) ?_
       rotate_left
       focus
        intro w hSw
        (try dsimp only at hSw)
        go_simp
        all_goals (try with_reducible rfl)
       simp only [Act.put, saQ, szQ, ssQ]
       refine wpAnyH_take (i := 15) (oi := { dst := some 30, op := Op.load 38 (Operand.tmp 29), type := 38, pos := "sound.go:72", after := #[{ on := 14, ground := Ground.data }, { on := 7, ground := Ground.guard }], guard := some (7, true) }) (v := ?_) rfl (by kernel_rfl) (by kernel_rfl) (by kernel_rfl) (fun _ _ _ h => h) (Or.inl ⟨by kernel_rfl, ?_⟩) (by assumption) ?_
       rotate_left
       focus
        intro w hSw
        (try dsimp only at hSw)
        go_simp
        all_goals (try with_reducible rfl)
       simp only [Act.put, saQ, szQ, ssQ]
       refine wpAnyH_take (i := 16) (oi := { dst := some 31, op := Op.binOp BinOp.leq 38 (Operand.tmp 24) (Operand.tmp 30) 38, type := 4, pos := "sound.go:72", after := #[{ on := 9, ground := Ground.data }, { on := 15, ground := Ground.data }, { on := 7, ground := Ground.guard }], guard := some (7, true) }) (v := ?_) rfl (by kernel_rfl) (by kernel_rfl) (by kernel_rfl) (fun _ _ _ h => h) (Or.inl ⟨by kernel_rfl, ?_⟩) (by assumption) ?_
       rotate_left
       focus
        intro w hSw
        (try dsimp only at hSw)
        go_simp
        all_goals (try with_reducible rfl)
       simp only [Act.put, saQ, szQ, ssQ]
       refine wpAnyH_take (i := 17) (oi := { dst := some 32, op := Op.pick (Operand.tmp 22) (Operand.tmp 31) (Operand.const (Value.bool false)), type := 4, pos := "sound.go:72", after := #[{ on := 7, ground := Ground.data }, { on := 16, ground := Ground.data }, { on := 4, ground := Ground.guard }], guard := some (4, false) }) (v := ?_) rfl (by kernel_rfl) (by kernel_rfl) (by kernel_rfl) (fun _ _ _ h => h) (Or.inl ⟨by kernel_rfl, ?_⟩) (by assumption) ?_
       rotate_left
       focus
        intro w hSw
        (try dsimp only at hSw)
        go_simp
        all_goals (try with_reducible rfl)
       simp only [Act.put, saQ, szQ, ssQ]
       refine wpAnyH_take (i := 18) (oi := { dst := some 33, op := Op.pick (Operand.tmp 19) (Operand.const (Value.bool true)) (Operand.tmp 32), type := 4, pos := "sound.go:72", after := #[{ on := 4, ground := Ground.data }, { on := 17, ground := Ground.data }], guard := none }) (v := ?_) rfl (by kernel_rfl) (by kernel_rfl) (by kernel_rfl) (fun _ _ _ h => h) (Or.inl ⟨by kernel_rfl, ?_⟩) (by assumption) ?_
       rotate_left
       focus
        intro w hSw
        (try dsimp only at hSw)
        go_simp
        all_goals (try with_reducible rfl)
       simp only [Act.put, saQ, szQ, ssQ]
       refine wpAnyH_done (by kernel_rfl) ?_ _
       have B2 : Aside _ := hHeld.1
       clear hHeld
       go_wp2
       go_roundg (n - (k + 1))
       case measure => omega
       case rel => exact ⟨k + 1, by go_num, by omega, by omega, SB.out.trans (B2.out.mono hsz), S2.out⟩
  ·have hltz : ¬ (k : Int) < (n : Int) := by omega
   have E : Hid (entsOk (es.map pe) = true) := entsOk_all (by have := HI.out.2; simp; omega) fun i hi => SK.out.2 i (by have := HI.out.2; simp at hi; omega)
   go_wp2
   go_ret
   exact ⟨ret_bool E.out.symm, SK.out.1⟩
set_option linter.unusedSimpArgs false
def unw (r : Rc) : Rc :=
 if r.kind = 1 then { r with id := 0, na := none, nc := 0, nodes := [], fa := none, fc := 0, facts := [] }
 else if r.kind = 2 then { r with id := 0, at_ := 0, na := none, nc := 0, nodes := [] }
 else if r.kind = 3 ∨ r.kind = 4 ∨ r.kind = 5 then { r with id := 0 }
 else if r.kind = 6 then { r with epoch := 0, sa := none, sc := 0, spans := [] }
 else { r with id := 0, frm := 0, til := 0, ea := none, ec := 0, ents := [] }

theorem unw_1 (kind id at_ epoch frm til : Int) (na fa sa ea : Option Addr) (nn nc fn fc sn sc en ec : Nat) (w : World) :
  Calls Tryz.prog 100 #[.agg #[.int .u8 1, .int .u32 id, .int .u32 at_, .slice na nn nc, .slice fa fn fc, .int .u32 epoch, .slice sa sn sc, .int .i64 frm, .int .i64 til, .slice ea en ec]] w fun e w' => e = .returned (.agg #[.int .u8 1, .int .u32 0, .int .u32 at_, .slice none 0 0, .slice none 0 0, .int .u32 epoch, .slice sa sn sc, .int .i64 frm, .int .i64 til, .slice ea en ec]) ∧ Below w.heap.size w w' := by
 go_enter Tryz.func100, Tryz.ntmps100
 go_wp2
 refine bodyPost_ret (v := .agg #[.int .u8 1, .int .u32 0, .int .u32 at_, .slice none 0 0, .slice none 0 0, .int .u32 epoch, .slice sa sn sc, .int .i64 frm, .int .i64 til, .slice ea en ec]) (by simp [results, Tryz.results100, go_sem, *]) rfl ⟨rfl, ?_⟩
 (repeat (first | with_reducible exact Below.refl _ _ | (with_reducible refine Below.drew ?_) | (with_reducible refine Below.alloc ?_ (by first | omega | (simp; done) | (simp; omega)) _) | (with_reducible refine Below.setCell ?_ (by first | exact nrQ _ | omega | (simp; done) | (simp; omega)) _)))

theorem unw_2 (kind id at_ epoch frm til : Int) (na fa sa ea : Option Addr) (nn nc fn fc sn sc en ec : Nat) (w : World) :
  Calls Tryz.prog 100 #[.agg #[.int .u8 2, .int .u32 id, .int .u32 at_, .slice na nn nc, .slice fa fn fc, .int .u32 epoch, .slice sa sn sc, .int .i64 frm, .int .i64 til, .slice ea en ec]] w fun e w' => e = .returned (.agg #[.int .u8 2, .int .u32 0, .int .u32 0, .slice none 0 0, .slice fa fn fc, .int .u32 epoch, .slice sa sn sc, .int .i64 frm, .int .i64 til, .slice ea en ec]) ∧ Below w.heap.size w w' := by
 go_enter Tryz.func100, Tryz.ntmps100
 go_wp2
 refine bodyPost_ret (v := .agg #[.int .u8 2, .int .u32 0, .int .u32 0, .slice none 0 0, .slice fa fn fc, .int .u32 epoch, .slice sa sn sc, .int .i64 frm, .int .i64 til, .slice ea en ec]) (by simp [results, Tryz.results100, go_sem, *]) rfl ⟨rfl, ?_⟩
 (repeat (first | with_reducible exact Below.refl _ _ | (with_reducible refine Below.drew ?_) | (with_reducible refine Below.alloc ?_ (by first | omega | (simp; done) | (simp; omega)) _) | (with_reducible refine Below.setCell ?_ (by first | exact nrQ _ | omega | (simp; done) | (simp; omega)) _)))

theorem unw_3 (kind id at_ epoch frm til : Int) (na fa sa ea : Option Addr) (nn nc fn fc sn sc en ec : Nat) (w : World) :
  Calls Tryz.prog 100 #[.agg #[.int .u8 3, .int .u32 id, .int .u32 at_, .slice na nn nc, .slice fa fn fc, .int .u32 epoch, .slice sa sn sc, .int .i64 frm, .int .i64 til, .slice ea en ec]] w fun e w' => e = .returned (.agg #[.int .u8 3, .int .u32 0, .int .u32 at_, .slice na nn nc, .slice fa fn fc, .int .u32 epoch, .slice sa sn sc, .int .i64 frm, .int .i64 til, .slice ea en ec]) ∧ Below w.heap.size w w' := by
 go_enter Tryz.func100, Tryz.ntmps100
 go_wp2
 refine bodyPost_ret (v := .agg #[.int .u8 3, .int .u32 0, .int .u32 at_, .slice na nn nc, .slice fa fn fc, .int .u32 epoch, .slice sa sn sc, .int .i64 frm, .int .i64 til, .slice ea en ec]) (by simp [results, Tryz.results100, go_sem, *]) rfl ⟨rfl, ?_⟩
 (repeat (first | with_reducible exact Below.refl _ _ | (with_reducible refine Below.drew ?_) | (with_reducible refine Below.alloc ?_ (by first | omega | (simp; done) | (simp; omega)) _) | (with_reducible refine Below.setCell ?_ (by first | exact nrQ _ | omega | (simp; done) | (simp; omega)) _)))

theorem unw_4 (kind id at_ epoch frm til : Int) (na fa sa ea : Option Addr) (nn nc fn fc sn sc en ec : Nat) (w : World) :
  Calls Tryz.prog 100 #[.agg #[.int .u8 4, .int .u32 id, .int .u32 at_, .slice na nn nc, .slice fa fn fc, .int .u32 epoch, .slice sa sn sc, .int .i64 frm, .int .i64 til, .slice ea en ec]] w fun e w' => e = .returned (.agg #[.int .u8 4, .int .u32 0, .int .u32 at_, .slice na nn nc, .slice fa fn fc, .int .u32 epoch, .slice sa sn sc, .int .i64 frm, .int .i64 til, .slice ea en ec]) ∧ Below w.heap.size w w' := by
 go_enter Tryz.func100, Tryz.ntmps100
 go_wp2
 refine bodyPost_ret (v := .agg #[.int .u8 4, .int .u32 0, .int .u32 at_, .slice na nn nc, .slice fa fn fc, .int .u32 epoch, .slice sa sn sc, .int .i64 frm, .int .i64 til, .slice ea en ec]) (by simp [results, Tryz.results100, go_sem, *]) rfl ⟨rfl, ?_⟩
 (repeat (first | with_reducible exact Below.refl _ _ | (with_reducible refine Below.drew ?_) | (with_reducible refine Below.alloc ?_ (by first | omega | (simp; done) | (simp; omega)) _) | (with_reducible refine Below.setCell ?_ (by first | exact nrQ _ | omega | (simp; done) | (simp; omega)) _)))

theorem unw_5 (kind id at_ epoch frm til : Int) (na fa sa ea : Option Addr) (nn nc fn fc sn sc en ec : Nat) (w : World) :
  Calls Tryz.prog 100 #[.agg #[.int .u8 5, .int .u32 id, .int .u32 at_, .slice na nn nc, .slice fa fn fc, .int .u32 epoch, .slice sa sn sc, .int .i64 frm, .int .i64 til, .slice ea en ec]] w fun e w' => e = .returned (.agg #[.int .u8 5, .int .u32 0, .int .u32 at_, .slice na nn nc, .slice fa fn fc, .int .u32 epoch, .slice sa sn sc, .int .i64 frm, .int .i64 til, .slice ea en ec]) ∧ Below w.heap.size w w' := by
 go_enter Tryz.func100, Tryz.ntmps100
 go_wp2
 refine bodyPost_ret (v := .agg #[.int .u8 5, .int .u32 0, .int .u32 at_, .slice na nn nc, .slice fa fn fc, .int .u32 epoch, .slice sa sn sc, .int .i64 frm, .int .i64 til, .slice ea en ec]) (by simp [results, Tryz.results100, go_sem, *]) rfl ⟨rfl, ?_⟩
 (repeat (first | with_reducible exact Below.refl _ _ | (with_reducible refine Below.drew ?_) | (with_reducible refine Below.alloc ?_ (by first | omega | (simp; done) | (simp; omega)) _) | (with_reducible refine Below.setCell ?_ (by first | exact nrQ _ | omega | (simp; done) | (simp; omega)) _)))

theorem unw_6 (kind id at_ epoch frm til : Int) (na fa sa ea : Option Addr) (nn nc fn fc sn sc en ec : Nat) (w : World) :
  Calls Tryz.prog 100 #[.agg #[.int .u8 6, .int .u32 id, .int .u32 at_, .slice na nn nc, .slice fa fn fc, .int .u32 epoch, .slice sa sn sc, .int .i64 frm, .int .i64 til, .slice ea en ec]] w fun e w' => e = .returned (.agg #[.int .u8 6, .int .u32 id, .int .u32 at_, .slice na nn nc, .slice fa fn fc, .int .u32 0, .slice none 0 0, .int .i64 frm, .int .i64 til, .slice ea en ec]) ∧ Below w.heap.size w w' := by
 go_enter Tryz.func100, Tryz.ntmps100
 go_wp2
 refine bodyPost_ret (v := .agg #[.int .u8 6, .int .u32 id, .int .u32 at_, .slice na nn nc, .slice fa fn fc, .int .u32 0, .slice none 0 0, .int .i64 frm, .int .i64 til, .slice ea en ec]) (by simp [results, Tryz.results100, go_sem, *]) rfl ⟨rfl, ?_⟩
 (repeat (first | with_reducible exact Below.refl _ _ | (with_reducible refine Below.drew ?_) | (with_reducible refine Below.alloc ?_ (by first | omega | (simp; done) | (simp; omega)) _) | (with_reducible refine Below.setCell ?_ (by first | exact nrQ _ | omega | (simp; done) | (simp; omega)) _)))

theorem unw_7 (kind id at_ epoch frm til : Int) (na fa sa ea : Option Addr) (nn nc fn fc sn sc en ec : Nat) (w : World) :
  Calls Tryz.prog 100 #[.agg #[.int .u8 7, .int .u32 id, .int .u32 at_, .slice na nn nc, .slice fa fn fc, .int .u32 epoch, .slice sa sn sc, .int .i64 frm, .int .i64 til, .slice ea en ec]] w fun e w' => e = .returned (.agg #[.int .u8 7, .int .u32 0, .int .u32 at_, .slice na nn nc, .slice fa fn fc, .int .u32 epoch, .slice sa sn sc, .int .i64 0, .int .i64 0, .slice none 0 0]) ∧ Below w.heap.size w w' := by
 go_enter Tryz.func100, Tryz.ntmps100
 go_wp2
 refine bodyPost_ret (v := .agg #[.int .u8 7, .int .u32 0, .int .u32 at_, .slice na nn nc, .slice fa fn fc, .int .u32 epoch, .slice sa sn sc, .int .i64 0, .int .i64 0, .slice none 0 0]) (by simp [results, Tryz.results100, go_sem, *]) rfl ⟨rfl, ?_⟩
 (repeat (first | with_reducible exact Below.refl _ _ | (with_reducible refine Below.drew ?_) | (with_reducible refine Below.alloc ?_ (by first | omega | (simp; done) | (simp; omega)) _) | (with_reducible refine Below.setCell ?_ (by first | exact nrQ _ | omega | (simp; done) | (simp; omega)) _)))

theorem nought_val (kind id at_ epoch frm til : Int) (na fa sa ea : Option Addr) (nn nc fn fc sn sc en ec : Nat) (w : World) :
  Calls Tryz.prog 99 #[.agg #[.int .u8 kind, .int .u32 id, .int .u32 at_, .slice na nn nc, .slice fa fn fc, .int .u32 epoch, .slice sa sn sc, .int .i64 frm, .int .i64 til, .slice ea en ec]] w fun e w' => e = .returned (.bool (decide (id = 0) && (decide (at_ = 0) && (decide (nn = 0) && (decide (fn = 0) && (decide (epoch = 0) && (decide (sn = 0) && (decide (frm = 0) && (decide (til = 0) && (decide (en = 0))))))))))) ∧ Below w.heap.size w w' := by
 have hB : ∀ o, Below w.heap.size w (w.alloc o) := fun o => (Below.refl _ _).alloc (nrQ _) _
 by_cases c0 : id = 0
 rotate_left
 ·have c0' : (id == 0) = false := by simpa using c0
  have HE : Hid (¬ id = 0) := c0
  clear c0
  go_enter Tryz.func99, Tryz.ntmps99
  go_wp2
  go_ret
  exact ⟨ret_bool (by have := HE.out; simp [this]), hB _⟩
 subst c0
 by_cases c1 : at_ = 0
 rotate_left
 ·have c1' : (at_ == 0) = false := by simpa using c1
  have HE : Hid (¬ at_ = 0) := c1
  clear c1
  go_enter Tryz.func99, Tryz.ntmps99
  go_wp2
  go_ret
  exact ⟨ret_bool (by have := HE.out; simp [this]), hB _⟩
 subst c1
 by_cases c2 : nn = 0
 rotate_left
 ·have c2' : (nn == 0) = false := by simpa using c2
  have c2'' : (((nn : Nat) : Int) == 0) = false := by simp; omega
  have HE : Hid (¬ nn = 0) := c2
  clear c2
  go_enter Tryz.func99, Tryz.ntmps99
  go_wp2
  go_ret
  exact ⟨ret_bool (by have := HE.out; simp [this]), hB _⟩
 subst c2
 by_cases c3 : fn = 0
 rotate_left
 ·have c3' : (fn == 0) = false := by simpa using c3
  have c3'' : (((fn : Nat) : Int) == 0) = false := by simp; omega
  have HE : Hid (¬ fn = 0) := c3
  clear c3
  go_enter Tryz.func99, Tryz.ntmps99
  go_wp2
  go_ret
  exact ⟨ret_bool (by have := HE.out; simp [this]), hB _⟩
 subst c3
 by_cases c4 : epoch = 0
 rotate_left
 ·have c4' : (epoch == 0) = false := by simpa using c4
  have HE : Hid (¬ epoch = 0) := c4
  clear c4
  go_enter Tryz.func99, Tryz.ntmps99
  go_wp2
  go_ret
  exact ⟨ret_bool (by have := HE.out; simp [this]), hB _⟩
 subst c4
 by_cases c5 : sn = 0
 rotate_left
 ·have c5' : (sn == 0) = false := by simpa using c5
  have c5'' : (((sn : Nat) : Int) == 0) = false := by simp; omega
  have HE : Hid (¬ sn = 0) := c5
  clear c5
  go_enter Tryz.func99, Tryz.ntmps99
  go_wp2
  go_ret
  exact ⟨ret_bool (by have := HE.out; simp [this]), hB _⟩
 subst c5
 by_cases c6 : frm = 0
 rotate_left
 ·have c6' : (frm == 0) = false := by simpa using c6
  have HE : Hid (¬ frm = 0) := c6
  clear c6
  go_enter Tryz.func99, Tryz.ntmps99
  go_wp2
  go_ret
  exact ⟨ret_bool (by have := HE.out; simp [this]), hB _⟩
 subst c6
 by_cases c7 : til = 0
 rotate_left
 ·have c7' : (til == 0) = false := by simpa using c7
  have HE : Hid (¬ til = 0) := c7
  clear c7
  go_enter Tryz.func99, Tryz.ntmps99
  go_wp2
  go_ret
  exact ⟨ret_bool (by have := HE.out; simp [this]), hB _⟩
 subst c7
 by_cases c8 : en = 0
 rotate_left
 ·have c8' : (en == 0) = false := by simpa using c8
  have c8'' : (((en : Nat) : Int) == 0) = false := by simp; omega
  have HE : Hid (¬ en = 0) := c8
  clear c8
  go_enter Tryz.func99, Tryz.ntmps99
  go_wp2
  go_ret
  exact ⟨ret_bool (by have := HE.out; simp [this]), hB _⟩
 subst c8
 go_enter Tryz.func99, Tryz.ntmps99
 go_wp2
 go_ret
 exact ⟨ret_bool (by simp), hB _⟩
end code
end Go.Proofs.YtlcjllgfpfldlaaGreat
