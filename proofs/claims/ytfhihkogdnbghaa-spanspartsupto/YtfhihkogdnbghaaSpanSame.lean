/-
  The contracts of the chapter's SameInts and SameMap, at spans.
-/
import Derived.Test.YtfhihkogdnbghaaSpanFind
import Derived.BigQuiet
namespace Go.Proofs.Ytfhihkogdnbghaa.spans
open Go.ChangeShapes Go.WideShapes Go.ChangeAt Go.RowKit Go.Deep
open Go.Proofs.Ytfhihkogdnbghaa.bytes (ret_bool hid nth addr_add cell_lt own_below own_mono)
set_option linter.unusedVariables false
set_option maxRecDepth 100000
set_option linter.unusedSimpArgs false

set_option maxHeartbeats 8000000 in
theorem sameInts_any (w : World) (a b : Option Addr) (l l2 : List Int) (n m c d : Nat) (hI : Ints w a l) (hn : l.length = n) (hJ : Ints w b l2) (hm : l2.length = m) (hn9 : n ≤ 9223372036854775807) (hm9 : m ≤ 9223372036854775807) :
    Calls Try.prog 25 #[.slice a n c, .slice b m d] w fun e w' => e = .returned (.bool (decide (l = l2))) ∧ Below w.heap.size w w' := by
  by_cases hnm : n = m
  rotate_left
  · have hz : ((n : Int) != (m : Int)) = true := by simp; omega
    have hz2 : ((n : Int) == (m : Int)) = false := by simp; omega
    have E : Hid (decide (l = l2) = false) := decide_eq_false fun h => hnm (by rw [← hn, ← hm, h])
    clear hI hJ hn hm hnm
    go_enter Try.func25, Try.ntmps25
    go_wp2
    go_ret
    exact ⟨ret_bool E.out.symm, Below.refl _ _⟩
  subst hnm
  have H : Aside (Ints w a l ∧ l.length = n ∧ Ints w b l2 ∧ l2.length = n) := ⟨hI, hn, hJ, hm⟩
  clear hI hJ hn hm
  go_enter Try.func25, Try.ntmps25
  go_wp2_with fail
  go_loopg [5] n (fun g1 vi wr => ∃ (k : Nat), vi = .int .i64 k ∧ k ≤ n ∧ n - k ≤ g1 ∧ Aside (Below w.heap.size w wr ∧ ∀ i, i < k → nth l i = nth l2 i))
  case atStart => exact ⟨0, rfl, Nat.zero_le _, Nat.le_refl _, Below.refl _ _, fun i hi => by omega⟩
  case round =>
    obtain ⟨k, rfl, hk, hg1, SK⟩ := hrel
    by_cases hlt : k < n
    · have hltz : (k : Int) < (n : Int) := by omega
      obtain ⟨b1, o1, ha1, hc1⟩ := (H.out.1.keep SK.out.1).get (k := k) (by rw [H.out.2.1]; exact hlt)
      obtain ⟨b2, o2, ha2, hc2⟩ := (H.out.2.2.1.keep SK.out.1).get (k := k) (by rw [H.out.2.2.2]; exact hlt)
      subst ha1 ha2
      have r1 := hc1 k (by rw [H.out.2.1]; exact hlt)
      have r2 := hc2 k (by rw [H.out.2.2.2]; exact hlt)
      clear hc1 hc2
      by_cases he : nth l k = nth l2 k
      · have S2 : Aside (∀ i, i < k + 1 → nth l i = nth l2 i) := fun i hi => by
          by_cases e : i = k
          · subst e; exact he
          · exact SK.out.2 i (by omega)
        rw [← he] at r2
        generalize nth l k = x at r1 r2
        clear he
        have d1 : (x != x) = false := by simp
        go_wp2_with fail
        go_quiet (fail)
        have SB : Aside (Below w.heap.size w (wr.drewN nq)) := below_drewN SK.out.1 nq
        go_wp2
        go_roundg (n - (k + 1))
        case measure => omega
        case rel => exact ⟨k + 1, by go_num, by omega, by omega, SB.out, S2.out⟩
      · have E : Hid (decide (l = l2) = false) := decide_eq_false fun h => he (by rw [h])
        generalize nth l k = x at r1 he
        generalize nth l2 k = y at r2 he
        have d1 : (x != y) = true := by simpa using he
        have d2 : (x == y) = false := by simpa using he
        clear he
        go_wp2_with fail
        go_quiet (fail)
        have SB : Aside (Below w.heap.size w (wr.drewN nq)) := below_drewN SK.out.1 nq
        go_wp2
        go_ret
        exact ⟨ret_bool E.out.symm, SB.out⟩
    · have hltz : ¬ (k : Int) < (n : Int) := by omega
      have E : Hid (decide (l = l2) = true) := decide_eq_true (ints_ext (by rw [H.out.2.1, H.out.2.2.2]) fun i hi => SK.out.2 i (by have := H.out.2.1; omega))
      go_wp2
      go_ret
      exact ⟨ret_bool E.out.symm, SK.out.1⟩

set_option maxHeartbeats 8000000 in
theorem sameMap_any (w : World) (ep ep2 : Int) (a b : Option Addr) (l l2 : List Sp) (n m c d : Nat) (hI : SpansIn w a l) (hn : l.length = n) (hJ : SpansIn w b l2) (hm : l2.length = m) (hn9 : n ≤ 9223372036854775807) (hm9 : m ≤ 9223372036854775807) :
    Calls Try.prog 21 #[.agg #[.int .u32 ep, .slice a n c], .agg #[.int .u32 ep2, .slice b m d]] w fun e w' => e = .returned (.bool (decide (ep = ep2) && decide (l = l2))) ∧ Below w.heap.size w w' := by
  have hB : Below w.heap.size w ((w.alloc (.cells #[.int .u32 ep, .slice a n c] 29)).alloc (.cells #[.int .u32 ep2, .slice b m d] 29)) := by (repeat (first | with_reducible exact Below.refl _ _ | (with_reducible refine Below.drew ?_) | (with_reducible refine Below.alloc ?_ (by first | omega | (simp; done) | (simp; omega)) _) | (with_reducible refine Below.setCell ?_ (by first | exact Nat.le_refl _ | omega | (simp; done) | (simp; omega)) _)))
  by_cases hep : ep = ep2
  rotate_left
  · have hz : (ep != ep2) = true := by simpa using hep
    have hz2 : (ep == ep2) = false := by simpa using hep
    have E : Hid ((decide (ep = ep2) && decide (l = l2)) = false) := by show _ = _; rw [decide_eq_false hep]; rfl
    have HB : Aside _ := hB
    clear hI hJ hn hm hep hB
    go_enter Try.func21, Try.ntmps21
    go_wp2
    go_ret
    exact ⟨ret_bool E.out.symm, HB.out⟩
  subst hep
  have hz : (ep != ep) = false := by simp
  by_cases hnm : n = m
  rotate_left
  · have hz3 : ((n : Int) != (m : Int)) = true := by simp; omega
    have hz4 : ((n : Int) == (m : Int)) = false := by simp; omega
    have E : Hid ((decide (ep = ep) && decide (l = l2)) = false) := by show _ = _; rw [show decide (l = l2) = false from decide_eq_false fun h => hnm (by rw [← hn, ← hm, h]), Bool.and_false]
    have HB : Aside _ := hB
    clear hI hJ hn hm hnm hB
    go_enter Try.func21, Try.ntmps21
    go_wp2
    go_ret
    exact ⟨ret_bool E.out.symm, HB.out⟩
  subst hnm
  have x0 : Bx ((w.alloc (.cells #[.int .u32 ep, .slice a n c] 29)).alloc (.cells #[.int .u32 ep, .slice b n d] 29)) w.heap.size #[.int .u32 ep, .slice a n c] 29 := (Bx.new w _ _).below ((Below.refl _ _).alloc (Nat.le_refl _) _)
  have y0 : Bx ((w.alloc (.cells #[.int .u32 ep, .slice a n c] 29)).alloc (.cells #[.int .u32 ep, .slice b n d] 29)) (w.heap.size + 1) #[.int .u32 ep, .slice b n d] 29 := by
    have := Bx.new (w.alloc (.cells #[.int .u32 ep, .slice a n c] 29)) #[.int .u32 ep, .slice b n d] 29
    simpa using this
  generalize hW : (w.alloc (.cells #[.int .u32 ep, .slice a n c] 29)).alloc (.cells #[.int .u32 ep, .slice b n d] 29) = W0 at hB x0 y0
  have H : Aside (SpansIn w a l ∧ l.length = n ∧ SpansIn w b l2 ∧ l2.length = n ∧ Below w.heap.size w W0) := ⟨hI, hn, hJ, hm, hB⟩
  have HW : Hid (_ = W0) := hW
  have HX : Aside (Bx W0 w.heap.size #[.int .u32 ep, .slice a n c] 29 ∧ Bx W0 (w.heap.size + 1) #[.int .u32 ep, .slice b n d] 29) := ⟨x0, y0⟩
  clear hI hJ hn hm hB hW x0 y0
  go_enter Try.func21, Try.ntmps21
  go_wp2_with fail
  rw [HW.out]
  go_loopg [5] n (fun g1 vi wr => ∃ (k : Nat), vi = .int .i64 k ∧ k ≤ n ∧ n - k ≤ g1 ∧ Aside (Below W0.heap.size W0 wr ∧ ∀ i, i < k → spn l i = spn l2 i))
  case atStart => exact ⟨0, rfl, Nat.zero_le _, Nat.le_refl _, Below.refl _ _, fun i hi => by omega⟩
  case round =>
    obtain ⟨k, rfl, hk, hg1, SK⟩ := hrel
    have p1 := (HX.out.1.below SK.out.1).cell (j := 1) rfl
    have q1 := (HX.out.2.below SK.out.1).cell (j := 1) rfl
    have HBW : Aside (Below w.heap.size w wr) := H.out.2.2.2.2.trans (SK.out.1.mono H.out.2.2.2.2.size)
    by_cases hlt : k < n
    · have hltz : (k : Int) < (n : Int) := by omega
      obtain ⟨b1, o1, ha1, hc1⟩ := (H.out.1.keep HBW.out).get (k := k) (by rw [H.out.2.1]; exact hlt)
      obtain ⟨b2, o2, ha2, hc2⟩ := (H.out.2.2.1.keep HBW.out).get (k := k) (by rw [H.out.2.2.2.1]; exact hlt)
      subst ha1 ha2
      obtain ⟨r1, r2, -, -⟩ := hc1 k (by rw [H.out.2.1]; exact hlt)
      obtain ⟨r3, r4, -, -⟩ := hc2 k (by rw [H.out.2.2.2.1]; exact hlt)
      clear hc1 hc2
      by_cases he : spn l k = spn l2 k
      · have S2 : Aside (∀ i, i < k + 1 → spn l i = spn l2 i) := fun i hi => by
          by_cases e : i = k
          · subst e; exact he
          · exact SK.out.2 i (by omega)
        rw [← he] at r3 r4
        generalize (spn l k).1 = x at r1 r3
        generalize (spn l k).2 = y at r2 r4
        clear he
        go_wp2_with fail
        go_quiet (fail)
        have SB : Aside (Below W0.heap.size W0 (wr.drewN nq)) := below_drewN SK.out.1 nq
        go_wp2
        go_roundg (n - (k + 1))
        case measure => omega
        case rel => exact ⟨k + 1, by go_num, by omega, by omega, SB.out, S2.out⟩
      · have E : Hid ((decide (ep = ep) && decide (l = l2)) = false) := by show _ = _; rw [show decide (l = l2) = false from decide_eq_false (fun h => he (by rw [h])), Bool.and_false]
        have he2 : ¬ ((spn l k).1 = (spn l2 k).1 ∧ (spn l k).2 = (spn l2 k).2) := fun h => he (Prod.ext h.1 h.2)
        clear he
        generalize (spn l k).1 = x at r1 he2
        generalize (spn l k).2 = y at r2 he2
        generalize (spn l2 k).1 = x2 at r3 he2
        generalize (spn l2 k).2 = y2 at r4 he2
        by_cases hx : x = x2
        · have hy : ¬ y = y2 := fun h => he2 ⟨hx, h⟩
          have d2 : (y == y2) = false := by simpa using hy
          subst hx
          clear he2
          go_wp2_with fail
          go_quiet (fail)
          have SB : Aside (Below W0.heap.size W0 (wr.drewN nq)) := below_drewN SK.out.1 nq
          go_wp2
          go_ret
          exact ⟨ret_bool E.out.symm, H.out.2.2.2.2.trans (SB.out.mono H.out.2.2.2.2.size)⟩
        · have d2 : (x == x2) = false := by simpa using hx
          clear he2
          go_wp2_with fail
          go_quiet (fail)
          have SB : Aside (Below W0.heap.size W0 (wr.drewN nq)) := below_drewN SK.out.1 nq
          go_wp2
          go_ret
          exact ⟨ret_bool E.out.symm, H.out.2.2.2.2.trans (SB.out.mono H.out.2.2.2.2.size)⟩
    · have hltz : ¬ (k : Int) < (n : Int) := by omega
      have E : Hid ((decide (ep = ep) && decide (l = l2)) = true) := by
        show _ = _
        rw [show decide (l = l2) = true from decide_eq_true (spans_ext (by rw [H.out.2.1, H.out.2.2.2.1]) fun i hi => SK.out.2 i (by have := H.out.2.1; omega)), show decide (ep = ep) = true from decide_eq_true rfl]; rfl
      go_wp2
      go_ret
      exact ⟨ret_bool E.out.symm, HBW.out⟩
end Go.Proofs.Ytfhihkogdnbghaa.spans
