/-
 Are facts, entries alike: the chapter's functions.
 The chapter's SameInts, SameMap.
 The chapter's Same, of two records that may be.
-/
import Derived.Test.YtlcjllgfpfldlaaGreatCodeKnown
import Derived.Test.YtlcjllgfpfldlaaGreatWalZ29K
set_option maxHeartbeats 32000000
open Go.ChangeShapes Go.WideShapes Go.ChangeAt Go.RowKit Go.Deep
set_option linter.unusedVariables false
set_option maxRecDepth 100000
set_option linter.unusedSimpArgs false
namespace Go.Proofs.YtlcjllgfpfldlaaGreat
namespace code
open dims (nth Ints ret_bool)
theorem str_eq (x y : List UInt8) : (x == y) = decide (x = y) := by
 rw [Bool.eq_iff_iff]; simp
def Strs (w : World) (v : Value) (l : List UInt8) : Prop := ∀ W, Below w.heap.size w W → (convert 54 9 v).run Tryz.prog W = .ok (.string ⟨l.toArray⟩) W
theorem Bs.strs {B : Nat} {w : World} {v : Value} {l : List UInt8} (h : Bs B w v l) : Strs w v l := by
 obtain ⟨a, c, rfl, hba⟩ := h.bytes
 exact fun W hW => str_of (hba.keep hW).mem _ c rfl
theorem facts_str (w : World) (a : Option Addr) (fs : List Ft) (n c : Nat) (hI : FactsIn w a fs) (hn : fs.length = n) (hm : n ≤ 100000000) (hl : (factsB (fs.map pf)).length ≤ 900000000) :
  Calls Tryz.prog 58 #[.slice none 0 0, .slice a n c] w fun e w' => ∃ v, e = .returned v ∧ Strs w' v (factsB (fs.map pf)) ∧ Below w.heap.size w w' :=
 (refFacts_any w a fs n c hI hn w (.slice none 0 0) [] (Below.refl _ _) (Bs.nil _ _) hm (by simpa using hl)).mono fun e w' ⟨v, h1, h2, h3⟩ => ⟨v, h1, by rw [List.nil_append] at h2; exact h2.strs, h3.below (Bs.nil _ _) (nrQ _)⟩

theorem ents_str (w : World) (a : Option Addr) (es : List Et) (n c : Nat) (hI : EntsIn w a es) (hn : es.length = n) (hm : n ≤ 100000000) (hf : ∀ e ∈ es, e.fs.length ≤ 100000000) (hl : (entsB (es.map pe)).length ≤ 900000000) :
  Calls Tryz.prog 59 #[.slice none 0 0, .slice a n c] w fun e w' => ∃ v, e = .returned v ∧ Strs w' v (entsB (es.map pe)) ∧ Below w.heap.size w w' :=
 (refEntries_any w a es n c hI hn w (.slice none 0 0) [] (Below.refl _ _) (Bs.nil _ _) hm hf (by simpa using hl)).mono fun e w' ⟨v, h1, h2, h3⟩ => ⟨v, h1, by rw [List.nil_append] at h2; exact h2.strs, h3.below (Bs.nil _ _) (nrQ _)⟩

theorem sameFacts_any (w : World) (a b : Option Addr) (fs gs : List Ft) (n m c d : Nat) (hI : FactsIn w a fs) (hn : fs.length = n) (hm : n ≤ 100000000) (hl : (factsB (fs.map pf)).length ≤ 900000000) (hJ : FactsIn w b gs) (hn2 : gs.length = m) (hm2 : m ≤ 100000000) (hl2 : (factsB (gs.map pf)).length ≤ 900000000) :
  Calls Tryz.prog 65 #[.slice a n c, .slice b m d] w fun e w' => e = .returned (.bool (decide (factsB (fs.map pf) = factsB (gs.map pf)))) ∧ Below w.heap.size w w' := by
 have h1 : ∀ W, Below w.heap.size w W → Calls Tryz.prog 58 #[.slice none 0 0, .slice a n c] W fun e w' => ∃ v, e = .returned v ∧ Strs w' v (factsB (fs.map pf)) ∧ Below W.heap.size W w' := fun W hW => facts_str W a fs n c (hI.keep hW) hn hm hl
 have h2 : ∀ W, Below w.heap.size w W → Calls Tryz.prog 58 #[.slice none 0 0, .slice b m d] W fun e w' => ∃ v, e = .returned v ∧ Strs w' v (factsB (gs.map pf)) ∧ Below W.heap.size W w' := fun W hW => facts_str W b gs m d (hJ.keep hW) hn2 hm2 hl2
 generalize factsB (fs.map pf) = x at h1
 generalize factsB (gs.map pf) = y at h2
 clear hI hJ hn hn2 hm hm2 hl hl2
 go_enter Tryz.func65, Tryz.ntmps65
 go_wp2_with fail
 have HD : Aside (Below w.heap.size w w.drew) := (Below.refl _ _).drew
 have H1 : Aside (∀ W, Below w.heap.size w W → Calls Tryz.prog 58 #[.slice none 0 0, .slice a n c] W fun e w' => ∃ v, e = .returned v ∧ Strs w' v x ∧ Below W.heap.size W w') := h1
 have H2 : Aside (∀ W, Below w.heap.size w W → Calls Tryz.prog 58 #[.slice none 0 0, .slice b m d] W fun e w' => ∃ v, e = .returned v ∧ Strs w' v y ∧ Below W.heap.size W w') := h2
 clear h1 h2
 go_region_with (go_at_call 58; first
  | ((with_reducible refine (H1.out _ HD.out).mono ?_); rintro e wA ⟨vA, rfl, sA, bA⟩; have tA := sA wA (Below.refl _ _); have HA : Aside (Below w.heap.size w wA ∧ Strs wA vA x) := ⟨Below.trans HD.out (bA.mono HD.out.size), sA⟩; clear sA bA)
  | ((with_reducible refine (H2.out _ HA.out.1).mono ?_); rintro e wB ⟨vB, rfl, sB, bB⟩; have tB := sB wB (Below.refl _ _); have tA := HA.out.2 wB bB; have HB : Aside (Below w.heap.size w wB ∧ Strs wB vB y) := ⟨Below.trans HA.out.1 (bB.mono HA.out.1.size), sB⟩; clear sB bB)
  | ((with_reducible refine (H2.out _ HD.out).mono ?_); rintro e wB ⟨vB, rfl, sB, bB⟩; have tB := sB wB (Below.refl _ _); have HB : Aside (Below w.heap.size w wB ∧ Strs wB vB y) := ⟨Below.trans HD.out (bB.mono HD.out.size), sB⟩; clear sB bB)
  | ((with_reducible refine (H1.out _ HB.out.1).mono ?_); rintro e wA ⟨vA, rfl, sA, bA⟩; have tA := sA wA (Below.refl _ _); have tB := HB.out.2 wA bA; have HA : Aside (Below w.heap.size w wA ∧ Strs wA vA x) := ⟨Below.trans HB.out.1 (bA.mono HB.out.1.size), sA⟩; clear sA bA))
 all_goals (go_wp2; go_ret)
 all_goals refine ⟨ret_bool (str_eq x y), ?_⟩
 all_goals first
  | exact HB.out.1
  | exact HA.out.1

theorem sameEnts_any (w : World) (a b : Option Addr) (fs gs : List Et) (n m c d : Nat) (hI : EntsIn w a fs) (hn : fs.length = n) (hm : n ≤ 100000000) (hl : (entsB (fs.map pe)).length ≤ 900000000) (hf : ∀ e ∈ fs, e.fs.length ≤ 100000000) (hJ : EntsIn w b gs) (hn2 : gs.length = m) (hm2 : m ≤ 100000000) (hl2 : (entsB (gs.map pe)).length ≤ 900000000) (hg : ∀ e ∈ gs, e.fs.length ≤ 100000000) :
  Calls Tryz.prog 67 #[.slice a n c, .slice b m d] w fun e w' => e = .returned (.bool (decide (entsB (fs.map pe) = entsB (gs.map pe)))) ∧ Below w.heap.size w w' := by
 have h1 : ∀ W, Below w.heap.size w W → Calls Tryz.prog 59 #[.slice none 0 0, .slice a n c] W fun e w' => ∃ v, e = .returned v ∧ Strs w' v (entsB (fs.map pe)) ∧ Below W.heap.size W w' := fun W hW => ents_str W a fs n c (hI.keep hW) hn hm hf hl
 have h2 : ∀ W, Below w.heap.size w W → Calls Tryz.prog 59 #[.slice none 0 0, .slice b m d] W fun e w' => ∃ v, e = .returned v ∧ Strs w' v (entsB (gs.map pe)) ∧ Below W.heap.size W w' := fun W hW => ents_str W b gs m d (hJ.keep hW) hn2 hm2 hg hl2
 generalize entsB (fs.map pe) = x at h1
 generalize entsB (gs.map pe) = y at h2
 clear hI hJ hn hn2 hm hm2 hl hl2 hf hg
 go_enter Tryz.func67, Tryz.ntmps67
 go_wp2_with fail
 have HD : Aside (Below w.heap.size w w.drew) := (Below.refl _ _).drew
 have H1 : Aside (∀ W, Below w.heap.size w W → Calls Tryz.prog 59 #[.slice none 0 0, .slice a n c] W fun e w' => ∃ v, e = .returned v ∧ Strs w' v x ∧ Below W.heap.size W w') := h1
 have H2 : Aside (∀ W, Below w.heap.size w W → Calls Tryz.prog 59 #[.slice none 0 0, .slice b m d] W fun e w' => ∃ v, e = .returned v ∧ Strs w' v y ∧ Below W.heap.size W w') := h2
 clear h1 h2
 go_region_with (go_at_call 59; first
  | ((with_reducible refine (H1.out _ HD.out).mono ?_); rintro e wA ⟨vA, rfl, sA, bA⟩; have tA := sA wA (Below.refl _ _); have HA : Aside (Below w.heap.size w wA ∧ Strs wA vA x) := ⟨Below.trans HD.out (bA.mono HD.out.size), sA⟩; clear sA bA)
  | ((with_reducible refine (H2.out _ HA.out.1).mono ?_); rintro e wB ⟨vB, rfl, sB, bB⟩; have tB := sB wB (Below.refl _ _); have tA := HA.out.2 wB bB; have HB : Aside (Below w.heap.size w wB ∧ Strs wB vB y) := ⟨Below.trans HA.out.1 (bB.mono HA.out.1.size), sB⟩; clear sB bB)
  | ((with_reducible refine (H2.out _ HD.out).mono ?_); rintro e wB ⟨vB, rfl, sB, bB⟩; have tB := sB wB (Below.refl _ _); have HB : Aside (Below w.heap.size w wB ∧ Strs wB vB y) := ⟨Below.trans HD.out (bB.mono HD.out.size), sB⟩; clear sB bB)
  | ((with_reducible refine (H1.out _ HB.out.1).mono ?_); rintro e wA ⟨vA, rfl, sA, bA⟩; have tA := sA wA (Below.refl _ _); have tB := HB.out.2 wA bA; have HA : Aside (Below w.heap.size w wA ∧ Strs wA vA x) := ⟨Below.trans HB.out.1 (bA.mono HB.out.1.size), sA⟩; clear sA bA))
 all_goals (go_wp2; go_ret)
 all_goals refine ⟨ret_bool (str_eq x y), ?_⟩
 all_goals first
  | exact HB.out.1
  | exact HA.out.1
theorem ints_ext {l m : List Int} (h : l.length = m.length) (he : ∀ i, i < l.length → nth l i = nth m i) : l = m := by
 refine List.ext_getElem h fun i h1 h2 => ?_
 have := he i h1
 rwa [nth_eq h1, nth_eq h2] at this
theorem spans_ext {l m : List PSpan} (h : l.length = m.length) (he : ∀ i, i < l.length → spn l i = spn m i) : l = m := by
 refine List.ext_getElem h fun i h1 h2 => ?_
 have := he i h1
 rwa [spn_eq h1, spn_eq h2] at this

theorem sameInts_any (w : World) (a b : Option Addr) (l l2 : List Int) (n m c d : Nat) (hI : Ints w a l) (hn : l.length = n) (hJ : Ints w b l2) (hm : l2.length = m) (hn9 : n ≤ 9223372036854775807) (hm9 : m ≤ 9223372036854775807) :
  Calls Tryz.prog 64 #[.slice a n c, .slice b m d] w fun e w' => e = .returned (.bool (decide (l = l2))) ∧ Below w.heap.size w w' := by
 by_cases hnm : n = m
 rotate_left
 ·have hz : ((n : Int) != (m : Int)) = true := by simp; omega
  have hz2 : ((n : Int) == (m : Int)) = false := by simp; omega
  have E : Hid (decide (l = l2) = false) := decide_eq_false fun h => hnm (by rw [← hn, ← hm, h])
  clear hI hJ hn hm hnm
  go_enter Tryz.func64, Tryz.ntmps64
  go_wp2
  go_ret
  exact ⟨ret_bool E.out.symm, Below.refl _ _⟩
 subst hnm
 have H : Aside (Ints w a l ∧ l.length = n ∧ Ints w b l2 ∧ l2.length = n) := ⟨hI, hn, hJ, hm⟩
 clear hI hJ hn hm
 go_enter Tryz.func64, Tryz.ntmps64
 go_wp2_with fail
 go_loopg [5] n (fun g1 vi wr => ∃ (k : Nat), vi = .int .i64 k ∧ k ≤ n ∧ n - k ≤ g1 ∧ Aside (Below w.heap.size w wr ∧ ∀ i, i < k → nth l i = nth l2 i))
 case atStart => exact ⟨0, rfl, Nat.zero_le _, nrQ _, Below.refl _ _, fun i hi => by omega⟩
 case round =>
  obtain ⟨k, rfl, hk, hg1, SK⟩ := hrel
  by_cases hlt : k < n
  ·have hltz : (k : Int) < (n : Int) := by omega
   obtain ⟨b1, o1, ha1, hc1⟩ := (H.out.1.keep SK.out.1).get (k := k) (by rw [H.out.2.1]; exact hlt)
   obtain ⟨b2, o2, ha2, hc2⟩ := (H.out.2.2.1.keep SK.out.1).get (k := k) (by rw [H.out.2.2.2]; exact hlt)
   subst ha1 ha2
   have r1 := hc1 k (by rw [H.out.2.1]; exact hlt)
   have r2 := hc2 k (by rw [H.out.2.2.2]; exact hlt)
   clear hc1 hc2
   by_cases he : nth l k = nth l2 k
   ·have S2 : Aside (∀ i, i < k + 1 → nth l i = nth l2 i) := fun i hi => by
     by_cases e : i = k
     ·subst e; exact he
     ·exact SK.out.2 i (by omega)
    rw [← he] at r2
    generalize nth l k = x at r1 r2
    clear he
    have d1 : (x != x) = false := by simp
    go_wp2_with fail
    go_quiet (fail)
    have SB : Aside (Below w.heap.size w (wr.drewN nq)) := below_drewN SK.out.1 nq
    go_wp2
    go_roundg (n - (k + 1))
    case measure => omega
    case rel => exact ⟨k + 1, by go_num, by omega, by omega, SB.out, S2.out⟩
   ·have E : Hid (decide (l = l2) = false) := decide_eq_false fun h => he (by rw [h])
    generalize nth l k = x at r1 he
    generalize nth l2 k = y at r2 he
    have d1 : (x != y) = true := by simpa using he
    have d2 : (x == y) = false := by simpa using he
    clear he
    go_wp2_with fail
    go_quiet (fail)
    have SB : Aside (Below w.heap.size w (wr.drewN nq)) := below_drewN SK.out.1 nq
    go_wp2
    go_ret
    exact ⟨ret_bool E.out.symm, SB.out⟩
  ·have hltz : ¬ (k : Int) < (n : Int) := by omega
   have E : Hid (decide (l = l2) = true) := decide_eq_true (ints_ext (by rw [H.out.2.1, H.out.2.2.2]) fun i hi => SK.out.2 i (by have := H.out.2.1; omega))
   go_wp2
   go_ret
   exact ⟨ret_bool E.out.symm, SK.out.1⟩

theorem sameMap_any (w : World) (ep ep2 : Int) (a b : Option Addr) (l l2 : List PSpan) (n m c d : Nat) (hI : SpansIn w a l) (hn : l.length = n) (hJ : SpansIn w b l2) (hm : l2.length = m) (hn9 : n ≤ 9223372036854775807) (hm9 : m ≤ 9223372036854775807) :
  Calls Tryz.prog 66 #[.agg #[.int .u32 ep, .slice a n c], .agg #[.int .u32 ep2, .slice b m d]] w fun e w' => e = .returned (.bool (decide (ep = ep2) && decide (l = l2))) ∧ Below w.heap.size w w' := by
 have hB : Below w.heap.size w ((w.alloc (.cells #[.int .u32 ep, .slice a n c] 43)).alloc (.cells #[.int .u32 ep2, .slice b m d] 43)) := by (repeat (first | with_reducible exact Below.refl _ _ | (with_reducible refine Below.drew ?_) | (with_reducible refine Below.alloc ?_ (by first | omega | (simp; done) | (simp; omega)) _) | (with_reducible refine Below.setCell ?_ (by first | exact nrQ _ | omega | (simp; done) | (simp; omega)) _)))
 by_cases hep : ep = ep2
 rotate_left
 ·have hz : (ep != ep2) = true := by simpa using hep
  have hz2 : (ep == ep2) = false := by simpa using hep
  have E : Hid ((decide (ep = ep2) && decide (l = l2)) = false) := by show _ = _; rw [decide_eq_false hep]; rfl
  have HB : Aside _ := hB
  clear hI hJ hn hm hep hB
  go_enter Tryz.func66, Tryz.ntmps66
  go_wp2
  go_ret
  exact ⟨ret_bool E.out.symm, HB.out⟩
 subst hep
 have hz : (ep != ep) = false := by simp
 by_cases hnm : n = m
 rotate_left
 ·have hz3 : ((n : Int) != (m : Int)) = true := by simp; omega
  have hz4 : ((n : Int) == (m : Int)) = false := by simp; omega
  have E : Hid ((decide (ep = ep) && decide (l = l2)) = false) := by show _ = _; rw [show decide (l = l2) = false from decide_eq_false fun h => hnm (by rw [← hn, ← hm, h]), Bool.and_false]
  have HB : Aside _ := hB
  clear hI hJ hn hm hnm hB
  go_enter Tryz.func66, Tryz.ntmps66
  go_wp2
  go_ret
  exact ⟨ret_bool E.out.symm, HB.out⟩
 subst hnm
 have x0 : Boxed ((w.alloc (.cells #[.int .u32 ep, .slice a n c] 43)).alloc (.cells #[.int .u32 ep, .slice b n d] 43)) w.heap.size #[.int .u32 ep, .slice a n c] 43 := (Boxed.new w _ _).below ((Below.refl _ _).alloc (nrQ _) _)
 have y0 : Boxed ((w.alloc (.cells #[.int .u32 ep, .slice a n c] 43)).alloc (.cells #[.int .u32 ep, .slice b n d] 43)) (w.heap.size + 1) #[.int .u32 ep, .slice b n d] 43 := by
  have := Boxed.new (w.alloc (.cells #[.int .u32 ep, .slice a n c] 43)) #[.int .u32 ep, .slice b n d] 43
  simpa using this
 generalize hW : (w.alloc (.cells #[.int .u32 ep, .slice a n c] 43)).alloc (.cells #[.int .u32 ep, .slice b n d] 43) = W0 at hB x0 y0
 have H : Aside (SpansIn w a l ∧ l.length = n ∧ SpansIn w b l2 ∧ l2.length = n ∧ Below w.heap.size w W0) := ⟨hI, hn, hJ, hm, hB⟩
 have HW : Hid (_ = W0) := hW
 have HX : Aside (Boxed W0 w.heap.size #[.int .u32 ep, .slice a n c] 43 ∧ Boxed W0 (w.heap.size + 1) #[.int .u32 ep, .slice b n d] 43) := ⟨x0, y0⟩
 clear hI hJ hn hm hB hW x0 y0
 go_enter Tryz.func66, Tryz.ntmps66
 go_wp2_with fail
 rw [HW.out]
 go_loopg [5] n (fun g1 vi wr => ∃ (k : Nat), vi = .int .i64 k ∧ k ≤ n ∧ n - k ≤ g1 ∧ Aside (Below W0.heap.size W0 wr ∧ ∀ i, i < k → spn l i = spn l2 i))
 case atStart => exact ⟨0, rfl, Nat.zero_le _, nrQ _, Below.refl _ _, fun i hi => by omega⟩
 case round =>
  obtain ⟨k, rfl, hk, hg1, SK⟩ := hrel
  have p1 := (HX.out.1.below SK.out.1).cell (j := 1) rfl
  have q1 := (HX.out.2.below SK.out.1).cell (j := 1) rfl
  have HBW : Aside (Below w.heap.size w wr) := H.out.2.2.2.2.trans (SK.out.1.mono H.out.2.2.2.2.size)
  by_cases hlt : k < n
  ·have hltz : (k : Int) < (n : Int) := by omega
   obtain ⟨b1, o1, ha1, hc1⟩ := (H.out.1.keep HBW.out).get (k := k) (by rw [H.out.2.1]; exact hlt)
   obtain ⟨b2, o2, ha2, hc2⟩ := (H.out.2.2.1.keep HBW.out).get (k := k) (by rw [H.out.2.2.2.1]; exact hlt)
   subst ha1 ha2
   obtain ⟨r1, r2, -, -⟩ := hc1 k (by rw [H.out.2.1]; exact hlt)
   obtain ⟨r3, r4, -, -⟩ := hc2 k (by rw [H.out.2.2.2.1]; exact hlt)
   clear hc1 hc2
   by_cases he : spn l k = spn l2 k
   ·have S2 : Aside (∀ i, i < k + 1 → spn l i = spn l2 i) := fun i hi => by
     by_cases e : i = k
     ·subst e; exact he
     ·exact SK.out.2 i (by omega)
    rw [← he] at r3 r4
    generalize (spn l k).1 = x at r1 r3
    generalize (spn l k).2 = y at r2 r4
    clear he
    go_wp2_with fail
    go_quiet (fail)
    have SB : Aside (Below W0.heap.size W0 (wr.drewN nq)) := below_drewN SK.out.1 nq
    go_wp2
    go_roundg (n - (k + 1))
    case measure => omega
    case rel => exact ⟨k + 1, by go_num, by omega, by omega, SB.out, S2.out⟩
   ·have E : Hid ((decide (ep = ep) && decide (l = l2)) = false) := by show _ = _; rw [show decide (l = l2) = false from decide_eq_false (fun h => he (by rw [h])), Bool.and_false]
    have he2 : ¬ ((spn l k).1 = (spn l2 k).1 ∧ (spn l k).2 = (spn l2 k).2) := fun h => he (Prod.ext h.1 h.2)
    clear he
    generalize (spn l k).1 = x at r1 he2
    generalize (spn l k).2 = y at r2 he2
    generalize (spn l2 k).1 = x2 at r3 he2
    generalize (spn l2 k).2 = y2 at r4 he2
    by_cases hx : x = x2
    ·have hy : ¬ y = y2 := fun h => he2 ⟨hx, h⟩
     have d2 : (y == y2) = false := by simpa using hy
     subst hx
     clear he2
     go_wp2_with fail
     go_quiet (fail)
     have SB : Aside (Below W0.heap.size W0 (wr.drewN nq)) := below_drewN SK.out.1 nq
     go_wp2
     go_ret
     exact ⟨ret_bool E.out.symm, H.out.2.2.2.2.trans (SB.out.mono H.out.2.2.2.2.size)⟩
    ·have d2 : (x == x2) = false := by simpa using hx
     clear he2
     go_wp2_with fail
     go_quiet (fail)
     have SB : Aside (Below W0.heap.size W0 (wr.drewN nq)) := below_drewN SK.out.1 nq
     go_wp2
     go_ret
     exact ⟨ret_bool E.out.symm, H.out.2.2.2.2.trans (SB.out.mono H.out.2.2.2.2.size)⟩
  ·have hltz : ¬ (k : Int) < (n : Int) := by omega
   have E : Hid ((decide (ep = ep) && decide (l = l2)) = true) := by
    show _ = _
    rw [show decide (l = l2) = true from decide_eq_true (spans_ext (by rw [H.out.2.1, H.out.2.2.2.1]) fun i hi => SK.out.2 i (by have := H.out.2.1; omega)), show decide (ep = ep) = true from decide_eq_true rfl]; rfl
   go_wp2
   go_ret
   exact ⟨ret_bool E.out.symm, HBW.out⟩
theorem factsB_inj {x y : List PFact} (hx : factsOk x = true) (tx : ∀ f ∈ x, I64 f.2) (hy : factsOk y = true) (ty : ∀ f ∈ y, I64 f.2) (e : factsB x = factsB y) : x = y := by
 have h1 := rdFacts_back x ⟨hx, tx⟩ []
 have h2 := rdFacts_back y ⟨hy, ty⟩ []
 rw [e, h2] at h1
 exact (congrArg Prod.fst h1).symm
theorem entsB_inj {x y : List PEnt} (hx : entsOk x = true) (tx : ∀ e ∈ x, U32 e.1 ∧ ∀ f ∈ e.2, I64 f.2) (hy : entsOk y = true) (ty : ∀ e ∈ y, U32 e.1 ∧ ∀ f ∈ e.2, I64 f.2) (e : entsB x = entsB y) : x = y := by
 have h1 := rdEnts_back x ⟨hx, tx⟩ []
 have h2 := rdEnts_back y ⟨hy, ty⟩ []
 rw [e, h2] at h1
 exact (congrArg Prod.fst h1).symm
theorem factsB_small {l : List Ft} (h : factsOk (l.map pf) = true) : (factsB (l.map pf)).length ≤ 900000000 := by
 have h1 := factsB_weight l
 have h2 := fw_ok h
 omega
theorem entsB_small {l : List Et} (h : entsOk (l.map pe) = true) : (entsB (l.map pe)).length ≤ 900000000 := by
 have h1 := entsB_weight l
 have h2 := ew_ok h
 omega
theorem facts_200 {l : List Ft} (h : factsOk (l.map pf) = true) : l.length ≤ 200 := by
 have := (factsOk_iff.1 h).2
 rwa [List.length_map] at this
theorem ents_5000 {l : List Et} (h : entsOk (l.map pe) = true) : l.length ≤ 5000 := by
 have := (entsOk_iff h).2
 rwa [List.length_map] at this
theorem ents_fs {l : List Et} (h : entsOk (l.map pe) = true) : ∀ e ∈ l, e.fs.length ≤ 100000000 := fun e he => by
 have h1 := facts_200 ((entsOk_iff h).1 (pe e) (List.mem_map.2 ⟨e, he, rfl⟩))
 omega
theorem pr_eq {r s : Rc} (h0 : r.kind = s.kind) (h1 : r.id = s.id) (h2 : r.at_ = s.at_) (h3 : r.frm = s.frm) (h4 : r.til = s.til) (h5 : r.nodes = s.nodes) (h6 : r.facts.map pf = s.facts.map pf) (h7 : r.epoch = s.epoch) (h8 : r.spans = s.spans) (h9 : r.ents.map pe = s.ents.map pe) : pr r = pr s := by
 unfold pr
 rw [h0, h1, h2, h3, h4, h5, h6, h7, h8, h9]

theorem same_any (w : World) (r s : Rc) (hR : RecIn w r) (hS : RecIn w s) (pr1 : nodesOk r.nodes = true ∧ factsOk (r.facts.map pf) = true ∧ entsOk (r.ents.map pe) = true) (ps : nodesOk s.nodes = true ∧ factsOk (s.facts.map pf) = true ∧ entsOk (s.ents.map pe) = true) :
  Calls Tryz.prog 41 #[rcV r, rcV s] w fun e w' => ∃ t, e = .returned (.bool t) ∧ (t = true ↔ pr r = pr s) ∧ Below w.heap.size w w' := by
 show Calls _ _ #[.agg #[.int .u8 r.kind, .int .u32 r.id, .int .u32 r.at_, .slice r.na r.nodes.length r.nc, .slice r.fa r.facts.length r.fc, .int .u32 r.epoch, .slice r.sa r.spans.length r.sc, .int .i64 r.frm, .int .i64 r.til, .slice r.ea r.ents.length r.ec], .agg #[.int .u8 s.kind, .int .u32 s.id, .int .u32 s.at_, .slice s.na s.nodes.length s.nc, .slice s.fa s.facts.length s.fc, .int .u32 s.epoch, .slice s.sa s.spans.length s.sc, .int .i64 s.frm, .int .i64 s.til, .slice s.ea s.ents.length s.ec]] _ _
 have hb0 : Below w.heap.size w ((w.alloc (.cells #[.int .u8 r.kind, .int .u32 r.id, .int .u32 r.at_, .slice r.na r.nodes.length r.nc, .slice r.fa r.facts.length r.fc, .int .u32 r.epoch, .slice r.sa r.spans.length r.sc, .int .i64 r.frm, .int .i64 r.til, .slice r.ea r.ents.length r.ec] 46)).alloc (.cells #[.int .u8 s.kind, .int .u32 s.id, .int .u32 s.at_, .slice s.na s.nodes.length s.nc, .slice s.fa s.facts.length s.fc, .int .u32 s.epoch, .slice s.sa s.spans.length s.sc, .int .i64 s.frm, .int .i64 s.til, .slice s.ea s.ents.length s.ec] 46)) := by (repeat (first | with_reducible exact Below.refl _ _ | (with_reducible refine Below.drew ?_) | (with_reducible refine Below.alloc ?_ (by first | omega | (simp; done) | (simp; omega)) _) | (with_reducible refine Below.setCell ?_ (by first | exact nrQ _ | omega | (simp; done) | (simp; omega)) _)))
 have x0 : Boxed ((w.alloc (.cells #[.int .u8 r.kind, .int .u32 r.id, .int .u32 r.at_, .slice r.na r.nodes.length r.nc, .slice r.fa r.facts.length r.fc, .int .u32 r.epoch, .slice r.sa r.spans.length r.sc, .int .i64 r.frm, .int .i64 r.til, .slice r.ea r.ents.length r.ec] 46)).alloc (.cells #[.int .u8 s.kind, .int .u32 s.id, .int .u32 s.at_, .slice s.na s.nodes.length s.nc, .slice s.fa s.facts.length s.fc, .int .u32 s.epoch, .slice s.sa s.spans.length s.sc, .int .i64 s.frm, .int .i64 s.til, .slice s.ea s.ents.length s.ec] 46)) w.heap.size #[.int .u8 r.kind, .int .u32 r.id, .int .u32 r.at_, .slice r.na r.nodes.length r.nc, .slice r.fa r.facts.length r.fc, .int .u32 r.epoch, .slice r.sa r.spans.length r.sc, .int .i64 r.frm, .int .i64 r.til, .slice r.ea r.ents.length r.ec] 46 := (Boxed.new w _ _).below ((Below.refl _ _).alloc (nrQ _) _)
 have y0 : Boxed ((w.alloc (.cells #[.int .u8 r.kind, .int .u32 r.id, .int .u32 r.at_, .slice r.na r.nodes.length r.nc, .slice r.fa r.facts.length r.fc, .int .u32 r.epoch, .slice r.sa r.spans.length r.sc, .int .i64 r.frm, .int .i64 r.til, .slice r.ea r.ents.length r.ec] 46)).alloc (.cells #[.int .u8 s.kind, .int .u32 s.id, .int .u32 s.at_, .slice s.na s.nodes.length s.nc, .slice s.fa s.facts.length s.fc, .int .u32 s.epoch, .slice s.sa s.spans.length s.sc, .int .i64 s.frm, .int .i64 s.til, .slice s.ea s.ents.length s.ec] 46)) (w.heap.size + 1) #[.int .u8 s.kind, .int .u32 s.id, .int .u32 s.at_, .slice s.na s.nodes.length s.nc, .slice s.fa s.facts.length s.fc, .int .u32 s.epoch, .slice s.sa s.spans.length s.sc, .int .i64 s.frm, .int .i64 s.til, .slice s.ea s.ents.length s.ec] 46 := by
  have := Boxed.new (w.alloc (.cells #[.int .u8 r.kind, .int .u32 r.id, .int .u32 r.at_, .slice r.na r.nodes.length r.nc, .slice r.fa r.facts.length r.fc, .int .u32 r.epoch, .slice r.sa r.spans.length r.sc, .int .i64 r.frm, .int .i64 r.til, .slice r.ea r.ents.length r.ec] 46)) #[.int .u8 s.kind, .int .u32 s.id, .int .u32 s.at_, .slice s.na s.nodes.length s.nc, .slice s.fa s.facts.length s.fc, .int .u32 s.epoch, .slice s.sa s.spans.length s.sc, .int .i64 s.frm, .int .i64 s.til, .slice s.ea s.ents.length s.ec] 46
  simpa using this
 have HI := fun W (hW : Below w.heap.size w W) => sameInts_any W r.na s.na r.nodes s.nodes r.nodes.length s.nodes.length r.nc s.nc (hR.nodes.keep hW) rfl (hS.nodes.keep hW) rfl hR.nlen hS.nlen
 have HF := fun W (hW : Below w.heap.size w W) => sameFacts_any W r.fa s.fa r.facts s.facts r.facts.length s.facts.length r.fc s.fc (hR.facts.keep hW) rfl (by have := facts_200 pr1.2.1; omega) (factsB_small pr1.2.1) (hS.facts.keep hW) rfl (by have := facts_200 ps.2.1; omega) (factsB_small ps.2.1)
 have HM := fun W (hW : Below w.heap.size w W) => sameMap_any W r.epoch s.epoch r.sa s.sa r.spans s.spans r.spans.length s.spans.length r.sc s.sc (hR.spans.keep hW) rfl (hS.spans.keep hW) rfl hR.slen hS.slen
 have HE := fun W (hW : Below w.heap.size w W) => sameEnts_any W r.ea s.ea r.ents s.ents r.ents.length s.ents.length r.ec s.ec (hR.ents.keep hW) rfl (by have := ents_5000 pr1.2.2; omega) (entsB_small pr1.2.2) (ents_fs pr1.2.2) (hS.ents.keep hW) rfl (by have := ents_5000 ps.2.2; omega) (entsB_small ps.2.2) (ents_fs ps.2.2)
 have HALL : Aside (r.kind = s.kind → r.id = s.id → r.at_ = s.at_ → r.frm = s.frm → r.til = s.til → r.nodes = s.nodes → factsB (r.facts.map pf) = factsB (s.facts.map pf) → (r.epoch = s.epoch ∧ r.spans = s.spans) → entsB (r.ents.map pe) = entsB (s.ents.map pe) → pr r = pr s) := fun h0 h1 h2 h3 h4 h5 h6 h7 h8 =>
  pr_eq h0 h1 h2 h3 h4 h5 (factsB_inj pr1.2.1 hR.typed.facts ps.2.1 hS.typed.facts h6) h7.1 h7.2 (entsB_inj pr1.2.2 hR.typed.ents ps.2.2 hS.typed.ents h8)
 have HI2 : Aside _ := HI
 have HF2 : Aside _ := HF
 have HM2 : Aside _ := HM
 have HE2 : Aside _ := HE
 clear HI HF HM HE pr1 ps hR hS
 generalize hW : ((w.alloc (.cells #[.int .u8 r.kind, .int .u32 r.id, .int .u32 r.at_, .slice r.na r.nodes.length r.nc, .slice r.fa r.facts.length r.fc, .int .u32 r.epoch, .slice r.sa r.spans.length r.sc, .int .i64 r.frm, .int .i64 r.til, .slice r.ea r.ents.length r.ec] 46)).alloc (.cells #[.int .u8 s.kind, .int .u32 s.id, .int .u32 s.at_, .slice s.na s.nodes.length s.nc, .slice s.fa s.facts.length s.fc, .int .u32 s.epoch, .slice s.sa s.spans.length s.sc, .int .i64 s.frm, .int .i64 s.til, .slice s.ea s.ents.length s.ec] 46)) = W0 at hb0 x0 y0
 have HW : Hid (_ = W0) := hW
 have HB0 : Aside (Below w.heap.size w W0) := hb0
 have X0 : Aside (Boxed W0 w.heap.size #[.int .u8 r.kind, .int .u32 r.id, .int .u32 r.at_, .slice r.na r.nodes.length r.nc, .slice r.fa r.facts.length r.fc, .int .u32 r.epoch, .slice r.sa r.spans.length r.sc, .int .i64 r.frm, .int .i64 r.til, .slice r.ea r.ents.length r.ec] 46 ∧ Boxed W0 (w.heap.size + 1) #[.int .u8 s.kind, .int .u32 s.id, .int .u32 s.at_, .slice s.na s.nodes.length s.nc, .slice s.fa s.facts.length s.fc, .int .u32 s.epoch, .slice s.sa s.spans.length s.sc, .int .i64 s.frm, .int .i64 s.til, .slice s.ea s.ents.length s.ec] 46) := ⟨x0, y0⟩
 clear hW hb0 x0 y0
 by_cases c0 : r.kind = s.kind
 rotate_left
 ·have HNOT : Aside (¬ pr r = pr s) := fun h => c0 (congrArg PRec.kind h)
  have d0 : (r.kind == s.kind) = false := by simpa using c0
  clear c0 HALL
  go_enter Tryz.func41, Tryz.ntmps41
  go_wp2
  go_ret
  exact ⟨false, rfl, by simpa using HNOT.out, by rw [HW.out]; exact HB0.out⟩
 have d0 : (r.kind == s.kind) = true := by simpa using c0
 have C0 : Hid (r.kind = s.kind) := c0
 clear c0
 by_cases c1 : r.id = s.id
 rotate_left
 ·have HNOT : Aside (¬ pr r = pr s) := fun h => c1 (congrArg PRec.id h)
  have d1 : (r.id == s.id) = false := by simpa using c1
  clear c1 HALL
  go_enter Tryz.func41, Tryz.ntmps41
  go_wp2
  go_ret
  exact ⟨false, rfl, by simpa using HNOT.out, by rw [HW.out]; exact HB0.out⟩
 have d1 : (r.id == s.id) = true := by simpa using c1
 have C1 : Hid (r.id = s.id) := c1
 clear c1
 by_cases c2 : r.at_ = s.at_
 rotate_left
 ·have HNOT : Aside (¬ pr r = pr s) := fun h => c2 (congrArg PRec.at_ h)
  have d2 : (r.at_ == s.at_) = false := by simpa using c2
  clear c2 HALL
  go_enter Tryz.func41, Tryz.ntmps41
  go_wp2
  go_ret
  exact ⟨false, rfl, by simpa using HNOT.out, by rw [HW.out]; exact HB0.out⟩
 have d2 : (r.at_ == s.at_) = true := by simpa using c2
 have C2 : Hid (r.at_ = s.at_) := c2
 clear c2
 by_cases c3 : r.frm = s.frm
 rotate_left
 ·have HNOT : Aside (¬ pr r = pr s) := fun h => c3 (congrArg PRec.frm h)
  have d3 : (r.frm == s.frm) = false := by simpa using c3
  clear c3 HALL
  go_enter Tryz.func41, Tryz.ntmps41
  go_wp2
  go_ret
  exact ⟨false, rfl, by simpa using HNOT.out, by rw [HW.out]; exact HB0.out⟩
 have d3 : (r.frm == s.frm) = true := by simpa using c3
 have C3 : Hid (r.frm = s.frm) := c3
 clear c3
 by_cases c4 : r.til = s.til
 rotate_left
 ·have HNOT : Aside (¬ pr r = pr s) := fun h => c4 (congrArg PRec.to h)
  have d4 : (r.til == s.til) = false := by simpa using c4
  clear c4 HALL
  go_enter Tryz.func41, Tryz.ntmps41
  go_wp2
  go_ret
  exact ⟨false, rfl, by simpa using HNOT.out, by rw [HW.out]; exact HB0.out⟩
 have d4 : (r.til == s.til) = true := by simpa using c4
 have C4 : Hid (r.til = s.til) := c4
 clear c4
 by_cases c5 : r.nodes = s.nodes
 rotate_left
 ·have HNOT : Aside (¬ pr r = pr s) := fun h => c5 (congrArg PRec.nodes h)
  have HE5 : Hid (decide (r.nodes = s.nodes) = false) := decide_eq_false c5
  clear c5 HALL
  go_enter Tryz.func41, Tryz.ntmps41
  go_wp2_with fail
  rw [HW.out]
  have hC0 := HI2.out W0 HB0.out
  have e0 : decide (r.nodes = s.nodes) = false := HE5.out
  rw [e0] at hC0
  clear e0
  refine hC0.mono ?_
  rintro e w1 ⟨rfl, g1⟩
  have X1 : Aside (Boxed w1 w.heap.size #[.int .u8 r.kind, .int .u32 r.id, .int .u32 r.at_, .slice r.na r.nodes.length r.nc, .slice r.fa r.facts.length r.fc, .int .u32 r.epoch, .slice r.sa r.spans.length r.sc, .int .i64 r.frm, .int .i64 r.til, .slice r.ea r.ents.length r.ec] 46 ∧ Boxed w1 (w.heap.size + 1) #[.int .u8 s.kind, .int .u32 s.id, .int .u32 s.at_, .slice s.na s.nodes.length s.nc, .slice s.fa s.facts.length s.fc, .int .u32 s.epoch, .slice s.sa s.spans.length s.sc, .int .i64 s.frm, .int .i64 s.til, .slice s.ea s.ents.length s.ec] 46) := ⟨X0.out.1.below g1, X0.out.2.below g1⟩
  have HB1 : Aside (Below w.heap.size w w1) := HB0.out.trans (g1.mono HB0.out.size)
  clear hC0 g1
  go_wp2
  go_ret
  exact ⟨false, rfl, by simpa using HNOT.out, HB1.out⟩
 have HE5 : Hid (decide (r.nodes = s.nodes) = true) := decide_eq_true c5
 have C5 : Hid (r.nodes = s.nodes) := c5
 clear c5
 by_cases c6 : factsB (r.facts.map pf) = factsB (s.facts.map pf)
 rotate_left
 ·have HNOT : Aside (¬ pr r = pr s) := fun h => c6 (congrArg factsB (congrArg PRec.facts h))
  have HE6 : Hid (decide (factsB (r.facts.map pf) = factsB (s.facts.map pf)) = false) := decide_eq_false c6
  clear c6 HALL
  go_enter Tryz.func41, Tryz.ntmps41
  go_wp2_with fail
  rw [HW.out]
  have hC0 := HI2.out W0 HB0.out
  have e0 : decide (r.nodes = s.nodes) = true := HE5.out
  rw [e0] at hC0
  clear e0
  refine hC0.mono ?_
  rintro e w1 ⟨rfl, g1⟩
  have X1 : Aside (Boxed w1 w.heap.size #[.int .u8 r.kind, .int .u32 r.id, .int .u32 r.at_, .slice r.na r.nodes.length r.nc, .slice r.fa r.facts.length r.fc, .int .u32 r.epoch, .slice r.sa r.spans.length r.sc, .int .i64 r.frm, .int .i64 r.til, .slice r.ea r.ents.length r.ec] 46 ∧ Boxed w1 (w.heap.size + 1) #[.int .u8 s.kind, .int .u32 s.id, .int .u32 s.at_, .slice s.na s.nodes.length s.nc, .slice s.fa s.facts.length s.fc, .int .u32 s.epoch, .slice s.sa s.spans.length s.sc, .int .i64 s.frm, .int .i64 s.til, .slice s.ea s.ents.length s.ec] 46) := ⟨X0.out.1.below g1, X0.out.2.below g1⟩
  have HB1 : Aside (Below w.heap.size w w1) := HB0.out.trans (g1.mono HB0.out.size)
  clear hC0 g1
  have p0 := (X1.out.1).cell (j := 0) rfl
  have q0 := (X1.out.2).cell (j := 0) rfl
  have p1 := (X1.out.1).cell (j := 1) rfl
  have q1 := (X1.out.2).cell (j := 1) rfl
  have p2 := (X1.out.1).cell (j := 2) rfl
  have q2 := (X1.out.2).cell (j := 2) rfl
  have p3 := (X1.out.1).cell (j := 3) rfl
  have q3 := (X1.out.2).cell (j := 3) rfl
  have p4 := (X1.out.1).cell (j := 4) rfl
  have q4 := (X1.out.2).cell (j := 4) rfl
  have p5 := (X1.out.1).cell (j := 5) rfl
  have q5 := (X1.out.2).cell (j := 5) rfl
  have p6 := (X1.out.1).cell (j := 6) rfl
  have q6 := (X1.out.2).cell (j := 6) rfl
  have p7 := (X1.out.1).cell (j := 7) rfl
  have q7 := (X1.out.2).cell (j := 7) rfl
  have p8 := (X1.out.1).cell (j := 8) rfl
  have q8 := (X1.out.2).cell (j := 8) rfl
  have p9 := (X1.out.1).cell (j := 9) rfl
  have q9 := (X1.out.2).cell (j := 9) rfl
  have hC1 := HF2.out w1 HB1.out
  have e1 : decide (factsB (r.facts.map pf) = factsB (s.facts.map pf)) = false := HE6.out
  rw [e1] at hC1
  clear e1
  go_wp2_with (go_at_call 65; refine hC1.mono ?_; rintro e w2 ⟨rfl, g2⟩; refine Hid.out ?_)
  refine hid ?_
  have X2 : Aside (Boxed w2 w.heap.size #[.int .u8 r.kind, .int .u32 r.id, .int .u32 r.at_, .slice r.na r.nodes.length r.nc, .slice r.fa r.facts.length r.fc, .int .u32 r.epoch, .slice r.sa r.spans.length r.sc, .int .i64 r.frm, .int .i64 r.til, .slice r.ea r.ents.length r.ec] 46 ∧ Boxed w2 (w.heap.size + 1) #[.int .u8 s.kind, .int .u32 s.id, .int .u32 s.at_, .slice s.na s.nodes.length s.nc, .slice s.fa s.facts.length s.fc, .int .u32 s.epoch, .slice s.sa s.spans.length s.sc, .int .i64 s.frm, .int .i64 s.til, .slice s.ea s.ents.length s.ec] 46) := ⟨X1.out.1.below g2, X1.out.2.below g2⟩
  have HB2 : Aside (Below w.heap.size w w2) := HB1.out.trans (g2.mono HB1.out.size)
  clear hC1 g2 p0 q0 p1 q1 p2 q2 p3 q3 p4 q4 p5 q5 p6 q6 p7 q7 p8 q8 p9 q9
  go_wp2
  go_ret
  exact ⟨false, rfl, by simpa using HNOT.out, HB2.out⟩
 have HE6 : Hid (decide (factsB (r.facts.map pf) = factsB (s.facts.map pf)) = true) := decide_eq_true c6
 have C6 : Hid (factsB (r.facts.map pf) = factsB (s.facts.map pf)) := c6
 clear c6
 by_cases c7 : r.epoch = s.epoch ∧ r.spans = s.spans
 rotate_left
 ·have HNOT : Aside (¬ pr r = pr s) := fun h => c7 ⟨congrArg PRec.epoch h, congrArg PRec.spans h⟩
  have HE7 : Hid ((decide (r.epoch = s.epoch) && decide (r.spans = s.spans)) = false) := by
   show _ = _
   by_cases h1 : r.epoch = s.epoch
   ·rw [show decide (r.spans = s.spans) = false from decide_eq_false (fun h2 => c7 ⟨h1, h2⟩), Bool.and_false]
   ·rw [show decide (r.epoch = s.epoch) = false from decide_eq_false h1, Bool.false_and]
  clear c7 HALL
  go_enter Tryz.func41, Tryz.ntmps41
  go_wp2_with fail
  rw [HW.out]
  have hC0 := HI2.out W0 HB0.out
  have e0 : decide (r.nodes = s.nodes) = true := HE5.out
  rw [e0] at hC0
  clear e0
  refine hC0.mono ?_
  rintro e w1 ⟨rfl, g1⟩
  have X1 : Aside (Boxed w1 w.heap.size #[.int .u8 r.kind, .int .u32 r.id, .int .u32 r.at_, .slice r.na r.nodes.length r.nc, .slice r.fa r.facts.length r.fc, .int .u32 r.epoch, .slice r.sa r.spans.length r.sc, .int .i64 r.frm, .int .i64 r.til, .slice r.ea r.ents.length r.ec] 46 ∧ Boxed w1 (w.heap.size + 1) #[.int .u8 s.kind, .int .u32 s.id, .int .u32 s.at_, .slice s.na s.nodes.length s.nc, .slice s.fa s.facts.length s.fc, .int .u32 s.epoch, .slice s.sa s.spans.length s.sc, .int .i64 s.frm, .int .i64 s.til, .slice s.ea s.ents.length s.ec] 46) := ⟨X0.out.1.below g1, X0.out.2.below g1⟩
  have HB1 : Aside (Below w.heap.size w w1) := HB0.out.trans (g1.mono HB0.out.size)
  clear hC0 g1
  have p0 := (X1.out.1).cell (j := 0) rfl
  have q0 := (X1.out.2).cell (j := 0) rfl
  have p1 := (X1.out.1).cell (j := 1) rfl
  have q1 := (X1.out.2).cell (j := 1) rfl
  have p2 := (X1.out.1).cell (j := 2) rfl
  have q2 := (X1.out.2).cell (j := 2) rfl
  have p3 := (X1.out.1).cell (j := 3) rfl
  have q3 := (X1.out.2).cell (j := 3) rfl
  have p4 := (X1.out.1).cell (j := 4) rfl
  have q4 := (X1.out.2).cell (j := 4) rfl
  have p5 := (X1.out.1).cell (j := 5) rfl
  have q5 := (X1.out.2).cell (j := 5) rfl
  have p6 := (X1.out.1).cell (j := 6) rfl
  have q6 := (X1.out.2).cell (j := 6) rfl
  have p7 := (X1.out.1).cell (j := 7) rfl
  have q7 := (X1.out.2).cell (j := 7) rfl
  have p8 := (X1.out.1).cell (j := 8) rfl
  have q8 := (X1.out.2).cell (j := 8) rfl
  have p9 := (X1.out.1).cell (j := 9) rfl
  have q9 := (X1.out.2).cell (j := 9) rfl
  have hC1 := HF2.out w1 HB1.out
  have e1 : decide (factsB (r.facts.map pf) = factsB (s.facts.map pf)) = true := HE6.out
  rw [e1] at hC1
  clear e1
  go_wp2_with (go_at_call 65; refine hC1.mono ?_; rintro e w2 ⟨rfl, g2⟩; refine Hid.out ?_)
  refine hid ?_
  have X2 : Aside (Boxed w2 w.heap.size #[.int .u8 r.kind, .int .u32 r.id, .int .u32 r.at_, .slice r.na r.nodes.length r.nc, .slice r.fa r.facts.length r.fc, .int .u32 r.epoch, .slice r.sa r.spans.length r.sc, .int .i64 r.frm, .int .i64 r.til, .slice r.ea r.ents.length r.ec] 46 ∧ Boxed w2 (w.heap.size + 1) #[.int .u8 s.kind, .int .u32 s.id, .int .u32 s.at_, .slice s.na s.nodes.length s.nc, .slice s.fa s.facts.length s.fc, .int .u32 s.epoch, .slice s.sa s.spans.length s.sc, .int .i64 s.frm, .int .i64 s.til, .slice s.ea s.ents.length s.ec] 46) := ⟨X1.out.1.below g2, X1.out.2.below g2⟩
  have HB2 : Aside (Below w.heap.size w w2) := HB1.out.trans (g2.mono HB1.out.size)
  clear hC1 g2 p0 q0 p1 q1 p2 q2 p3 q3 p4 q4 p5 q5 p6 q6 p7 q7 p8 q8 p9 q9
  have p0 := (X2.out.1).cell (j := 0) rfl
  have q0 := (X2.out.2).cell (j := 0) rfl
  have p1 := (X2.out.1).cell (j := 1) rfl
  have q1 := (X2.out.2).cell (j := 1) rfl
  have p2 := (X2.out.1).cell (j := 2) rfl
  have q2 := (X2.out.2).cell (j := 2) rfl
  have p3 := (X2.out.1).cell (j := 3) rfl
  have q3 := (X2.out.2).cell (j := 3) rfl
  have p4 := (X2.out.1).cell (j := 4) rfl
  have q4 := (X2.out.2).cell (j := 4) rfl
  have p5 := (X2.out.1).cell (j := 5) rfl
  have q5 := (X2.out.2).cell (j := 5) rfl
  have p6 := (X2.out.1).cell (j := 6) rfl
  have q6 := (X2.out.2).cell (j := 6) rfl
  have p7 := (X2.out.1).cell (j := 7) rfl
  have q7 := (X2.out.2).cell (j := 7) rfl
  have p8 := (X2.out.1).cell (j := 8) rfl
  have q8 := (X2.out.2).cell (j := 8) rfl
  have p9 := (X2.out.1).cell (j := 9) rfl
  have q9 := (X2.out.2).cell (j := 9) rfl
  have hC2 := HM2.out w2 HB2.out
  have e2 : (decide (r.epoch = s.epoch) && decide (r.spans = s.spans)) = false := HE7.out
  rw [e2] at hC2
  clear e2
  go_wp2_with (go_at_call 66; refine hC2.mono ?_; rintro e w3 ⟨rfl, g3⟩; refine Hid.out ?_)
  refine hid ?_
  have X3 : Aside (Boxed w3 w.heap.size #[.int .u8 r.kind, .int .u32 r.id, .int .u32 r.at_, .slice r.na r.nodes.length r.nc, .slice r.fa r.facts.length r.fc, .int .u32 r.epoch, .slice r.sa r.spans.length r.sc, .int .i64 r.frm, .int .i64 r.til, .slice r.ea r.ents.length r.ec] 46 ∧ Boxed w3 (w.heap.size + 1) #[.int .u8 s.kind, .int .u32 s.id, .int .u32 s.at_, .slice s.na s.nodes.length s.nc, .slice s.fa s.facts.length s.fc, .int .u32 s.epoch, .slice s.sa s.spans.length s.sc, .int .i64 s.frm, .int .i64 s.til, .slice s.ea s.ents.length s.ec] 46) := ⟨X2.out.1.below g3, X2.out.2.below g3⟩
  have HB3 : Aside (Below w.heap.size w w3) := HB2.out.trans (g3.mono HB2.out.size)
  clear hC2 g3 p0 q0 p1 q1 p2 q2 p3 q3 p4 q4 p5 q5 p6 q6 p7 q7 p8 q8 p9 q9
  go_wp2
  go_ret
  exact ⟨false, rfl, by simpa using HNOT.out, HB3.out⟩
 have HE7 : Hid ((decide (r.epoch = s.epoch) && decide (r.spans = s.spans)) = true) := by show _ = _; rw [decide_eq_true c7.1, decide_eq_true c7.2]; rfl
 have C7 : Hid (r.epoch = s.epoch ∧ r.spans = s.spans) := c7
 clear c7
 by_cases c8 : entsB (r.ents.map pe) = entsB (s.ents.map pe)
 rotate_left
 ·have HNOT : Aside (¬ pr r = pr s) := fun h => c8 (congrArg entsB (congrArg PRec.ents h))
  have HE8 : Hid (decide (entsB (r.ents.map pe) = entsB (s.ents.map pe)) = false) := decide_eq_false c8
  clear c8 HALL
  go_enter Tryz.func41, Tryz.ntmps41
  go_wp2_with fail
  rw [HW.out]
  have hC0 := HI2.out W0 HB0.out
  have e0 : decide (r.nodes = s.nodes) = true := HE5.out
  rw [e0] at hC0
  clear e0
  refine hC0.mono ?_
  rintro e w1 ⟨rfl, g1⟩
  have X1 : Aside (Boxed w1 w.heap.size #[.int .u8 r.kind, .int .u32 r.id, .int .u32 r.at_, .slice r.na r.nodes.length r.nc, .slice r.fa r.facts.length r.fc, .int .u32 r.epoch, .slice r.sa r.spans.length r.sc, .int .i64 r.frm, .int .i64 r.til, .slice r.ea r.ents.length r.ec] 46 ∧ Boxed w1 (w.heap.size + 1) #[.int .u8 s.kind, .int .u32 s.id, .int .u32 s.at_, .slice s.na s.nodes.length s.nc, .slice s.fa s.facts.length s.fc, .int .u32 s.epoch, .slice s.sa s.spans.length s.sc, .int .i64 s.frm, .int .i64 s.til, .slice s.ea s.ents.length s.ec] 46) := ⟨X0.out.1.below g1, X0.out.2.below g1⟩
  have HB1 : Aside (Below w.heap.size w w1) := HB0.out.trans (g1.mono HB0.out.size)
  clear hC0 g1
  have p0 := (X1.out.1).cell (j := 0) rfl
  have q0 := (X1.out.2).cell (j := 0) rfl
  have p1 := (X1.out.1).cell (j := 1) rfl
  have q1 := (X1.out.2).cell (j := 1) rfl
  have p2 := (X1.out.1).cell (j := 2) rfl
  have q2 := (X1.out.2).cell (j := 2) rfl
  have p3 := (X1.out.1).cell (j := 3) rfl
  have q3 := (X1.out.2).cell (j := 3) rfl
  have p4 := (X1.out.1).cell (j := 4) rfl
  have q4 := (X1.out.2).cell (j := 4) rfl
  have p5 := (X1.out.1).cell (j := 5) rfl
  have q5 := (X1.out.2).cell (j := 5) rfl
  have p6 := (X1.out.1).cell (j := 6) rfl
  have q6 := (X1.out.2).cell (j := 6) rfl
  have p7 := (X1.out.1).cell (j := 7) rfl
  have q7 := (X1.out.2).cell (j := 7) rfl
  have p8 := (X1.out.1).cell (j := 8) rfl
  have q8 := (X1.out.2).cell (j := 8) rfl
  have p9 := (X1.out.1).cell (j := 9) rfl
  have q9 := (X1.out.2).cell (j := 9) rfl
  have hC1 := HF2.out w1 HB1.out
  have e1 : decide (factsB (r.facts.map pf) = factsB (s.facts.map pf)) = true := HE6.out
  rw [e1] at hC1
  clear e1
  go_wp2_with (go_at_call 65; refine hC1.mono ?_; rintro e w2 ⟨rfl, g2⟩; refine Hid.out ?_)
  refine hid ?_
  have X2 : Aside (Boxed w2 w.heap.size #[.int .u8 r.kind, .int .u32 r.id, .int .u32 r.at_, .slice r.na r.nodes.length r.nc, .slice r.fa r.facts.length r.fc, .int .u32 r.epoch, .slice r.sa r.spans.length r.sc, .int .i64 r.frm, .int .i64 r.til, .slice r.ea r.ents.length r.ec] 46 ∧ Boxed w2 (w.heap.size + 1) #[.int .u8 s.kind, .int .u32 s.id, .int .u32 s.at_, .slice s.na s.nodes.length s.nc, .slice s.fa s.facts.length s.fc, .int .u32 s.epoch, .slice s.sa s.spans.length s.sc, .int .i64 s.frm, .int .i64 s.til, .slice s.ea s.ents.length s.ec] 46) := ⟨X1.out.1.below g2, X1.out.2.below g2⟩
  have HB2 : Aside (Below w.heap.size w w2) := HB1.out.trans (g2.mono HB1.out.size)
  clear hC1 g2 p0 q0 p1 q1 p2 q2 p3 q3 p4 q4 p5 q5 p6 q6 p7 q7 p8 q8 p9 q9
  have p0 := (X2.out.1).cell (j := 0) rfl
  have q0 := (X2.out.2).cell (j := 0) rfl
  have p1 := (X2.out.1).cell (j := 1) rfl
  have q1 := (X2.out.2).cell (j := 1) rfl
  have p2 := (X2.out.1).cell (j := 2) rfl
  have q2 := (X2.out.2).cell (j := 2) rfl
  have p3 := (X2.out.1).cell (j := 3) rfl
  have q3 := (X2.out.2).cell (j := 3) rfl
  have p4 := (X2.out.1).cell (j := 4) rfl
  have q4 := (X2.out.2).cell (j := 4) rfl
  have p5 := (X2.out.1).cell (j := 5) rfl
  have q5 := (X2.out.2).cell (j := 5) rfl
  have p6 := (X2.out.1).cell (j := 6) rfl
  have q6 := (X2.out.2).cell (j := 6) rfl
  have p7 := (X2.out.1).cell (j := 7) rfl
  have q7 := (X2.out.2).cell (j := 7) rfl
  have p8 := (X2.out.1).cell (j := 8) rfl
  have q8 := (X2.out.2).cell (j := 8) rfl
  have p9 := (X2.out.1).cell (j := 9) rfl
  have q9 := (X2.out.2).cell (j := 9) rfl
  have hC2 := HM2.out w2 HB2.out
  have e2 : (decide (r.epoch = s.epoch) && decide (r.spans = s.spans)) = true := HE7.out
  rw [e2] at hC2
  clear e2
  go_wp2_with (go_at_call 66; refine hC2.mono ?_; rintro e w3 ⟨rfl, g3⟩; refine Hid.out ?_)
  refine hid ?_
  have X3 : Aside (Boxed w3 w.heap.size #[.int .u8 r.kind, .int .u32 r.id, .int .u32 r.at_, .slice r.na r.nodes.length r.nc, .slice r.fa r.facts.length r.fc, .int .u32 r.epoch, .slice r.sa r.spans.length r.sc, .int .i64 r.frm, .int .i64 r.til, .slice r.ea r.ents.length r.ec] 46 ∧ Boxed w3 (w.heap.size + 1) #[.int .u8 s.kind, .int .u32 s.id, .int .u32 s.at_, .slice s.na s.nodes.length s.nc, .slice s.fa s.facts.length s.fc, .int .u32 s.epoch, .slice s.sa s.spans.length s.sc, .int .i64 s.frm, .int .i64 s.til, .slice s.ea s.ents.length s.ec] 46) := ⟨X2.out.1.below g3, X2.out.2.below g3⟩
  have HB3 : Aside (Below w.heap.size w w3) := HB2.out.trans (g3.mono HB2.out.size)
  clear hC2 g3 p0 q0 p1 q1 p2 q2 p3 q3 p4 q4 p5 q5 p6 q6 p7 q7 p8 q8 p9 q9
  have p0 := (X3.out.1).cell (j := 0) rfl
  have q0 := (X3.out.2).cell (j := 0) rfl
  have p1 := (X3.out.1).cell (j := 1) rfl
  have q1 := (X3.out.2).cell (j := 1) rfl
  have p2 := (X3.out.1).cell (j := 2) rfl
  have q2 := (X3.out.2).cell (j := 2) rfl
  have p3 := (X3.out.1).cell (j := 3) rfl
  have q3 := (X3.out.2).cell (j := 3) rfl
  have p4 := (X3.out.1).cell (j := 4) rfl
  have q4 := (X3.out.2).cell (j := 4) rfl
  have p5 := (X3.out.1).cell (j := 5) rfl
  have q5 := (X3.out.2).cell (j := 5) rfl
  have p6 := (X3.out.1).cell (j := 6) rfl
  have q6 := (X3.out.2).cell (j := 6) rfl
  have p7 := (X3.out.1).cell (j := 7) rfl
  have q7 := (X3.out.2).cell (j := 7) rfl
  have p8 := (X3.out.1).cell (j := 8) rfl
  have q8 := (X3.out.2).cell (j := 8) rfl
  have p9 := (X3.out.1).cell (j := 9) rfl
  have q9 := (X3.out.2).cell (j := 9) rfl
  have hC3 := HE2.out w3 HB3.out
  have e3 : decide (entsB (r.ents.map pe) = entsB (s.ents.map pe)) = false := HE8.out
  rw [e3] at hC3
  clear e3
  go_wp2_with (go_at_call 67; refine hC3.mono ?_; rintro e w4 ⟨rfl, g4⟩; refine Hid.out ?_)
  refine hid ?_
  have X4 : Aside (Boxed w4 w.heap.size #[.int .u8 r.kind, .int .u32 r.id, .int .u32 r.at_, .slice r.na r.nodes.length r.nc, .slice r.fa r.facts.length r.fc, .int .u32 r.epoch, .slice r.sa r.spans.length r.sc, .int .i64 r.frm, .int .i64 r.til, .slice r.ea r.ents.length r.ec] 46 ∧ Boxed w4 (w.heap.size + 1) #[.int .u8 s.kind, .int .u32 s.id, .int .u32 s.at_, .slice s.na s.nodes.length s.nc, .slice s.fa s.facts.length s.fc, .int .u32 s.epoch, .slice s.sa s.spans.length s.sc, .int .i64 s.frm, .int .i64 s.til, .slice s.ea s.ents.length s.ec] 46) := ⟨X3.out.1.below g4, X3.out.2.below g4⟩
  have HB4 : Aside (Below w.heap.size w w4) := HB3.out.trans (g4.mono HB3.out.size)
  clear hC3 g4 p0 q0 p1 q1 p2 q2 p3 q3 p4 q4 p5 q5 p6 q6 p7 q7 p8 q8 p9 q9
  go_wp2
  go_ret
  exact ⟨false, rfl, by simpa using HNOT.out, HB4.out⟩
 have HE8 : Hid (decide (entsB (r.ents.map pe) = entsB (s.ents.map pe)) = true) := decide_eq_true c8
 have C8 : Hid (entsB (r.ents.map pe) = entsB (s.ents.map pe)) := c8
 clear c8
 have HYES : Aside (pr r = pr s) := HALL.out C0.out C1.out C2.out C3.out C4.out C5.out C6.out C7.out C8.out
 clear HALL
 go_enter Tryz.func41, Tryz.ntmps41
 go_wp2_with fail
 rw [HW.out]
 have hC0 := HI2.out W0 HB0.out
 have e0 : decide (r.nodes = s.nodes) = true := HE5.out
 rw [e0] at hC0
 clear e0
 refine hC0.mono ?_
 rintro e w1 ⟨rfl, g1⟩
 have X1 : Aside (Boxed w1 w.heap.size #[.int .u8 r.kind, .int .u32 r.id, .int .u32 r.at_, .slice r.na r.nodes.length r.nc, .slice r.fa r.facts.length r.fc, .int .u32 r.epoch, .slice r.sa r.spans.length r.sc, .int .i64 r.frm, .int .i64 r.til, .slice r.ea r.ents.length r.ec] 46 ∧ Boxed w1 (w.heap.size + 1) #[.int .u8 s.kind, .int .u32 s.id, .int .u32 s.at_, .slice s.na s.nodes.length s.nc, .slice s.fa s.facts.length s.fc, .int .u32 s.epoch, .slice s.sa s.spans.length s.sc, .int .i64 s.frm, .int .i64 s.til, .slice s.ea s.ents.length s.ec] 46) := ⟨X0.out.1.below g1, X0.out.2.below g1⟩
 have HB1 : Aside (Below w.heap.size w w1) := HB0.out.trans (g1.mono HB0.out.size)
 clear hC0 g1
 have p0 := (X1.out.1).cell (j := 0) rfl
 have q0 := (X1.out.2).cell (j := 0) rfl
 have p1 := (X1.out.1).cell (j := 1) rfl
 have q1 := (X1.out.2).cell (j := 1) rfl
 have p2 := (X1.out.1).cell (j := 2) rfl
 have q2 := (X1.out.2).cell (j := 2) rfl
 have p3 := (X1.out.1).cell (j := 3) rfl
 have q3 := (X1.out.2).cell (j := 3) rfl
 have p4 := (X1.out.1).cell (j := 4) rfl
 have q4 := (X1.out.2).cell (j := 4) rfl
 have p5 := (X1.out.1).cell (j := 5) rfl
 have q5 := (X1.out.2).cell (j := 5) rfl
 have p6 := (X1.out.1).cell (j := 6) rfl
 have q6 := (X1.out.2).cell (j := 6) rfl
 have p7 := (X1.out.1).cell (j := 7) rfl
 have q7 := (X1.out.2).cell (j := 7) rfl
 have p8 := (X1.out.1).cell (j := 8) rfl
 have q8 := (X1.out.2).cell (j := 8) rfl
 have p9 := (X1.out.1).cell (j := 9) rfl
 have q9 := (X1.out.2).cell (j := 9) rfl
 have hC1 := HF2.out w1 HB1.out
 have e1 : decide (factsB (r.facts.map pf) = factsB (s.facts.map pf)) = true := HE6.out
 rw [e1] at hC1
 clear e1
 go_wp2_with (go_at_call 65; refine hC1.mono ?_; rintro e w2 ⟨rfl, g2⟩; refine Hid.out ?_)
 refine hid ?_
 have X2 : Aside (Boxed w2 w.heap.size #[.int .u8 r.kind, .int .u32 r.id, .int .u32 r.at_, .slice r.na r.nodes.length r.nc, .slice r.fa r.facts.length r.fc, .int .u32 r.epoch, .slice r.sa r.spans.length r.sc, .int .i64 r.frm, .int .i64 r.til, .slice r.ea r.ents.length r.ec] 46 ∧ Boxed w2 (w.heap.size + 1) #[.int .u8 s.kind, .int .u32 s.id, .int .u32 s.at_, .slice s.na s.nodes.length s.nc, .slice s.fa s.facts.length s.fc, .int .u32 s.epoch, .slice s.sa s.spans.length s.sc, .int .i64 s.frm, .int .i64 s.til, .slice s.ea s.ents.length s.ec] 46) := ⟨X1.out.1.below g2, X1.out.2.below g2⟩
 have HB2 : Aside (Below w.heap.size w w2) := HB1.out.trans (g2.mono HB1.out.size)
 clear hC1 g2 p0 q0 p1 q1 p2 q2 p3 q3 p4 q4 p5 q5 p6 q6 p7 q7 p8 q8 p9 q9
 have p0 := (X2.out.1).cell (j := 0) rfl
 have q0 := (X2.out.2).cell (j := 0) rfl
 have p1 := (X2.out.1).cell (j := 1) rfl
 have q1 := (X2.out.2).cell (j := 1) rfl
 have p2 := (X2.out.1).cell (j := 2) rfl
 have q2 := (X2.out.2).cell (j := 2) rfl
 have p3 := (X2.out.1).cell (j := 3) rfl
 have q3 := (X2.out.2).cell (j := 3) rfl
 have p4 := (X2.out.1).cell (j := 4) rfl
 have q4 := (X2.out.2).cell (j := 4) rfl
 have p5 := (X2.out.1).cell (j := 5) rfl
 have q5 := (X2.out.2).cell (j := 5) rfl
 have p6 := (X2.out.1).cell (j := 6) rfl
 have q6 := (X2.out.2).cell (j := 6) rfl
 have p7 := (X2.out.1).cell (j := 7) rfl
 have q7 := (X2.out.2).cell (j := 7) rfl
 have p8 := (X2.out.1).cell (j := 8) rfl
 have q8 := (X2.out.2).cell (j := 8) rfl
 have p9 := (X2.out.1).cell (j := 9) rfl
 have q9 := (X2.out.2).cell (j := 9) rfl
 have hC2 := HM2.out w2 HB2.out
 have e2 : (decide (r.epoch = s.epoch) && decide (r.spans = s.spans)) = true := HE7.out
 rw [e2] at hC2
 clear e2
 go_wp2_with (go_at_call 66; refine hC2.mono ?_; rintro e w3 ⟨rfl, g3⟩; refine Hid.out ?_)
 refine hid ?_
 have X3 : Aside (Boxed w3 w.heap.size #[.int .u8 r.kind, .int .u32 r.id, .int .u32 r.at_, .slice r.na r.nodes.length r.nc, .slice r.fa r.facts.length r.fc, .int .u32 r.epoch, .slice r.sa r.spans.length r.sc, .int .i64 r.frm, .int .i64 r.til, .slice r.ea r.ents.length r.ec] 46 ∧ Boxed w3 (w.heap.size + 1) #[.int .u8 s.kind, .int .u32 s.id, .int .u32 s.at_, .slice s.na s.nodes.length s.nc, .slice s.fa s.facts.length s.fc, .int .u32 s.epoch, .slice s.sa s.spans.length s.sc, .int .i64 s.frm, .int .i64 s.til, .slice s.ea s.ents.length s.ec] 46) := ⟨X2.out.1.below g3, X2.out.2.below g3⟩
 have HB3 : Aside (Below w.heap.size w w3) := HB2.out.trans (g3.mono HB2.out.size)
 clear hC2 g3 p0 q0 p1 q1 p2 q2 p3 q3 p4 q4 p5 q5 p6 q6 p7 q7 p8 q8 p9 q9
 have p0 := (X3.out.1).cell (j := 0) rfl
 have q0 := (X3.out.2).cell (j := 0) rfl
 have p1 := (X3.out.1).cell (j := 1) rfl
 have q1 := (X3.out.2).cell (j := 1) rfl
 have p2 := (X3.out.1).cell (j := 2) rfl
 have q2 := (X3.out.2).cell (j := 2) rfl
 have p3 := (X3.out.1).cell (j := 3) rfl
 have q3 := (X3.out.2).cell (j := 3) rfl
 have p4 := (X3.out.1).cell (j := 4) rfl
 have q4 := (X3.out.2).cell (j := 4) rfl
 have p5 := (X3.out.1).cell (j := 5) rfl
 have q5 := (X3.out.2).cell (j := 5) rfl
 have p6 := (X3.out.1).cell (j := 6) rfl
 have q6 := (X3.out.2).cell (j := 6) rfl
 have p7 := (X3.out.1).cell (j := 7) rfl
 have q7 := (X3.out.2).cell (j := 7) rfl
 have p8 := (X3.out.1).cell (j := 8) rfl
 have q8 := (X3.out.2).cell (j := 8) rfl
 have p9 := (X3.out.1).cell (j := 9) rfl
 have q9 := (X3.out.2).cell (j := 9) rfl
 have hC3 := HE2.out w3 HB3.out
 have e3 : decide (entsB (r.ents.map pe) = entsB (s.ents.map pe)) = true := HE8.out
 rw [e3] at hC3
 clear e3
 go_wp2_with (go_at_call 67; refine hC3.mono ?_; rintro e w4 ⟨rfl, g4⟩; refine Hid.out ?_)
 refine hid ?_
 have X4 : Aside (Boxed w4 w.heap.size #[.int .u8 r.kind, .int .u32 r.id, .int .u32 r.at_, .slice r.na r.nodes.length r.nc, .slice r.fa r.facts.length r.fc, .int .u32 r.epoch, .slice r.sa r.spans.length r.sc, .int .i64 r.frm, .int .i64 r.til, .slice r.ea r.ents.length r.ec] 46 ∧ Boxed w4 (w.heap.size + 1) #[.int .u8 s.kind, .int .u32 s.id, .int .u32 s.at_, .slice s.na s.nodes.length s.nc, .slice s.fa s.facts.length s.fc, .int .u32 s.epoch, .slice s.sa s.spans.length s.sc, .int .i64 s.frm, .int .i64 s.til, .slice s.ea s.ents.length s.ec] 46) := ⟨X3.out.1.below g4, X3.out.2.below g4⟩
 have HB4 : Aside (Below w.heap.size w w4) := HB3.out.trans (g4.mono HB3.out.size)
 clear hC3 g4 p0 q0 p1 q1 p2 q2 p3 q3 p4 q4 p5 q5 p6 q6 p7 q7 p8 q8 p9 q9
 go_wp2
 go_ret
 exact ⟨true, rfl, ⟨fun _ => HYES.out, fun _ => rfl⟩, HB4.out⟩
end code
end Go.Proofs.YtlcjllgfpfldlaaGreat
