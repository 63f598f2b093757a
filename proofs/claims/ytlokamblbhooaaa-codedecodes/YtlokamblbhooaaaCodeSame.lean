/-
  Are facts, entries alike: the chapter's functions.
-/
import Derived.Test.YtlokamblbhooaaaCodeRefLay
import Derived.Test.YtlokamblbhooaaaCodeKnown
namespace Go.Proofs.Ytlokamblbhooaaa.code
open Go.ChangeShapes Go.WideShapes Go.ChangeAt Go.RowKit Go.Deep
open Go.Proofs.Ytlokamblbhooaaa.dims (nth Ints cell_lt vals vals_len vals_get vals_one vals_app own_below own_mono own_out own_apart RowOut ret_bool ret_int)
set_option linter.unusedVariables false
set_option maxRecDepth 100000
set_option linter.unusedSimpArgs false

theorem str_eq (x y : List UInt8) : (x == y) = decide (x = y) := by
  rw [Bool.eq_iff_iff]; simp
/-- bytes that a call hands out: they stay a string's -/
def Strs (w : World) (v : Value) (l : List UInt8) : Prop := ∀ W, Below w.heap.size w W → (convert 33 9 v).run Try.prog W = .ok (.string ⟨l.toArray⟩) W
theorem Bs.strs {B : Nat} {w : World} {v : Value} {l : List UInt8} (h : Bs B w v l) : Strs w v l := by
  obtain ⟨a, c, rfl, hba⟩ := h.bytes
  exact fun W hW => str_of (hba.keep hW).mem _ c rfl
theorem facts_str (w : World) (a : Option Addr) (fs : List Ft) (n c : Nat) (hI : FactsIn w a fs) (hn : fs.length = n) (hm : n ≤ 100000000) (hl : (factsB (fs.map pf)).length ≤ 900000000) :
    Calls Try.prog 23 #[.slice none 0 0, .slice a n c] w fun e w' => ∃ v, e = .returned v ∧ Strs w' v (factsB (fs.map pf)) ∧ Below w.heap.size w w' :=
  (refFacts_any w a fs n c hI hn w (.slice none 0 0) [] (Below.refl _ _) (Bs.nil _ _) hm (by simpa using hl)).mono fun e w' ⟨v, h1, h2, h3⟩ => ⟨v, h1, by rw [List.nil_append] at h2; exact h2.strs, h3.below (Bs.nil _ _) (Nat.le_refl _)⟩

theorem ents_str (w : World) (a : Option Addr) (es : List Et) (n c : Nat) (hI : EntsIn w a es) (hn : es.length = n) (hm : n ≤ 100000000) (hf : ∀ e ∈ es, e.fs.length ≤ 100000000) (hl : (entsB (es.map pe)).length ≤ 900000000) :
    Calls Try.prog 24 #[.slice none 0 0, .slice a n c] w fun e w' => ∃ v, e = .returned v ∧ Strs w' v (entsB (es.map pe)) ∧ Below w.heap.size w w' :=
  (refEntries_any w a es n c hI hn w (.slice none 0 0) [] (Below.refl _ _) (Bs.nil _ _) hm hf (by simpa using hl)).mono fun e w' ⟨v, h1, h2, h3⟩ => ⟨v, h1, by rw [List.nil_append] at h2; exact h2.strs, h3.below (Bs.nil _ _) (Nat.le_refl _)⟩

set_option maxHeartbeats 8000000 in
theorem sameFacts_any (w : World) (a b : Option Addr) (fs gs : List Ft) (n m c d : Nat) (hI : FactsIn w a fs) (hn : fs.length = n) (hm : n ≤ 100000000) (hl : (factsB (fs.map pf)).length ≤ 900000000) (hJ : FactsIn w b gs) (hn2 : gs.length = m) (hm2 : m ≤ 100000000) (hl2 : (factsB (gs.map pf)).length ≤ 900000000) :
    Calls Try.prog 41 #[.slice a n c, .slice b m d] w fun e w' => e = .returned (.bool (decide (factsB (fs.map pf) = factsB (gs.map pf)))) ∧ Below w.heap.size w w' := by
  have h1 : ∀ W, Below w.heap.size w W → Calls Try.prog 23 #[.slice none 0 0, .slice a n c] W fun e w' => ∃ v, e = .returned v ∧ Strs w' v (factsB (fs.map pf)) ∧ Below W.heap.size W w' := fun W hW => facts_str W a fs n c (hI.keep hW) hn hm hl
  have h2 : ∀ W, Below w.heap.size w W → Calls Try.prog 23 #[.slice none 0 0, .slice b m d] W fun e w' => ∃ v, e = .returned v ∧ Strs w' v (factsB (gs.map pf)) ∧ Below W.heap.size W w' := fun W hW => facts_str W b gs m d (hJ.keep hW) hn2 hm2 hl2
  generalize factsB (fs.map pf) = x at h1
  generalize factsB (gs.map pf) = y at h2
  clear hI hJ hn hn2 hm hm2 hl hl2
  go_enter Try.func41, Try.ntmps41
  go_wp2_with fail
  have HD : Aside (Below w.heap.size w w.drew) := (Below.refl _ _).drew
  have H1 : Aside (∀ W, Below w.heap.size w W → Calls Try.prog 23 #[.slice none 0 0, .slice a n c] W fun e w' => ∃ v, e = .returned v ∧ Strs w' v x ∧ Below W.heap.size W w') := h1
  have H2 : Aside (∀ W, Below w.heap.size w W → Calls Try.prog 23 #[.slice none 0 0, .slice b m d] W fun e w' => ∃ v, e = .returned v ∧ Strs w' v y ∧ Below W.heap.size W w') := h2
  clear h1 h2
  go_region_with (go_at_call 23; first
    | ((with_reducible refine (H1.out _ HD.out).mono ?_); rintro e wA ⟨vA, rfl, sA, bA⟩; have tA := sA wA (Below.refl _ _); have HA : Aside (Below w.heap.size w wA ∧ Strs wA vA x) := ⟨Below.trans HD.out (bA.mono HD.out.size), sA⟩; clear sA bA)
    | ((with_reducible refine (H2.out _ HA.out.1).mono ?_); rintro e wB ⟨vB, rfl, sB, bB⟩; have tB := sB wB (Below.refl _ _); have tA := HA.out.2 wB bB; have HB : Aside (Below w.heap.size w wB ∧ Strs wB vB y) := ⟨Below.trans HA.out.1 (bB.mono HA.out.1.size), sB⟩; clear sB bB)
    | ((with_reducible refine (H2.out _ HD.out).mono ?_); rintro e wB ⟨vB, rfl, sB, bB⟩; have tB := sB wB (Below.refl _ _); have HB : Aside (Below w.heap.size w wB ∧ Strs wB vB y) := ⟨Below.trans HD.out (bB.mono HD.out.size), sB⟩; clear sB bB)
    | ((with_reducible refine (H1.out _ HB.out.1).mono ?_); rintro e wA ⟨vA, rfl, sA, bA⟩; have tA := sA wA (Below.refl _ _); have tB := HB.out.2 wA bA; have HA : Aside (Below w.heap.size w wA ∧ Strs wA vA x) := ⟨Below.trans HB.out.1 (bA.mono HB.out.1.size), sA⟩; clear sA bA))
  all_goals (go_wp2; go_ret)
  all_goals refine ⟨ret_bool (str_eq x y), ?_⟩
  all_goals first
    | exact HB.out.1
    | exact HA.out.1

set_option maxHeartbeats 8000000 in
theorem sameEnts_any (w : World) (a b : Option Addr) (fs gs : List Et) (n m c d : Nat) (hI : EntsIn w a fs) (hn : fs.length = n) (hm : n ≤ 100000000) (hl : (entsB (fs.map pe)).length ≤ 900000000) (hf : ∀ e ∈ fs, e.fs.length ≤ 100000000) (hJ : EntsIn w b gs) (hn2 : gs.length = m) (hm2 : m ≤ 100000000) (hl2 : (entsB (gs.map pe)).length ≤ 900000000) (hg : ∀ e ∈ gs, e.fs.length ≤ 100000000) :
    Calls Try.prog 43 #[.slice a n c, .slice b m d] w fun e w' => e = .returned (.bool (decide (entsB (fs.map pe) = entsB (gs.map pe)))) ∧ Below w.heap.size w w' := by
  have h1 : ∀ W, Below w.heap.size w W → Calls Try.prog 24 #[.slice none 0 0, .slice a n c] W fun e w' => ∃ v, e = .returned v ∧ Strs w' v (entsB (fs.map pe)) ∧ Below W.heap.size W w' := fun W hW => ents_str W a fs n c (hI.keep hW) hn hm hf hl
  have h2 : ∀ W, Below w.heap.size w W → Calls Try.prog 24 #[.slice none 0 0, .slice b m d] W fun e w' => ∃ v, e = .returned v ∧ Strs w' v (entsB (gs.map pe)) ∧ Below W.heap.size W w' := fun W hW => ents_str W b gs m d (hJ.keep hW) hn2 hm2 hg hl2
  generalize entsB (fs.map pe) = x at h1
  generalize entsB (gs.map pe) = y at h2
  clear hI hJ hn hn2 hm hm2 hl hl2 hf hg
  go_enter Try.func43, Try.ntmps43
  go_wp2_with fail
  have HD : Aside (Below w.heap.size w w.drew) := (Below.refl _ _).drew
  have H1 : Aside (∀ W, Below w.heap.size w W → Calls Try.prog 24 #[.slice none 0 0, .slice a n c] W fun e w' => ∃ v, e = .returned v ∧ Strs w' v x ∧ Below W.heap.size W w') := h1
  have H2 : Aside (∀ W, Below w.heap.size w W → Calls Try.prog 24 #[.slice none 0 0, .slice b m d] W fun e w' => ∃ v, e = .returned v ∧ Strs w' v y ∧ Below W.heap.size W w') := h2
  clear h1 h2
  go_region_with (go_at_call 24; first
    | ((with_reducible refine (H1.out _ HD.out).mono ?_); rintro e wA ⟨vA, rfl, sA, bA⟩; have tA := sA wA (Below.refl _ _); have HA : Aside (Below w.heap.size w wA ∧ Strs wA vA x) := ⟨Below.trans HD.out (bA.mono HD.out.size), sA⟩; clear sA bA)
    | ((with_reducible refine (H2.out _ HA.out.1).mono ?_); rintro e wB ⟨vB, rfl, sB, bB⟩; have tB := sB wB (Below.refl _ _); have tA := HA.out.2 wB bB; have HB : Aside (Below w.heap.size w wB ∧ Strs wB vB y) := ⟨Below.trans HA.out.1 (bB.mono HA.out.1.size), sB⟩; clear sB bB)
    | ((with_reducible refine (H2.out _ HD.out).mono ?_); rintro e wB ⟨vB, rfl, sB, bB⟩; have tB := sB wB (Below.refl _ _); have HB : Aside (Below w.heap.size w wB ∧ Strs wB vB y) := ⟨Below.trans HD.out (bB.mono HD.out.size), sB⟩; clear sB bB)
    | ((with_reducible refine (H1.out _ HB.out.1).mono ?_); rintro e wA ⟨vA, rfl, sA, bA⟩; have tA := sA wA (Below.refl _ _); have tB := HB.out.2 wA bA; have HA : Aside (Below w.heap.size w wA ∧ Strs wA vA x) := ⟨Below.trans HB.out.1 (bA.mono HB.out.1.size), sA⟩; clear sA bA))
  all_goals (go_wp2; go_ret)
  all_goals refine ⟨ret_bool (str_eq x y), ?_⟩
  all_goals first
    | exact HB.out.1
    | exact HA.out.1
end Go.Proofs.Ytlokamblbhooaaa.code
