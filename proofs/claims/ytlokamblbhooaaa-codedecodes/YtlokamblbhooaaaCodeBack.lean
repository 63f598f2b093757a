/-
  Records come back from their bytes, in one way: plain. The chapter's reader over a record's bytes tells that record; two sound records with the same bytes are the same.
-/
import Derived.Test.YtlokamblbhooaaaCodeMath
namespace Go.Proofs.Ytlokamblbhooaaa.code
set_option linter.unusedVariables false
set_option maxRecDepth 100000

theorem pow4 : (256 : Int) ^ 4 = 4294967296 := by decide
theorem pow1 : (256 : Int) ^ 1 = 256 := by decide
theorem rdGet_putB (v k : Nat) (r : List UInt8) : rdGet k (putB v k ++ r, false) = (v % 256 ^ k, (r, false)) := by
  unfold rdGet
  rw [if_neg (by simp [putB_len])]
  obtain ⟨e1, e2⟩ := putB_append v k r
  simp only [e1, e2, valB_put]
/-- a number of eight bytes, back as an int64 -/
theorem asI64_back {x : Int} (h : I64 x) : asI64 ((x % 18446744073709551616).toNat % 256 ^ 8) = x := by
  have e : (256 : Nat) ^ 8 = 18446744073709551616 := by decide
  rw [e]
  unfold I64 at h
  unfold asI64
  split <;> omega
theorem rd1_back : Back (rdInt 1) (putI · 1) (fun x => 0 ≤ x ∧ x ≤ 255) := rdInt_back _ fun x h => by rw [pow1]; omega
theorem rd4_back : Back (rdInt 4) (putI · 4) U32 := rdInt_back _ fun x h => by rw [pow4]; unfold U32 at h; omega

/-! ### what may be, limb by limb -/
theorem nodesOk_all : ∀ {l : List Int}, nodesOk l = true → ∀ x ∈ l, 0 ≤ x ∧ x ≤ 5
  | [], _ => by simp
  | y :: l, h => by
    simp only [nodesOk, Bool.and_eq_true, decide_eq_true_eq] at h
    intro x hx
    rcases List.mem_cons.1 hx with rfl | hx
    · exact h.1.1
    · exact nodesOk_all h.2 x hx
/-- nodes rise: from the first one on there are no more than up to 5 -/
theorem nodesOk_len : ∀ {l : List Int} {y : Int}, nodesOk (y :: l) = true → (l.length : Int) + y ≤ 5
  | [], y, h => by
    simp only [nodesOk, Bool.and_eq_true, decide_eq_true_eq] at h
    simp only [List.length_nil]; omega
  | z :: l, y, h => by
    have h2 : nodesOk (z :: l) = true := by
      rw [nodesOk] at h
      simp only [Bool.and_eq_true] at h
      exact h.2
    have h3 : y < z := by
      rw [nodesOk] at h
      simp only [Bool.and_eq_true, decide_eq_true_eq] at h
      exact h.1.2
    have := nodesOk_len h2
    simp only [List.length_cons]; omega
theorem nodesOk_few {l : List Int} (h : nodesOk l = true) : l.length ≤ 6 := by
  rcases l with _ | ⟨y, l⟩
  · simp
  · have h1 := nodesOk_len h
    have h2 := (nodesOk_all h y (by simp)).1
    simp only [List.length_cons]; omega
theorem keyOk_iff {k : List Int} : keyOk k = true ↔ (∀ v ∈ k, 0 ≤ v ∧ v ≤ 9999) ∧ k.length ≤ 4 := by
  unfold keyOk
  simp only [Bool.and_eq_true, List.all_eq_true, decide_eq_true_eq]
theorem factsOk_iff {l : List PFact} : factsOk l = true ↔ (∀ f ∈ l, keyOk f.1 = true) ∧ l.length ≤ 200 := by
  unfold factsOk
  simp only [Bool.and_eq_true, List.all_eq_true, decide_eq_true_eq]
theorem spansOk_iff {l : List PSpan} : spansOk l = true ↔ (∀ s ∈ l, (0 ≤ s.1 ∧ s.1 ≤ 9999) ∧ 0 ≤ s.2 ∧ s.2 ≤ 5) ∧ l.length ≤ 40 := by
  unfold spansOk
  simp only [Bool.and_eq_true, List.all_eq_true, decide_eq_true_eq]
theorem entsUp_all : ∀ {l : List PEnt}, entsUp l = true → ∀ e ∈ l, factsOk e.2 = true
  | [], _ => by simp
  | y :: l, h => by
    simp only [entsUp, Bool.and_eq_true] at h
    intro x hx
    rcases List.mem_cons.1 hx with rfl | hx
    · exact h.1.1
    · exact entsUp_all h.2 x hx
theorem entsOk_iff {l : List PEnt} (h : entsOk l = true) : (∀ e ∈ l, factsOk e.2 = true) ∧ l.length ≤ 5000 := by
  unfold entsOk at h
  simp only [Bool.and_eq_true, decide_eq_true_eq] at h
  exact ⟨entsUp_all h.1, h.2⟩

/-! ### back -/
theorem rdNodes_back : Back rdNodes nodesB (fun l => nodesOk l = true) := fun l h r => by
  have hf := nodesOk_few h
  unfold rdNodes nodesB
  rw [List.append_assoc, rdMany_put (e := (putI · 1)) l (by omega) (fun x => by rw [putI_len]; omega) (by rw [pow1]; omega) (by omega)]
  exact rdTimes_back rd1_back l (fun x hx => by have := nodesOk_all h x hx; omega) r
theorem rdFact_back : Back rdFact factB (fun f => keyOk f.1 = true ∧ I64 f.2) := fun f h r => by
  obtain ⟨k, v⟩ := f
  obtain ⟨hk, hv⟩ := h
  obtain ⟨h1, h2⟩ := keyOk_iff.1 hk
  have e : factB (k, v) ++ r = putI k.length 1 ++ (k.flatMap (putI · 4) ++ (putI v 8 ++ r)) := by simp [factB, List.append_assoc]
  have h2' : k.length ≤ 4 := h2
  unfold rdFact
  rw [e, rdMany_put (e := (putI · 4)) k (by omega) (fun x => by rw [putI_len]; omega) (by rw [pow1]; omega) (by omega)]
  simp only
  rw [rdTimes_back rd4_back k (fun x hx => by have := h1 x hx; unfold U32; omega)]
  simp only
  unfold putI
  rw [rdGet_putB]
  simp only
  rw [asI64_back hv]
theorem factB_least (f : PFact) : 9 ≤ (factB f).length := by
  unfold factB
  rw [List.length_append, List.length_append, putI_len, putI_len]; omega
theorem rdFacts_back : Back rdFacts factsB (fun l => factsOk l = true ∧ ∀ f ∈ l, I64 f.2) := fun l h r => by
  obtain ⟨h1, h2⟩ := factsOk_iff.1 h.1
  unfold rdFacts factsB
  rw [List.append_assoc, rdMany_put (e := factB) l (by omega) factB_least (by rw [pow4]; omega) (by omega)]
  exact rdWhile_back rdFact_back l (fun f hf => ⟨h1 f hf, h.2 f hf⟩) r
theorem rdEnt_back : Back rdEnt entB (fun e => U32 e.1 ∧ factsOk e.2 = true ∧ ∀ f ∈ e.2, I64 f.2) := fun e h r => by
  obtain ⟨a, l⟩ := e
  unfold rdEnt entB
  rw [List.append_assoc, rd4_back a h.1]
  simp only
  rw [rdFacts_back l h.2]
theorem entB_least (e : PEnt) : 8 ≤ (entB e).length := by
  unfold entB factsB
  rw [List.length_append, List.length_append, putI_len, putI_len]; omega
theorem rdEnts_back : Back rdEnts entsB (fun l => entsOk l = true ∧ ∀ e ∈ l, U32 e.1 ∧ ∀ f ∈ e.2, I64 f.2) := fun l h r => by
  obtain ⟨h1, h2⟩ := entsOk_iff h.1
  unfold rdEnts entsB
  rw [List.append_assoc, rdMany_put (e := entB) l (by omega) entB_least (by rw [pow4]; omega) (by omega)]
  exact rdWhile_back rdEnt_back l (fun e he => ⟨(h.2 e he).1, h1 e he, (h.2 e he).2⟩) r
theorem rdSpan_back : Back rdSpan spanB (fun s => (0 ≤ s.1 ∧ s.1 ≤ 9999) ∧ 0 ≤ s.2 ∧ s.2 ≤ 5) := fun s h r => by
  obtain ⟨a, b⟩ := s
  obtain ⟨h1, h2⟩ := h
  have h1' : 0 ≤ a ∧ a ≤ 9999 := h1
  have h2' : 0 ≤ b ∧ b ≤ 5 := h2
  unfold rdSpan spanB
  rw [List.append_assoc, rd4_back a (by unfold U32; omega)]
  simp only
  rw [rd1_back b (by omega)]
theorem spanB_len (s : PSpan) : (spanB s).length = 5 := by
  unfold spanB
  rw [List.length_append, putI_len, putI_len]
theorem rdSpans_put (l : List PSpan) (h : spansOk l = true) (r : List UInt8) : rdSpans (putI l.length 1 ++ (l.flatMap spanB ++ r), false) = (l, (r, false)) := by
  obtain ⟨h1, h2⟩ := spansOk_iff.1 h
  unfold rdSpans
  rw [rdMany_put (e := spanB) l (by omega) (fun s => by rw [spanB_len]; omega) (by rw [pow1]; omega) (by omega)]
  exact rdTimes_back rdSpan_back l h1 r

/-- the chapter's reader of a record -/
def rdRec (s : Rd) : PRec × Rd :=
  let k := rdInt 1 s
  let i := rdInt 4 k.2
  if k.1 = 1 then let n := rdNodes i.2; let f := rdFacts n.2; (⟨k.1, i.1, 0, n.1, f.1, 0, [], 0, 0, []⟩, f.2)
  else if k.1 = 2 then let a := rdInt 4 i.2; let n := rdNodes a.2; (⟨k.1, i.1, a.1, n.1, [], 0, [], 0, 0, []⟩, n.2)
  else if k.1 = 6 then let e := rdInt 4 i.2; let l := rdSpans e.2; (⟨k.1, i.1, 0, [], [], e.1, l.1, 0, 0, []⟩, l.2)
  else if k.1 = 7 then let f := rdInt 4 i.2; let t := rdInt 4 f.2; let e := rdEnts t.2; (⟨k.1, i.1, 0, [], [], 0, [], f.1, t.1, e.1⟩, e.2)
  else (⟨k.1, i.1, 0, [], [], 0, [], 0, 0, []⟩, i.2)

theorem rdRec_back (x : PRec) (h : sndRec x = true) (ht : Typed x) (r : List UInt8) : rdRec (recB x ++ r, false) = (x, (r, false)) := by
  obtain ⟨kind, id, at_, nodes, facts, epoch, spans, frm, to, ents⟩ := x
  have hk := ht.kind
  have hid := ht.id
  have hat := ht.at_
  have hep := ht.epoch
  have hfa := ht.facts
  have hen := ht.ents
  simp only at hk hid hat hep hfa hen
  unfold recB rdRec
  simp only [List.append_assoc]
  rw [rd1_back kind hk]
  simp only
  rw [rd4_back id hid]
  simp only
  simp only [sndRec, bareI, bareA, bareN, bareF, bareM, bareR] at h
  unfold bodyB
  simp only
  by_cases k1 : kind = 1
  · subst k1
    simp only [if_true, Bool.and_eq_true, decide_eq_true_eq, List.length_eq_zero_iff] at h ⊢
    obtain ⟨⟨rfl, ⟨rfl, rfl⟩, rfl, rfl, rfl⟩, hn, hf⟩ := h
    rw [List.append_assoc, rdNodes_back nodes hn]
    simp only
    rw [rdFacts_back facts ⟨hf, hfa⟩]
  rw [if_neg k1] at h
  rw [if_neg k1, if_neg k1]
  by_cases k2 : kind = 2
  · subst k2
    simp only [if_true, Bool.and_eq_true, decide_eq_true_eq, List.length_eq_zero_iff] at h ⊢
    obtain ⟨⟨rfl, ⟨rfl, rfl⟩, rfl, rfl, rfl⟩, hn⟩ := h
    rw [List.append_assoc, rd4_back at_ hat]
    simp only
    rw [rdNodes_back nodes hn]
  rw [if_neg k2] at h
  rw [if_neg k2, if_neg k2]
  by_cases k3 : kind = 3 ∨ kind = 4 ∨ kind = 5
  · rw [if_pos k3] at h
    rw [if_neg (by omega), if_neg (by omega), if_neg (by omega), if_neg (by omega)]
    simp only [Bool.and_eq_true, decide_eq_true_eq, List.length_eq_zero_iff] at h
    obtain ⟨rfl, rfl, rfl, ⟨rfl, rfl⟩, rfl, rfl, rfl⟩ := h
    rw [List.nil_append]
  rw [if_neg k3] at h
  by_cases k6 : kind = 6
  · subst k6
    simp only [if_true, Bool.and_eq_true, decide_eq_true_eq, List.length_eq_zero_iff] at h ⊢
    obtain ⟨⟨rfl, rfl, rfl, rfl, rfl, rfl, rfl⟩, hs⟩ := h
    unfold mapB
    rw [List.append_assoc, List.append_assoc, rd4_back epoch hep]
    simp only
    rw [rdSpans_put spans hs]
  rw [if_neg k6] at h
  rw [if_neg k6, if_neg k6]
  by_cases k7 : kind = 7
  · subst k7
    simp only [if_true, Bool.and_eq_true, decide_eq_true_eq, List.length_eq_zero_iff] at h ⊢
    obtain ⟨⟨rfl, rfl, rfl, rfl, rfl⟩, he, hf, ho⟩ := h
    rw [List.append_assoc, List.append_assoc, rd4_back frm (by unfold U32; omega)]
    simp only
    rw [rd4_back to (by unfold U32; omega)]
    simp only
    rw [rdEnts_back ents ⟨he, hen⟩]
  rw [if_neg k7] at h
  cases h

/-- each record has one way to be written -/
theorem recB_inj {x y : PRec} (hx : sndRec x = true) (tx : Typed x) (hy : sndRec y = true) (ty : Typed y) (e : recB x = recB y) : x = y := by
  have h1 := rdRec_back x hx tx []
  have h2 := rdRec_back y hy ty []
  rw [e, h2] at h1
  exact (congrArg Prod.fst h1).symm
/-- with bytes more behind it is none -/
theorem recB_more {x y : PRec} {c : List UInt8} (hx : sndRec x = true) (tx : Typed x) (hy : sndRec y = true) (ty : Typed y) (e : recB x ++ c = recB y) : c = [] := by
  have h1 := rdRec_back x hx tx c
  have h2 := rdRec_back y hy ty []
  rw [List.append_nil, ← e, h1] at h2
  exact congrArg (fun p => p.2.1) h2
end Go.Proofs.Ytlokamblbhooaaa.code
