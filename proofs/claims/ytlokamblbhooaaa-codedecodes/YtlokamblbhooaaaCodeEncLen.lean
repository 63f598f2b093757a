/-
  A record that may be and weighs little has few bytes: plain.
-/
import Derived.Test.YtlokamblbhooaaaCodeHeavy
namespace Go.Proofs.Ytlokamblbhooaaa.code
open Go.ChangeShapes Go.WideShapes Go.ChangeAt Go.RowKit Go.Deep
open Go.Proofs.Ytlokamblbhooaaa.dims (nth Ints)
set_option linter.unusedVariables false
set_option maxRecDepth 100000
set_option linter.unusedSimpArgs false

theorem fw_pos (l : List Ft) : 0 ≤ fw l := by
  induction l with
  | nil => simp [fw]
  | cons x l ih => simp only [fw]; omega
theorem ew_pos (l : List Et) : 0 ≤ ew l := by
  induction l with
  | nil => simp [ew]
  | cons x l ih => have := fw_pos x.fs; simp only [ew]; omega
theorem flatF_weight (l : List Ft) : ((l.flatMap (fun f => factB (pf f))).length : Int) ≤ 9 * fw l := by
  induction l with
  | nil => simp [fw]
  | cons x l ih =>
    rw [List.flatMap_cons, List.length_append, factB_len]
    have e : (pf x).1.length = x.k.length := rfl
    simp only [fw]
    omega
theorem factsB_weight (l : List Ft) : ((factsB (l.map pf)).length : Int) ≤ 4 + 9 * fw l := by
  unfold factsB
  rw [flatF_map, List.length_append, putI_len]
  have := flatF_weight l
  omega
theorem entsB_weight (l : List Et) : ((entsB (l.map pe)).length : Int) ≤ 4 + 9 * ew l := by
  unfold entsB
  rw [flatE_map, List.length_append, putI_len]
  suffices h : ((l.flatMap (fun e => entB (pe e))).length : Int) ≤ 9 * ew l by omega
  induction l with
  | nil => simp [ew]
  | cons x l ih =>
    rw [List.flatMap_cons, List.length_append]
    have e2 : (entB (pe x)).length = 4 + (factsB (x.fs.map pf)).length := by unfold entB; rw [List.length_append, putI_len]; rfl
    have := factsB_weight x.fs
    simp only [ew]
    omega
theorem fw_few {l : List Ft} (h : factsOk (l.map pf) = true) : fw l ≤ 5 * (l.length : Int) := by
  have h2 : ∀ f ∈ l, f.k.length ≤ 4 := fun f hf => (keyOk_iff.1 ((factsOk_iff.1 h).1 (pf f) (List.mem_map.2 ⟨f, hf, rfl⟩))).2
  clear h
  induction l with
  | nil => simp [fw]
  | cons x l ih =>
    have h3 := h2 x (by simp)
    have h4 := ih fun f hf => h2 f (by simp [hf])
    simp only [fw, List.length_cons]
    omega
theorem fw_ok {l : List Ft} (h : factsOk (l.map pf) = true) : fw l ≤ 1000 := by
  have h1 := fw_few h
  have h2 := (factsOk_iff.1 h).2
  rw [List.length_map] at h2
  omega
theorem ew_ok {l : List Et} (h : entsOk (l.map pe) = true) : ew l ≤ 5005000 := by
  have h2 : ∀ e ∈ l, fw e.fs ≤ 1000 := fun e he => fw_ok ((entsOk_iff h).1 (pe e) (List.mem_map.2 ⟨e, he, rfl⟩))
  have h3 : ew l ≤ 1001 * (l.length : Int) := by
    clear h
    induction l with
    | nil => simp [ew]
    | cons x l ih =>
      have h3 := h2 x (by simp)
      have h4 := ih fun f hf => h2 f (by simp [hf])
      simp only [ew, List.length_cons]
      omega
  have h4 := (entsOk_iff h).2
  rw [List.length_map] at h4
  omega
/-- of a record that may be: its parts' sizes -/
theorem snd_parts (r : Rc) (h : sndRec (pr r) = true) : r.nodes.length ≤ 6 ∧ r.spans.length ≤ 40 ∧ factsOk (r.facts.map pf) = true ∧ entsOk (r.ents.map pe) = true := by
  by_cases hk : 1 ≤ r.kind ∧ r.kind ≤ 7
  rotate_left
  · have : sndRec (pr r) = false := by
      dsimp only [sndRec, pr]
      rw [if_neg (by omega), if_neg (by omega), if_neg (by omega), if_neg (by omega), if_neg (by omega)]
    rw [this] at h; cases h
  rw [snd_code r hk] at h
  simp only [Bool.and_eq_true] at h
  exact ⟨nodesOk_few h.2.1, (spansOk_iff.1 h.2.2.2.1).2, h.2.2.1, h.2.2.2.2.1⟩
theorem snd_weight (r : Rc) (h : sndRec (pr r) = true) : 0 ≤ rw_ r ∧ rw_ r ≤ 6000000 := by
  obtain ⟨h1, h2, h3, h4⟩ := snd_parts r h
  have a1 := fw_ok h3
  have a2 := ew_ok h4
  have a3 := fw_pos r.facts
  have a4 := ew_pos r.ents
  unfold rw_
  omega
theorem rec_weight (r : Rc) : ((recB (pr r)).length : Int) ≤ 40 + 9 * rw_ r := by
  have a1 := factsB_weight r.facts
  have a2 := entsB_weight r.ents
  have a3 := fw_pos r.facts
  have a4 := ew_pos r.ents
  have a5 := nodesB_len r.nodes
  have a6 := spansB_len r.spans
  have e1 : (pr r).nodes = r.nodes := rfl
  have e2 : (pr r).facts = r.facts.map pf := rfl
  have e3 : (pr r).spans = r.spans := rfl
  have e4 : (pr r).ents = r.ents.map pe := rfl
  unfold recB bodyB rw_
  rw [List.length_append, List.length_append, putI_len, putI_len, e1, e2, e3, e4]
  split
  · rw [List.length_append]; omega
  split
  · rw [List.length_append, putI_len]; omega
  split
  · unfold mapB
    rw [List.length_append, List.length_append, putI_len, putI_len]; omega
  split
  · rw [List.length_append, List.length_append, putI_len, putI_len]; omega
  · simp only [List.length_nil]; omega
theorem snd_small (r : Rc) (h : sndRec (pr r) = true) : (recB (pr r)).length ≤ 100000000 := by
  have h1 := snd_weight r h
  have h2 := rec_weight r
  omega
theorem snd_ents (r : Rc) (h : sndRec (pr r) = true) : ∀ e ∈ r.ents, e.fs.length ≤ 100000000 := fun e he => by
  have h1 := (factsOk_iff.1 ((entsOk_iff (snd_parts r h).2.2.2).1 (pe e) (List.mem_map.2 ⟨e, he, rfl⟩))).2
  have e2 : (pe e).2 = e.fs.map pf := rfl
  rw [e2, List.length_map] at h1
  omega
/-- what the statements look at has few bytes, if it may be -/
theorem snd_looked (r : Rc) (h : sndRec (pr r) = true) (hw : wrap64 (rw_ r) ≤ 3000) : (recB (pr r)).length ≤ 60000 := by
  have h1 := snd_weight r h
  have h2 := rec_weight r
  have e : wrap64 (rw_ r) = rw_ r := by unfold wrap64; omega
  rw [e] at hw
  omega
end Go.Proofs.Ytlokamblbhooaaa.code
