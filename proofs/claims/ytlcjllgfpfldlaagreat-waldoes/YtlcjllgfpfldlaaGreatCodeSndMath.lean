/-
 What may be, place by place: plain.
-/
import Derived.Test.YtlcjllgfpfldlaaGreatWalZ18K
import Derived.Test.YtlcjllgfpfldlaaGreatDimsMath
set_option linter.unusedVariables false
set_option maxRecDepth 100000
namespace Go.Proofs.YtlcjllgfpfldlaaGreat
namespace code
open dims (nth)
def ndGood (l : List Int) (i : Nat) : Prop := (0 ≤ nth l i ∧ nth l i ≤ 5) ∧ (0 < i → nth l (i - 1) < nth l i)
theorem nth_cons_succ (x : Int) (l : List Int) (i : Nat) : nth (x :: l) (i + 1) = nth l i := by simp [nth]
theorem nth_cons_zero (x : Int) (l : List Int) : nth (x :: l) 0 = x := by simp [nth]
theorem nodesOk_cons (x : Int) (l : List Int) : nodesOk (x :: l) = true ↔ (0 ≤ x ∧ x ≤ 5) ∧ (0 < l.length → x < nth l 0) ∧ nodesOk l = true := by
 cases l with
 | nil => simp [nodesOk]
 | cons y l =>
  rw [nodesOk]
  simp only [Bool.and_eq_true, decide_eq_true_eq, nth_cons_zero, List.length_cons]
  constructor
  ·rintro ⟨⟨h1, h2⟩, h3⟩; exact ⟨h1, fun _ => h2, h3⟩
  ·rintro ⟨h1, h2, h3⟩; exact ⟨⟨h1, h2 (by omega)⟩, h3⟩
theorem nodesOk_iff : ∀ l : List Int, nodesOk l = true ↔ ∀ i, i < l.length → ndGood l i
 | [] => by simp [nodesOk]
 | x :: l => by
  rw [nodesOk_cons, nodesOk_iff l]
  constructor
  ·rintro ⟨h1, h2, h3⟩ i hi
   cases i with
   | zero => unfold ndGood; rw [nth_cons_zero]; exact ⟨h1, fun h => by omega⟩
   | succ i =>
    simp only [List.length_cons] at hi
    have h := h3 i (by omega)
    unfold ndGood at h ⊢
    rw [nth_cons_succ]
    refine ⟨h.1, fun _ => ?_⟩
    rw [Nat.add_sub_cancel]
    cases i with
    | zero => rw [nth_cons_zero]; exact h2 (by omega)
    | succ j => rw [nth_cons_succ]; exact h.2 (by omega)
  ·intro h
   refine ⟨?_, fun hl => ?_, fun i hi => ?_⟩
   ·have := (h 0 (by simp)).1; rwa [nth_cons_zero] at this
   ·have := (h 1 (by simp; omega)).2 (by omega)
    simpa [nth_cons_succ, nth_cons_zero] using this
   ·have h1 := h (i + 1) (by simp; omega)
    unfold ndGood at h1 ⊢
    rw [nth_cons_succ] at h1
    refine ⟨h1.1, fun hi0 => ?_⟩
    have h2 := h1.2 (by omega)
    rw [Nat.add_sub_cancel] at h2
    obtain ⟨j, rfl⟩ : ∃ j, i = j + 1 := ⟨i - 1, by omega⟩
    rw [nth_cons_succ] at h2
    simpa using h2
theorem nodesOk_not {l : List Int} {i : Nat} (hi : i < l.length) (h : ¬ ndGood l i) : nodesOk l = false := by
 cases e : nodesOk l with
 | false => rfl
 | true => exact absurd ((nodesOk_iff l).1 e i hi) h

def pen (l : List PEnt) (i : Nat) : PEnt := l.getD i (0, [])
def enGood (l : List PEnt) (i : Nat) : Prop := factsOk (pen l i).2 = true ∧ (0 < i → (pen l (i - 1)).1 < (pen l i).1)
theorem pen_cons_succ (x : PEnt) (l : List PEnt) (i : Nat) : pen (x :: l) (i + 1) = pen l i := by simp [pen]
theorem pen_cons_zero (x : PEnt) (l : List PEnt) : pen (x :: l) 0 = x := by simp [pen]
theorem entsUp_cons (x : PEnt) (l : List PEnt) : entsUp (x :: l) = true ↔ factsOk x.2 = true ∧ (0 < l.length → x.1 < (pen l 0).1) ∧ entsUp l = true := by
 cases l with
 | nil => simp [entsUp]
 | cons y l =>
  rw [entsUp]
  simp only [Bool.and_eq_true, decide_eq_true_eq, pen_cons_zero, List.length_cons]
  constructor
  ·rintro ⟨⟨h1, h2⟩, h3⟩; exact ⟨h1, fun _ => h2, h3⟩
  ·rintro ⟨h1, h2, h3⟩; exact ⟨⟨h1, h2 (by omega)⟩, h3⟩
theorem entsUp_iff : ∀ l : List PEnt, entsUp l = true ↔ ∀ i, i < l.length → enGood l i
 | [] => by simp [entsUp]
 | x :: l => by
  rw [entsUp_cons, entsUp_iff l]
  constructor
  ·rintro ⟨h1, h2, h3⟩ i hi
   cases i with
   | zero => unfold enGood; rw [pen_cons_zero]; exact ⟨h1, fun h => by omega⟩
   | succ i =>
    simp only [List.length_cons] at hi
    have h := h3 i (by omega)
    unfold enGood at h ⊢
    rw [pen_cons_succ]
    refine ⟨h.1, fun _ => ?_⟩
    rw [Nat.add_sub_cancel]
    cases i with
    | zero => rw [pen_cons_zero]; exact h2 (by omega)
    | succ j => rw [pen_cons_succ]; exact h.2 (by omega)
  ·intro h
   refine ⟨?_, fun hl => ?_, fun i hi => ?_⟩
   ·have := (h 0 (by simp)).1; rwa [pen_cons_zero] at this
   ·have := (h 1 (by simp; omega)).2 (by omega)
    simpa [pen_cons_succ, pen_cons_zero] using this
   ·have h1 := h (i + 1) (by simp; omega)
    unfold enGood at h1 ⊢
    rw [pen_cons_succ] at h1
    refine ⟨h1.1, fun hi0 => ?_⟩
    have h2 := h1.2 (by omega)
    rw [Nat.add_sub_cancel] at h2
    obtain ⟨j, rfl⟩ : ∃ j, i = j + 1 := ⟨i - 1, by omega⟩
    rw [pen_cons_succ] at h2
    simpa using h2
theorem entsOk_not {l : List PEnt} {i : Nat} (hi : i < l.length) (h : ¬ enGood l i) : entsOk l = false := by
 unfold entsOk
 cases e : entsUp l with
 | false => rfl
 | true => exact absurd ((entsUp_iff l).1 e i hi) h
theorem entsOk_all {l : List PEnt} (hl : l.length ≤ 5000) (h : ∀ i, i < l.length → enGood l i) : entsOk l = true := by
 unfold entsOk
 rw [(entsUp_iff l).2 h]; simpa using hl
theorem entsOk_long {l : List PEnt} (hl : ¬ l.length ≤ 5000) : entsOk l = false := by
 unfold entsOk; simp; intro _; omega
theorem keyOk_at {k : List Int} (hl : k.length ≤ 4) (h : ∀ i, i < k.length → 0 ≤ nth k i ∧ nth k i ≤ 9999) : keyOk k = true := keyOk_iff.2 ⟨fun v hv => by
 obtain ⟨i, hi, rfl⟩ := List.mem_iff_getElem.1 hv
 have := h i hi
 simpa [nth, hi] using this, hl⟩
theorem keyOk_not {k : List Int} {i : Nat} (hi : i < k.length) (h : ¬ (0 ≤ nth k i ∧ nth k i ≤ 9999)) : keyOk k = false := by
 cases e : keyOk k with
 | false => rfl
 | true => exact absurd ((keyOk_iff.1 e).1 (nth k i) (by simp [nth, hi])) h
theorem keyOk_long {k : List Int} (hl : ¬ k.length ≤ 4) : keyOk k = false := by
 cases e : keyOk k with
 | false => rfl
 | true => exact absurd (keyOk_iff.1 e).2 hl
theorem factsOk_all {l : List PFact} (hl : l.length ≤ 200) (h : ∀ i (hi : i < l.length), keyOk (l[i]).1 = true) : factsOk l = true := factsOk_iff.2 ⟨fun v hv => by
 obtain ⟨i, hi, rfl⟩ := List.mem_iff_getElem.1 hv
 exact h i hi, hl⟩
theorem factsOk_not {l : List PFact} {f : PFact} (hi : f ∈ l) (h : keyOk f.1 = false) : factsOk l = false := by
 cases e : factsOk l with
 | false => rfl
 | true => have := (factsOk_iff.1 e).1 f hi; rw [h] at this; cases this
theorem factsOk_long {k : List PFact} (hl : ¬ k.length ≤ 200) : factsOk k = false := by
 cases e : factsOk k with
 | false => rfl
 | true => exact absurd (factsOk_iff.1 e).2 hl
theorem spansOk_all {l : List PSpan} (hl : l.length ≤ 40) (h : ∀ i (hi : i < l.length), (0 ≤ (l[i]).1 ∧ (l[i]).1 ≤ 9999) ∧ 0 ≤ (l[i]).2 ∧ (l[i]).2 ≤ 5) : spansOk l = true := spansOk_iff.2 ⟨fun v hv => by
 obtain ⟨i, hi, rfl⟩ := List.mem_iff_getElem.1 hv
 exact h i hi, hl⟩
theorem spansOk_not {l : List PSpan} {f : PSpan} (hi : f ∈ l) (h : ¬ ((0 ≤ f.1 ∧ f.1 ≤ 9999) ∧ 0 ≤ f.2 ∧ f.2 ≤ 5)) : spansOk l = false := by
 cases e : spansOk l with
 | false => rfl
 | true => exact absurd ((spansOk_iff.1 e).1 f hi) h
theorem spansOk_long {k : List PSpan} (hl : ¬ k.length ≤ 40) : spansOk k = false := by
 cases e : spansOk k with
 | false => rfl
 | true => exact absurd (spansOk_iff.1 e).2 hl
end code
end Go.Proofs.YtlcjllgfpfldlaaGreat
