/-
  A box that is cut in two by one place: each key of it is in one part, and in no more.
-/
import Derived.Test.YthbjfbkjbggkbaaDiceTab
namespace Go.Proofs.Ythbjfbkjbggkbaa.dice
open Go.ChangeShapes Go.WideShapes Go.ChangeAt Go.RowKit Go.Deep
open Go.Proofs.Ythbjfbkjbggkbaa.dims
open Go.Proofs.Ythbjfbkjbggkbaa.table (Rw rwn plain PRow)
set_option linter.unusedVariables false
set_option maxRecDepth 100000

theorem nth_cons_zero (x : Int) (l : List Int) : nth (x :: l) 0 = x := rfl
theorem nth_cons_drop (x : Int) (l : List Int) {i : Nat} (hi : 0 < i) : nth (x :: l.drop 1) i = nth l i := by
  obtain ⟨j, rfl⟩ : ∃ j, i = j + 1 := ⟨i - 1, by omega⟩
  simp [nth]
theorem cut_places {n : Nat} {lo up x : List Int} {K : Int} (h1 : lo.length = n) (h2 : up.length = n) (hn : 1 ≤ n) (hK1 : nth lo 0 ≤ K) (hK2 : K ≤ nth up 0) :
    (wtn lo (K :: up.drop 1) x = false ∧ wtn (K :: lo.drop 1) up x = false ∧ wtn lo up x = false) ∨ (wtn lo (K :: up.drop 1) x = true ∧ wtn (K :: lo.drop 1) up x = false ∧ wtn lo up x = true) ∨ (wtn lo (K :: up.drop 1) x = false ∧ wtn (K :: lo.drop 1) up x = true ∧ wtn lo up x = true) := by
  have l1 : (K :: up.drop 1).length = n := by simp; omega
  have l2 : (K :: lo.drop 1).length = n := by simp; omega
  have key : ∀ b : Bool, ¬ b = true → b = false := fun b h => by cases b <;> simp_all
  by_cases hx : x.length = n
  · have a1 : wtn lo (K :: up.drop 1) x = true ↔ (nth x 0 < K ∧ ∀ i, i < n → nth lo i ≤ nth x i ∧ (0 < i → nth x i < nth up i)) := by
      rw [wtn_iff]
      constructor
      · rintro ⟨_, _, h⟩
        refine ⟨by have := (h 0 (by omega)).2; rwa [nth_cons_zero] at this, fun i hi => ⟨(h i (by omega)).1, fun h0 => ?_⟩⟩
        have := (h i (by omega)).2
        rwa [nth_cons_drop _ _ h0] at this
      · rintro ⟨h0, h⟩
        refine ⟨by omega, by omega, fun i hi => ⟨(h i (by omega)).1, ?_⟩⟩
        by_cases e : i = 0
        · subst e; rw [nth_cons_zero]; exact h0
        · rw [nth_cons_drop _ _ (by omega)]; exact (h i (by omega)).2 (by omega)
    have a2 : wtn (K :: lo.drop 1) up x = true ↔ (K ≤ nth x 0 ∧ ∀ i, i < n → nth x i < nth up i ∧ (0 < i → nth lo i ≤ nth x i)) := by
      rw [wtn_iff]
      constructor
      · rintro ⟨_, _, h⟩
        refine ⟨by have := (h 0 (by omega)).1; rwa [nth_cons_zero] at this, fun i hi => ⟨(h i (by omega)).2, fun h0 => ?_⟩⟩
        have := (h i (by omega)).1
        rwa [nth_cons_drop _ _ h0] at this
      · rintro ⟨h0, h⟩
        refine ⟨by omega, by omega, fun i hi => ⟨?_, (h i (by omega)).1⟩⟩
        by_cases e : i = 0
        · subst e; rw [nth_cons_zero]; exact h0
        · rw [nth_cons_drop _ _ (by omega)]; exact (h i (by omega)).2 (by omega)
    have a3 : wtn lo up x = true ↔ ∀ i, i < n → nth lo i ≤ nth x i ∧ nth x i < nth up i := by
      rw [wtn_iff]
      exact ⟨fun h i hi => h.2.2 i (by omega), fun h => ⟨by omega, by omega, fun i hi => h i (by omega)⟩⟩
    by_cases hs : nth x 0 < K
    · have f2 : wtn (K :: lo.drop 1) up x = false := key _ fun h => by have := (a2.1 h).1; omega
      by_cases h : wtn lo up x = true
      · have h3 := a3.1 h
        exact .inr (.inl ⟨a1.2 ⟨hs, fun i hi => ⟨(h3 i hi).1, fun _ => (h3 i hi).2⟩⟩, f2, h⟩)
      · refine .inl ⟨key _ fun h1 => h (a3.2 fun i hi => ?_), f2, key _ h⟩
        obtain ⟨p0, p⟩ := a1.1 h1
        refine ⟨(p i hi).1, ?_⟩
        by_cases e : i = 0
        · subst e; omega
        · exact (p i hi).2 (by omega)
    · have f1 : wtn lo (K :: up.drop 1) x = false := key _ fun h => hs (a1.1 h).1
      by_cases h : wtn lo up x = true
      · have h3 := a3.1 h
        exact .inr (.inr ⟨f1, a2.2 ⟨by omega, fun i hi => ⟨(h3 i hi).2, fun _ => (h3 i hi).1⟩⟩, h⟩)
      · refine .inl ⟨f1, key _ fun h1 => h (a3.2 fun i hi => ?_), key _ h⟩
        obtain ⟨p0, p⟩ := a2.1 h1
        refine ⟨?_, (p i hi).1⟩
        by_cases e : i = 0
        · subst e; omega
        · exact (p i hi).2 (by omega)
  · exact .inl ⟨wtn_len (by omega), wtn_len (by omega), wtn_len (by omega)⟩

theorem cut_parts {n : Nat} {lo up : List Int} {K : Int} (h1 : lo.length = n) (h2 : up.length = n) (hn : 1 ≤ n) (hK1 : nth lo 0 ≤ K) (hK2 : K ≤ nth up 0) (rs : List Rw) :
    (cutR (wtn lo (K :: up.drop 1)) rs).length + (cutR (wtn (K :: lo.drop 1) up) rs).length = (cutR (wtn lo up) rs).length := by
  unfold cutR
  simp only [List.length_map]
  induction rs with
  | nil => rfl
  | cons r l ih =>
    rcases cut_places (x := r.k) h1 h2 hn hK1 hK2 with ⟨a, b, c⟩ | ⟨a, b, c⟩ | ⟨a, b, c⟩
    · simp only [List.filter_cons, a, b, c, Bool.false_eq_true, if_false]; exact ih
    · simp only [List.filter_cons, a, b, c, if_true, Bool.false_eq_true, if_false, List.length_cons]; omega
    · simp only [List.filter_cons, a, b, c, if_true, Bool.false_eq_true, if_false, List.length_cons]; omega

/-- the place that a choice makes -/
theorem mid_place {x y v : Int} (hxy : x < y) (hv : 0 ≤ v) : x ≤ x + v % (y - x + 1) ∧ x + v % (y - x + 1) ≤ y := by
  have h1 := Int.emod_nonneg v (by omega : y - x + 1 ≠ 0)
  have h2 := Int.emod_lt_of_pos v (by omega : 0 < y - x + 1)
  omega
end Go.Proofs.Ythbjfbkjbggkbaa.dice
