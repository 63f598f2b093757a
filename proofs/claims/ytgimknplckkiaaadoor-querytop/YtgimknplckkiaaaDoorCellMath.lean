/-
  The plain mathematics of cells: four numbers, merged; what a list of numbers comes to. Nothing of the program.
-/
import Derived.RowKit
namespace Go.Proofs.YtgimknplckkiaaaDoor.cell
open Go.RowKit

structure C4 where
  n : Int
  s : Int
  lo : Int
  hi : Int

def zero : C4 := ⟨0, 0, 0, 0⟩
def one (v : Int) : C4 := ⟨1, v, v, v⟩
def mrg (a b : C4) : C4 :=
  if a.n = 0 then b else if b.n = 0 then a else ⟨wrap64 (a.n + b.n), wrap64 (a.s + b.s), min a.lo b.lo, max a.hi b.hi⟩
def allOn : C4 → List Int → C4
  | c, [] => c
  | c, v :: l => allOn (mrg c (one v)) l
def all (l : List Int) : C4 := allOn zero l
def sound (c : C4) : Bool :=
  if c.n = 0 then decide (c.s = 0 ∧ c.lo = 0 ∧ c.hi = 0)
  else if c.n = 1 then decide (c.lo = c.s ∧ c.hi = c.s)
  else decide (0 < c.n ∧ c.lo ≤ c.hi)
def same (a b : C4) : Bool := decide (a.n = b.n ∧ a.s = b.s ∧ a.lo = b.lo ∧ a.hi = b.hi)

theorem wrap64_add_left (a b : Int) : wrap64 (wrap64 a + b) = wrap64 (a + b) := by unfold wrap64; omega
theorem wrap64_add_right (a b : Int) : wrap64 (a + wrap64 b) = wrap64 (a + b) := by unfold wrap64; omega
theorem wrap64_id (a : Int) (h : -9223372036854775808 ≤ a ∧ a ≤ 9223372036854775807) : wrap64 a = a := by unfold wrap64; omega
theorem wrap64_wrap64 (a : Int) : wrap64 (wrap64 a) = wrap64 a := by unfold wrap64; omega

/-- what numbers come to, told outright -/
def sums : List Int → Int
  | [] => 0
  | v :: l => v + sums l
def least : Int → List Int → Int
  | m, [] => m
  | m, v :: l => least (min m v) l
def most : Int → List Int → Int
  | m, [] => m
  | m, v :: l => most (max m v) l

theorem allOn_eq (l : List Int) (c : C4) (h0 : 0 < c.n) (h1 : c.n + l.length ≤ 9223372036854775807) (hs : wrap64 c.s = c.s) :
    allOn c l = ⟨c.n + l.length, wrap64 (c.s + sums l), least c.lo l, most c.hi l⟩ := by
  induction l generalizing c with
  | nil => simp [allOn, sums, least, most, hs]
  | cons v l ih =>
    have hl : ((v :: l).length : Int) = l.length + 1 := by simp
    have e : mrg c (one v) = ⟨c.n + 1, wrap64 (c.s + v), min c.lo v, max c.hi v⟩ := by
      unfold mrg one
      rw [if_neg (by omega), if_neg (by simp), wrap64_id (c.n + 1) (by omega)]
    simp only [allOn]
    rw [e, ih _ (by simp only; omega) (by simp only; omega) (wrap64_wrap64 _)]
    simp only [sums, least, most, wrap64_add_left, C4.mk.injEq, and_true]
    refine ⟨by omega, ?_⟩
    rw [show c.s + v + sums l = c.s + (v + sums l) by omega]

/-- within 64 bits -/
def In64 (v : Int) : Prop := -9223372036854775808 ≤ v ∧ v ≤ 9223372036854775807

theorem all_cons (v : Int) (l : List Int) (hv : In64 v) (h : (l.length : Int) ≤ 9223372036854775806) :
    all (v :: l) = ⟨1 + l.length, wrap64 (v + sums l), least v l, most v l⟩ := by
  unfold all
  simp only [allOn]
  have e : mrg zero (one v) = one v := by unfold mrg zero; simp
  rw [e, allOn_eq l (one v) (by simp [one]) (by simp only [one]; omega) (wrap64_id _ hv)]
  simp [one]

theorem sums_append (a b : List Int) : sums (a ++ b) = sums a + sums b := by
  induction a with
  | nil => simp [sums]
  | cons v a ih => simp only [List.cons_append, sums, ih]; omega
theorem least_append (m : Int) (a b : List Int) : least m (a ++ b) = least (least m a) b := by
  induction a generalizing m with
  | nil => rfl
  | cons v a ih => simp only [List.cons_append, least, ih]
theorem most_append (m : Int) (a b : List Int) : most m (a ++ b) = most (most m a) b := by
  induction a generalizing m with
  | nil => rfl
  | cons v a ih => simp only [List.cons_append, most, ih]
theorem least_min (m v : Int) (l : List Int) : least (min m v) l = min m (least v l) := by
  induction l generalizing m v with
  | nil => rfl
  | cons u l ih => simp only [least]; rw [← ih]; congr 1; omega
theorem most_max (m v : Int) (l : List Int) : most (max m v) l = max m (most v l) := by
  induction l generalizing m v with
  | nil => rfl
  | cons u l ih => simp only [most]; rw [← ih]; congr 1; omega
theorem least_le_most (v : Int) (l : List Int) : least v l ≤ v ∧ v ≤ most v l := by
  induction l generalizing v with
  | nil => simp [least, most]
  | cons u l ih =>
    simp only [least, most, least_min, most_max]
    have := ih u
    omega

/-- merged in parts it is the same -/
theorem mrg_all (a b : List Int) (ha : ∀ v ∈ a, In64 v) (hb : ∀ v ∈ b, In64 v) (h : (a.length : Int) + b.length ≤ 9223372036854775806) :
    mrg (all a) (all b) = all (a ++ b) := by
  rcases a with _ | ⟨v, a⟩
  · simp [mrg, all, allOn, zero]
  rcases b with _ | ⟨u, b⟩
  ·
    have hl : ((v :: a).length : Int) = a.length + 1 := by simp
    rw [List.append_nil, all_cons v a (ha v (by simp)) (by omega)]
    unfold mrg all
    rw [if_neg (by simp only; omega), if_pos (by simp [allOn, zero])]
  ·
    have hl : ((v :: a).length : Int) = a.length + 1 := by simp
    have hl2 : ((u :: b).length : Int) = b.length + 1 := by simp
    have hl3 : ((a ++ u :: b).length : Int) = a.length + b.length + 1 := by simp; omega
    rw [List.cons_append, all_cons v a (ha v (by simp)) (by omega), all_cons u b (hb u (by simp)) (by omega), all_cons v (a ++ u :: b) (ha v (by simp)) (by omega)]
    unfold mrg
    rw [if_neg (by simp only; omega), if_neg (by simp only; omega)]
    simp only [C4.mk.injEq, least_append, most_append, sums_append, sums, least, most, least_min, most_max, wrap64_add_left, wrap64_add_right, and_true]
    refine ⟨?_, ?_⟩
    · rw [wrap64_id _ (by omega)]; omega
    · congr 1; omega

theorem mrg_comm (a b : C4) (h : a.n = 0 → a = zero) (h' : b.n = 0 → b = zero) : mrg a b = mrg b a := by
  unfold mrg
  by_cases ha : a.n = 0 <;> by_cases hb : b.n = 0
  · rw [h ha, h' hb]
  · rw [if_pos ha, if_neg hb, if_pos ha]
  · rw [if_neg ha, if_pos hb, if_pos hb]
  · rw [if_neg ha, if_neg hb, if_neg hb, if_neg ha]
    simp only [C4.mk.injEq]
    refine ⟨by congr 1; omega, by congr 1; omega, by omega, by omega⟩

theorem all_zero (l : List Int) (hl : ∀ v ∈ l, In64 v) (h : (l.length : Int) ≤ 9223372036854775806) (h0 : (all l).n = 0) : all l = zero := by
  rcases l with _ | ⟨v, l⟩
  · rfl
  ·
    have e : ((v :: l).length : Int) = l.length + 1 := by simp
    rw [all_cons v l (hl v (by simp)) (by omega)] at h0
    simp only at h0
    omega

theorem mrg_zero (a : C4) : mrg zero a = a := by unfold mrg zero; simp
theorem zero_mrg (l : List Int) (hl : ∀ v ∈ l, In64 v) (h : (l.length : Int) ≤ 9223372036854775806) : mrg (all l) zero = all l := by
  rw [mrg_comm _ _ (all_zero l hl h) (fun _ => rfl), mrg_zero]

theorem sound_all (l : List Int) (hl : ∀ v ∈ l, In64 v) (h : (l.length : Int) ≤ 9223372036854775806) : sound (all l) = true := by
  rcases l with _ | ⟨v, _ | ⟨u, l⟩⟩
  · simp [sound, all, allOn, zero]
  ·
    rw [all_cons v [] (hl v (by simp)) (by simp)]
    have := wrap64_id v (hl v (by simp))
    simp [sound, sums, least, most, this]
  ·
    have e : ((v :: u :: l).length : Int) = (u :: l).length + 1 := by simp
    have e2 : ((u :: l).length : Int) = l.length + 1 := by simp
    rw [all_cons v (u :: l) (hl v (by simp)) (by omega)]
    have := least_le_most v (u :: l)
    unfold sound
    rw [if_neg (by simp only; omega), if_neg (by simp only; omega)]
    simp only [decide_eq_true_eq]
    omega

theorem same_refl (a : C4) : same a a = true := by simp [same]
theorem same_of (a b : C4) (h : a = b) : same a b = true := by rw [h]; exact same_refl b
theorem all_snoc (l : List Int) (v : Int) : all (l ++ [v]) = mrg (all l) (one v) := by
  have H : ∀ (l : List Int) (c : C4), allOn c (l ++ [v]) = mrg (allOn c l) (one v) := by
    intro l
    induction l with
    | nil => intro c; rfl
    | cons u l ih => intro c; simp only [List.cons_append, allOn]; exact ih _
  exact H l zero
end Go.Proofs.YtgimknplckkiaaaDoor.cell
