/-
  Boxes by places: what is within, what is sound, what two have in common.
-/
import Derived.Test.YthbjfbkjbggkbaaDimsRows
namespace Go.Proofs.Ythbjfbkjbggkbaa.dice
open Go.ChangeShapes Go.WideShapes Go.ChangeAt Go.RowKit Go.Deep
open Go.Proofs.Ythbjfbkjbggkbaa.dims
set_option linter.unusedVariables false
set_option maxRecDepth 100000

def allB (n : Nat) (p : Nat → Bool) : Bool := (List.range n).all p
theorem allB_true {n : Nat} {p : Nat → Bool} (h : ∀ i, i < n → p i = true) : allB n p = true := by
  unfold allB; rw [List.all_eq_true]; exact fun i hi => h i (List.mem_range.1 hi)
theorem allB_get {n : Nat} {p : Nat → Bool} (h : allB n p = true) {i : Nat} (hi : i < n) : p i = true := by
  unfold allB at h; rw [List.all_eq_true] at h; exact h i (List.mem_range.2 hi)
theorem allB_false {n : Nat} {p : Nat → Bool} {i : Nat} (hi : i < n) (h : p i = false) : allB n p = false := by
  cases e : allB n p with
  | false => rfl
  | true => rw [allB_get e hi] at h; cases h
theorem allB_iff {n : Nat} {p : Nat → Bool} : allB n p = true ↔ ∀ i, i < n → p i = true := ⟨fun h i hi => allB_get h hi, allB_true⟩

/-- is a key within, of one place -/
def inAt (low high key : List Int) (i : Nat) : Bool := decide (nth low i ≤ nth key i) && decide (nth key i < nth high i)
def wtn (low high key : List Int) : Bool := decide (low.length = key.length) && (decide (high.length = key.length) && allB key.length (inAt low high key))

theorem wtn_true {low high key : List Int} (h1 : low.length = key.length) (h2 : high.length = key.length) (h : ∀ i, i < key.length → inAt low high key i = true) : wtn low high key = true := by
  unfold wtn; rw [decide_eq_true h1, decide_eq_true h2, allB_true h]; rfl
theorem wtn_len {low high key : List Int} (h : ¬ (low.length = key.length ∧ high.length = key.length)) : wtn low high key = false := by
  unfold wtn
  by_cases h1 : low.length = key.length
  · rw [decide_eq_false (p := high.length = key.length) (fun e => h ⟨h1, e⟩)]; simp
  · rw [decide_eq_false h1]; rfl
theorem wtn_at {low high key : List Int} {i : Nat} (hi : i < key.length) (h : inAt low high key i = false) : wtn low high key = false := by
  unfold wtn; rw [allB_false hi h]; simp
theorem wtn_iff {low high key : List Int} : wtn low high key = true ↔ low.length = key.length ∧ high.length = key.length ∧ ∀ i, i < key.length → nth low i ≤ nth key i ∧ nth key i < nth high i := by
  unfold wtn
  rw [Bool.and_eq_true, Bool.and_eq_true, decide_eq_true_eq, decide_eq_true_eq, allB_iff]
  simp only [inAt, Bool.and_eq_true, decide_eq_true_eq]

/-- is it a box, of one place -/
def bxAt (ds : List Dm) (low high : List Int) (i : Nat) : Bool := decide (0 ≤ nth low i) && (decide (nth low i ≤ nth high i) && decide (nth high i ≤ (dn ds i).sz))
def bx (ds : List Dm) (low high : List Int) : Bool := decide (low.length = ds.length) && (decide (high.length = ds.length) && allB ds.length (bxAt ds low high))
theorem bx_true {ds : List Dm} {low high : List Int} (h1 : low.length = ds.length) (h2 : high.length = ds.length) (h : ∀ i, i < ds.length → bxAt ds low high i = true) : bx ds low high = true := by
  unfold bx; rw [decide_eq_true h1, decide_eq_true h2, allB_true h]; rfl
theorem bx_len {ds : List Dm} {low high : List Int} (h : ¬ (low.length = ds.length ∧ high.length = ds.length)) : bx ds low high = false := by
  unfold bx
  by_cases h1 : low.length = ds.length
  · rw [decide_eq_false (p := high.length = ds.length) (fun e => h ⟨h1, e⟩)]; simp
  · rw [decide_eq_false h1]; rfl
theorem bx_at {ds : List Dm} {low high : List Int} {i : Nat} (hi : i < ds.length) (h : bxAt ds low high i = false) : bx ds low high = false := by
  unfold bx; rw [allB_false hi h]; simp

/-- what two boxes have in common -/
def maxI (a b : Int) : Int := if a < b then b else a
def minI (a b : Int) : Int := if b < a then b else a
def mLo (low fr : List Int) : List Int := (List.range low.length).map fun i => maxI (nth low i) (nth fr i)
def mHi (high un : List Int) : List Int := (List.range high.length).map fun i => minI (nth high i) (nth un i)
def mtAt (low high fr un : List Int) (i : Nat) : Bool := decide (maxI (nth low i) (nth fr i) < minI (nth high i) (nth un i))
def mt (low high fr un : List Int) : Bool := decide (high.length = low.length ∧ fr.length = low.length ∧ un.length = low.length) && allB low.length (mtAt low high fr un)
theorem mt_true {low high fr un : List Int} (h1 : high.length = low.length ∧ fr.length = low.length ∧ un.length = low.length) (h : ∀ i, i < low.length → mtAt low high fr un i = true) : mt low high fr un = true := by
  unfold mt; rw [decide_eq_true h1, allB_true h]; rfl
theorem mt_len {low high fr un : List Int} (h : ¬ (high.length = low.length ∧ fr.length = low.length ∧ un.length = low.length)) : mt low high fr un = false := by
  unfold mt; rw [decide_eq_false h]; rfl
theorem mt_at {low high fr un : List Int} {i : Nat} (hi : i < low.length) (h : mtAt low high fr un i = false) : mt low high fr un = false := by
  unfold mt; rw [allB_false hi h]; simp
theorem mLo_len (low fr : List Int) : (mLo low fr).length = low.length := by simp [mLo]
theorem mHi_len (high un : List Int) : (mHi high un).length = high.length := by simp [mHi]
theorem mLo_nth (low fr : List Int) {i : Nat} (hi : i < low.length) : nth (mLo low fr) i = maxI (nth low i) (nth fr i) := by simp [mLo, nth, hi]
theorem mHi_nth (high un : List Int) {i : Nat} (hi : i < high.length) : nth (mHi high un) i = minI (nth high i) (nth un i) := by simp [mHi, nth, hi]
/-- what Meet hands out -/
def mtL (low high fr un : List Int) : List Int := if mt low high fr un = true then mLo low fr else []
def mtH (low high fr un : List Int) : List Int := if mt low high fr un = true then mHi high un else []

/-- the first places of one list, the others of another one -/
def mix (k : Nat) (A B : List Int) : List Int := A.take k ++ B.drop k
theorem mix_zero (A B : List Int) : mix 0 A B = B := by simp [mix]
theorem mix_all {k : Nat} {A B : List Int} (h : A.length = k) (h2 : B.length = k) : mix k A B = A := by
  simp [mix, List.take_of_length_le (by omega : A.length ≤ k), List.drop_of_length_le (by omega : B.length ≤ k)]
theorem mix_len {k : Nat} {A B : List Int} (h : A.length = B.length) : (mix k A B).length = B.length := by simp [mix]; omega
theorem nth_ext {A B : List Int} (h : A.length = B.length) (h2 : ∀ i, i < B.length → nth A i = nth B i) : A = B := by
  apply List.ext_getElem h
  intro i h3 h4
  have := h2 i h4
  simpa [nth, h3, h4] using this
theorem mix_nth {k : Nat} {A B : List Int} (h : A.length = B.length) {i : Nat} (hi : i < B.length) : nth (mix k A B) i = if i < k then nth A i else nth B i := by
  unfold mix nth
  simp only [List.getD_eq_getElem?_getD]
  by_cases e : i < k
  · rw [if_pos e, List.getElem?_append_left (by simp; omega)]
    simp [e]
  · rw [if_neg e, List.getElem?_append_right (by simp; omega)]
    simp only [List.length_take, List.getElem?_drop]
    rw [show k + (i - min k A.length) = i by omega]
theorem set_len (l : List Int) (i : Nat) (v : Int) : (l.set i v).length = l.length := by simp
theorem set_nth' {l : List Int} {i j : Nat} {v : Int} (hj : j < l.length) : nth (l.set i v) j = if i = j then v else nth l j := by
  unfold nth
  simp only [List.getD_eq_getElem?_getD]
  rw [List.getElem?_set]
  by_cases e : i = j
  · subst e; simp [hj]
  · simp [e]
theorem mix_set {k : Nat} {A B : List Int} (h : A.length = B.length) (hk : k < B.length) : (mix k A B).set k (nth A k) = mix (k + 1) A B := by
  refine nth_ext (by rw [set_len, mix_len h, mix_len h]) fun i hi => ?_
  rw [mix_len h] at hi
  rw [set_nth' (by rw [mix_len h]; exact hi), mix_nth h hi, mix_nth h hi]
  by_cases e : k = i
  · subst e; rw [if_pos rfl, if_pos (by omega)]
  · by_cases e2 : i < k
    · rw [if_neg e, if_pos e2, if_pos (by omega)]
    · rw [if_neg e, if_neg e2, if_neg (by omega)]
theorem vals_set' (l : List Int) (i : Nat) (v : Int) : (vals l).set i (.int .i64 v) = vals (l.set i v) := by simp [vals, List.map_set]
end Go.Proofs.Ythbjfbkjbggkbaa.dice
