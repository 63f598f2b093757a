/-
  The plain mathematics of dimensions: which divisors may be, what a member is at a level above, how keys compare. Nothing of the program.
-/
import Derived.RowKit
import Derived.Below
namespace Go.Proofs.Ytlokamblbhooaaa.dims
open Go.RowKit

def nth (l : List Int) (i : Nat) : Int := l.getD i 0
/-- the divisor ahead: 1 ahead of the first -/
def prev (l : List Int) : Nat → Int
  | 0 => 1
  | i + 1 => nth l i
def StepOk (l : List Int) (i : Nat) : Prop := prev l i < nth l i ∧ nth l i ≤ 10000 ∧ nth l i % prev l i = 0
def SoundD (sz : Int) (l : List Int) : Prop := 1 ≤ sz ∧ sz ≤ 10000 ∧ l.length ≤ 4 ∧ ∀ i, i < l.length → StepOk l i
def stepB (l : List Int) (i : Nat) : Bool := decide (prev l i < nth l i) && (decide (nth l i ≤ 10000) && decide (nth l i % prev l i = 0))
def sndB (sz : Int) (l : List Int) : Bool := decide (1 ≤ sz) && (decide (sz ≤ 10000) && (decide (l.length ≤ 4) && (List.range l.length).all (stepB l)))

theorem stepB_iff (l : List Int) (i : Nat) : stepB l i = true ↔ StepOk l i := by simp [stepB, StepOk]
theorem sndB_iff (sz : Int) (l : List Int) : sndB sz l = true ↔ SoundD sz l := by
  simp [sndB, SoundD, stepB_iff]
theorem sndB_true {sz : Int} {l : List Int} (h : SoundD sz l) : sndB sz l = true := (sndB_iff sz l).2 h
theorem sndB_false {sz : Int} {l : List Int} (h : ¬ SoundD sz l) : sndB sz l = false := by
  cases e : sndB sz l with
  | false => rfl
  | true => exact absurd ((sndB_iff sz l).1 e) h

theorem prev_pos {l : List Int} : ∀ {k : Nat}, (∀ i, i < k → StepOk l i) → 1 ≤ prev l k
  | 0, _ => by simp [prev]
  | k + 1, h => by
    have h1 := prev_pos (l := l) (k := k) fun i hi => h i (by omega)
    have h2 := (h k (by omega)).1
    show 1 ≤ nth l k
    omega

/-- what members are divided by at a level that is not the last -/
def dv (l : List Int) : Nat → Int
  | 0 => 1
  | i + 1 => nth l i
/-- what v, at level f, is at level t, of sound divisors -/
def raiseV (l : List Int) (f t v : Int) : Int :=
  if f < 0 ∨ t < f ∨ (l.length : Int) + 1 < t ∨ v < 0 then -1
  else if f = t then v
  else if t = (l.length : Int) + 1 then 0
  else v / (dv l t.toNat / dv l f.toNat)
def upV (sz : Int) (l : List Int) (f t v : Int) : Int := if sndB sz l = true then raiseV l f t v else -1

theorem dv_prev (l : List Int) (k : Nat) : dv l k = prev l k := by cases k <;> rfl

/-- of sound divisors each is a multiple of each one ahead -/
theorem dv_mul {l : List Int} {n : Nat} (h : ∀ i, i < n → StepOk l i) : ∀ {j k : Nat}, j ≤ k → k ≤ n → ∃ q : Int, 1 ≤ q ∧ dv l k = dv l j * q ∧ 1 ≤ dv l j
  | j, k, hjk, hk => by
    have hpos : ∀ m, m ≤ n → 1 ≤ dv l m := fun m hm => by rw [dv_prev]; exact prev_pos fun i hi => h i (by omega)
    induction k with
    | zero => exact ⟨1, by omega, by have : j = 0 := by omega
                                     subst this; simp, hpos j (by omega)⟩
    | succ k ih =>
      by_cases e : j = k + 1
      · subst e; exact ⟨1, by omega, by simp, hpos _ hk⟩
      · obtain ⟨q, hq, e1, hp⟩ := ih (by omega) (by omega)
        obtain ⟨h1, _, h3⟩ := h k (by omega)
        rw [← dv_prev] at h1 h3
        have e2 : dv l (k + 1) = nth l k := rfl
        have hk1 := hpos k (by omega)
        refine ⟨q * (nth l k / dv l k), ?_, ?_, hp⟩
        · have : 1 ≤ nth l k / dv l k := by
            rw [Int.le_ediv_iff_mul_le (by omega)]; omega
          have := Int.mul_le_mul hq this (by omega) (by omega)
          simpa using this
        · rw [e2, ← Int.mul_assoc, ← e1]
          exact (Int.mul_ediv_cancel' (Int.dvd_of_emod_eq_zero h3)).symm

theorem dv_div {l : List Int} {n : Nat} (h : ∀ i, i < n → StepOk l i) {j k : Nat} (hjk : j ≤ k) (hk : k ≤ n) : 1 ≤ dv l j ∧ 1 ≤ dv l k / dv l j ∧ dv l k = dv l j * (dv l k / dv l j) := by
  obtain ⟨q, hq, e, hp⟩ := dv_mul h hjk hk
  have e2 : dv l k / dv l j = q := by rw [e]; exact Int.mul_ediv_cancel_left _ (by omega)
  rw [e2]; exact ⟨hp, hq, e⟩

/-- keys, place by place -/
def cmpI (x y : Int) : Int := if x < y then -1 else if y < x then 1 else 0
def cmpL : List Int → List Int → Int
  | [], [] => 0
  | [], _ :: _ => -1
  | _ :: _, [] => 1
  | x :: a, y :: b => if x = y then cmpL a b else cmpI x y

theorem cmpL_skip : ∀ (k : Nat) (a b : List Int), k ≤ a.length → k ≤ b.length → (∀ i, i < k → nth a i = nth b i) → cmpL a b = cmpL (a.drop k) (b.drop k)
  | 0, _, _, _, _, _ => rfl
  | k + 1, [], _, h, _, _ => by simp at h
  | k + 1, _ :: _, [], _, h, _ => by simp at h
  | k + 1, x :: a, y :: b, h1, h2, h => by
    have e : x = y := by simpa [nth] using h 0 (by omega)
    have := cmpL_skip k a b (by simpa using h1) (by simpa using h2) fun i hi => by simpa [nth] using h (i + 1) (by omega)
    simp only [List.drop_succ_cons]
    rw [← this]; simp [cmpL, e]

theorem drop_nth (a : List Int) (k : Nat) (h : k < a.length) : a.drop k = nth a k :: a.drop (k + 1) := by
  rw [List.drop_eq_getElem_cons h]; simp [nth, h]

theorem cmpL_at {a b : List Int} {k : Nat} (ha : k < a.length) (hb : k < b.length) (h : ∀ i, i < k → nth a i = nth b i) (hne : ¬ nth a k = nth b k) : cmpL a b = cmpI (nth a k) (nth b k) := by
  rw [cmpL_skip k a b (by omega) (by omega) h, drop_nth a k ha, drop_nth b k hb]
  simp [cmpL, hne]

theorem cmpL_end {a b : List Int} {k : Nat} (hk : k ≤ a.length) (hk2 : k ≤ b.length) (hm : k = a.length ∨ k = b.length) (h : ∀ i, i < k → nth a i = nth b i) : cmpL a b = cmpI a.length b.length := by
  rw [cmpL_skip k a b hk hk2 h]
  unfold cmpI
  rcases Nat.lt_trichotomy a.length b.length with hl | hl | hl
  · rw [List.drop_eq_nil_of_le (as := a) (by omega), drop_nth b k (by omega), if_pos (by omega)]; rfl
  · rw [List.drop_eq_nil_of_le (as := a) (by omega), List.drop_eq_nil_of_le (as := b) (by omega), if_neg (by omega), if_neg (by omega)]; rfl
  · rw [List.drop_eq_nil_of_le (as := b) (by omega), drop_nth a k (by omega), if_neg (by omega), if_pos (by omega)]; rfl

theorem cmpI_flip (x y : Int) : cmpI y x = -cmpI x y := by unfold cmpI; split <;> split <;> (try split) <;> omega
theorem cmpI_in (x y : Int) : cmpI x y = -1 ∨ cmpI x y = 0 ∨ cmpI x y = 1 := by unfold cmpI; split <;> (try split) <;> omega
theorem cmpL_in : ∀ (a b : List Int), cmpL a b = -1 ∨ cmpL a b = 0 ∨ cmpL a b = 1
  | [], [] => by simp [cmpL]
  | [], _ :: _ => by simp [cmpL]
  | _ :: _, [] => by simp [cmpL]
  | x :: a, y :: b => by
    simp only [cmpL]; split
    · exact cmpL_in a b
    · exact cmpI_in x y
theorem cmpL_flip : ∀ (a b : List Int), cmpL b a = -cmpL a b
  | [], [] => rfl
  | [], _ :: _ => rfl
  | _ :: _, [] => rfl
  | x :: a, y :: b => by
    simp only [cmpL]
    by_cases e : x = y
    · rw [if_pos e, if_pos e.symm]; exact cmpL_flip a b
    · rw [if_neg e, if_neg (fun h => e h.symm)]; exact cmpI_flip x y
theorem cmpL_zero : ∀ (a b : List Int), cmpL a b = 0 ↔ a = b
  | [], [] => by simp [cmpL]
  | [], _ :: _ => by simp [cmpL]
  | _ :: _, [] => by simp [cmpL]
  | x :: a, y :: b => by
    simp only [cmpL]
    by_cases e : x = y
    · rw [if_pos e]; simp [e, cmpL_zero a b]
    · rw [if_neg e]; unfold cmpI; simp only [List.cons.injEq, e, false_and, iff_false]; split
      · omega
      · split <;> omega

theorem eq_of_nth {a b : List Int} (hl : a.length = b.length) (h : ∀ i, i < a.length → nth a i = nth b i) : a = b := by
  refine List.ext_getElem hl fun i h1 h2 => ?_
  have := h i h1
  simpa [nth, h1, h2] using this
end Go.Proofs.Ytlokamblbhooaaa.dims
