/-
  Plain mathematics of float64's order: a number's height among all, and how the model's order of two words is that of their heights; what is exact of integers, and of their quotients. Nothing of the dump.
-/
import Derived.Laws.FloatArith
namespace Go.Proofs.Ytpaelakaolggmaa.rank
set_option linter.unusedVariables false

abbrev D : Ieee.Format := Ieee.double

/-- the magnitude of a rung, in units of the least place -/
def val (r : Nat) : Nat := if r < 4503599627370496 then r else (4503599627370496 + r % 4503599627370496) * 2 ^ (r / 4503599627370496 - 1)

theorem val_succ (r : Nat) : val r < val (r + 1) := by
  unfold val
  by_cases h1 : r + 1 < 4503599627370496
  · rw [if_pos h1, if_pos (by omega)]; omega
  · by_cases h2 : r < 4503599627370496
    · have e : r = 4503599627370495 := by omega
      subst e
      decide
    · rw [if_neg h1, if_neg h2]
      by_cases h3 : r % 4503599627370496 + 1 < 4503599627370496
      · have e1 : (r + 1) % 4503599627370496 = r % 4503599627370496 + 1 := by omega
        have e2 : (r + 1) / 4503599627370496 = r / 4503599627370496 := by omega
        rw [e1, e2]
        exact Nat.mul_lt_mul_of_pos_right (by omega) (Nat.two_pow_pos _)
      · have e1 : (r + 1) % 4503599627370496 = 0 := by omega
        have e2 : (r + 1) / 4503599627370496 - 1 = (r / 4503599627370496 - 1) + 1 := by omega
        rw [e1, e2, Nat.pow_succ]
        have h4 : r % 4503599627370496 = 4503599627370495 := by omega
        rw [h4]
        have := Nat.two_pow_pos (r / 4503599627370496 - 1)
        generalize 2 ^ (r / 4503599627370496 - 1) = u at *
        omega

theorem val_mono {r s : Nat} (h : r < s) : val r < val s := by
  induction s with
  | zero => omega
  | succ n ih =>
    by_cases e : r = n
    · subst e; exact val_succ r
    · exact Nat.lt_trans (ih (by omega)) (val_succ n)
theorem val_lt_iff {r s : Nat} : val r < val s ↔ r < s := by
  constructor
  · intro h
    rcases Nat.lt_trichotomy r s with h1 | h1 | h1
    · exact h1
    · subst h1; omega
    · have := val_mono h1; omega
  · exact val_mono
theorem val_zero : val 0 = 0 := by simp [val]

/-- is the word a number's (no NaN)? -/
def fin (b : Nat) : Prop := b < 18446744073709551616 ∧ b % 9223372036854775808 ≤ 9218868437227405312

/-- a word's signed rung -/
def sv (b : Nat) : Int := if b < 9223372036854775808 then (b : Int) else -((b : Int) - 9223372036854775808)

theorem infRung_d : D.infRung = 9218868437227405312 := by decide
theorem binade_d : D.binade = 4503599627370496 := by decide
theorem signWeight_d : D.signWeight = 9223372036854775808 := by decide
theorem lp_d : D.leastPlace = -1074 := by decide

/-- what a number's word stands for: its magnitude in units of the least place -/
theorem read_num {b : Nat} (hb : b < 18446744073709551616) (h : b % 9223372036854775808 < 9218868437227405312) :
    ∃ m k : Nat, D.read b = .number (decide (9223372036854775808 ≤ b)) m ((k : Int) - 1074) ∧ m * 2 ^ k = val (b % 9223372036854775808) := by
  have hn : (b / 9223372036854775808 % 2 == 1) = decide (9223372036854775808 ≤ b) := by
    rw [Bool.eq_iff_iff]; simp; omega
  unfold Ieee.Format.read
  simp only [signWeight_d, infRung_d, binade_d, lp_d, hn]
  by_cases h1 : b % 9223372036854775808 < 4503599627370496
  · rw [if_pos h1]
    exact ⟨_, 0, rfl, by simp [val, h1]⟩
  · rw [if_neg h1, if_pos h]
    refine ⟨4503599627370496 + b % 9223372036854775808 % 4503599627370496, b % 9223372036854775808 / 4503599627370496 - 1, ?_, ?_⟩
    · rw [Int.add_comm]; rfl
    · unfold val; rw [if_neg h1]

theorem read_inf {b : Nat} (hb : b < 18446744073709551616) (h : b % 9223372036854775808 = 9218868437227405312) :
    D.read b = .infinity (decide (9223372036854775808 ≤ b)) := by
  have hn : (b / 9223372036854775808 % 2 == 1) = decide (9223372036854775808 ≤ b) := by
    rw [Bool.eq_iff_iff]; simp; omega
  unfold Ieee.Format.read
  simp only [signWeight_d, infRung_d, binade_d, lp_d, hn]
  rw [if_neg (by omega), if_neg (by omega), if_pos h]

theorem read_nan {b : Nat} (h : 9218868437227405312 < b % 9223372036854775808) :
    ∃ s t, D.read b = .nan s t := by
  unfold Ieee.Format.read
  simp only [signWeight_d, infRung_d, binade_d, lp_d]
  rw [if_neg (by omega), if_neg (by omega), if_neg (by omega)]
  exact ⟨_, _, rfl⟩

theorem cmp_scale (A B : Int) (c : Nat) (hc : 0 < c) : compare A B = compare (A * c) (B * c) := by
  have h1 : A < B ↔ A * c < B * c := (Int.mul_lt_mul_right (by omega)).symm
  have h2 : A = B ↔ A * c = B * c := by
    constructor
    · intro h; rw [h]
    · intro h; exact Int.eq_of_mul_eq_mul_right (by omega) h
  simp only [compare, compareOfLessAndEq, h1, h2]

theorem signed_scale (s : Bool) (m u k i : Nat) (h : u + k = i) : Ieee.signed s m u * ((2 ^ k : Nat) : Int) = if s then -((m * 2 ^ i : Nat) : Int) else ((m * 2 ^ i : Nat) : Int) := by
  subst h
  unfold Ieee.signed
  have e : m <<< u * 2 ^ k = m * 2 ^ (u + k) := by rw [Nat.shiftLeft_eq, Nat.pow_add, Nat.mul_assoc]
  cases s
  · simp only [Bool.false_eq_true, if_false]; rw [← e]; exact (Int.natCast_mul _ _).symm
  · simp only [if_true]; rw [← e, Int.neg_mul]; exact congrArg _ (Int.natCast_mul _ _).symm

theorem cmp_congr {A B C E : Int} (h1 : A < B ↔ C < E) (h2 : A = B ↔ C = E) : compare A B = compare C E := by
  simp only [compare, compareOfLessAndEq, h1, h2]

/-- THE MODEL's ORDER OF TWO WORDS IS THAT OF THEIR SIGNED RUNGS. -/
theorem order_fin {x y : Nat} (hx : fin x) (hy : fin y) : D.order x y = some (compare (sv x) (sv y)) := by
  obtain ⟨hx1, hx2⟩ := hx
  obtain ⟨hy1, hy2⟩ := hy
  unfold Ieee.Format.order
  have hsx : sv x = if 9223372036854775808 ≤ x then -((x % 9223372036854775808 : Nat) : Int) else ((x % 9223372036854775808 : Nat) : Int) := by unfold sv; split <;> split <;> omega
  have hsy : sv y = if 9223372036854775808 ≤ y then -((y % 9223372036854775808 : Nat) : Int) else ((y % 9223372036854775808 : Nat) : Int) := by unfold sv; split <;> split <;> omega
  by_cases ex : x % 9223372036854775808 = 9218868437227405312
  · rw [read_inf hx1 ex]
    by_cases ey : y % 9223372036854775808 = 9218868437227405312
    · rw [read_inf hy1 ey]
      simp only [Ieee.Datum.order, Option.some.injEq]
      by_cases a : 9223372036854775808 ≤ x <;> by_cases b : 9223372036854775808 ≤ y <;> simp only [a, b, ex, ey, hsx, hsy, if_true, if_false, decide_true, decide_false] <;> decide
    · obtain ⟨m, k, hr, _⟩ := read_num hy1 (by omega : y % 9223372036854775808 < 9218868437227405312)
      rw [hr]
      simp only [Ieee.Datum.order, Option.some.injEq]
      have hlt : -9218868437227405312 < sv y ∧ sv y < 9218868437227405312 := by rw [hsy]; split <;> omega
      by_cases a : 9223372036854775808 ≤ x
      · simp only [a, decide_true, if_true, hsx, ex]
        exact (Int.compare_eq_lt.2 (by omega)).symm
      · simp only [a, decide_false, if_false, hsx, ex]
        exact (Int.compare_eq_gt.2 (by omega)).symm
  · obtain ⟨m, k, hr, hv⟩ := read_num hx1 (by omega : x % 9223372036854775808 < 9218868437227405312)
    rw [hr]
    by_cases ey : y % 9223372036854775808 = 9218868437227405312
    · rw [read_inf hy1 ey]
      simp only [Ieee.Datum.order, Option.some.injEq]
      have hlt : -9218868437227405312 < sv x ∧ sv x < 9218868437227405312 := by rw [hsx]; split <;> omega
      by_cases a : 9223372036854775808 ≤ y
      · simp only [a, decide_true, if_true, hsy, ey]
        exact (Int.compare_eq_gt.2 (by omega)).symm
      · simp only [a, decide_false, if_false, hsy, ey]
        exact (Int.compare_eq_lt.2 (by omega)).symm
    · obtain ⟨n, l, hr2, hv2⟩ := read_num hy1 (by omega : y % 9223372036854775808 < 9218868437227405312)
      rw [hr2]
      simp only [Ieee.Datum.order, Option.some.injEq]
      rw [cmp_scale _ _ (2 ^ min k l) (Nat.two_pow_pos _)]
      rw [signed_scale _ _ _ _ k (by omega), signed_scale _ _ _ _ l (by omega), hv, hv2, hsx, hsy]
      have i1 := @val_lt_iff (x % 9223372036854775808) (y % 9223372036854775808)
      have i2 := @val_lt_iff (y % 9223372036854775808) (x % 9223372036854775808)
      have i3 := @val_lt_iff 0 (x % 9223372036854775808)
      have i4 := @val_lt_iff 0 (y % 9223372036854775808)
      rw [val_zero] at i3 i4
      generalize val (x % 9223372036854775808) = vx at *
      generalize val (y % 9223372036854775808) = vy at *
      by_cases a : 9223372036854775808 ≤ x <;> by_cases b : 9223372036854775808 ≤ y <;> simp only [a, b, if_true, if_false, decide_true, decide_false, Bool.false_eq_true] <;> apply cmp_congr <;> omega

theorem order_nan {x y : Nat} (h : ¬ x % 9223372036854775808 ≤ 9218868437227405312 ∨ ¬ y % 9223372036854775808 ≤ 9218868437227405312) : D.order x y = none := by
  unfold Ieee.Format.order
  rcases h with h | h
  · obtain ⟨s, t, hr⟩ := read_nan (b := x) (by omega)
    rw [hr]; rfl
  · obtain ⟨s, t, hr⟩ := read_nan (b := y) (by omega)
    rw [hr]
    cases D.read x <;> rfl

/-- a number's height among all: 0 of NaN -/
def hgt (b : Nat) : Nat :=
  if 9218868437227405312 < b % 9223372036854775808 then 0
  else if b < 9223372036854775808 then b + 9223372036854775808 else 18446744073709551615 - b

def isNan (b : Nat) : Bool := decide (9218868437227405312 < b % 9223372036854775808)

theorem nan_of_order {x : Nat} (hx : x < 18446744073709551616) : (D.order x x != some Ordering.eq) = isNan x := by
  unfold isNan
  by_cases h : 9218868437227405312 < x % 9223372036854775808
  · rw [order_nan (.inl (by omega))]; simp [h]
  · rw [order_fin ⟨hx, by omega⟩ ⟨hx, by omega⟩]
    have : compare (sv x) (sv x) = .eq := Int.compare_eq_eq.2 rfl
    rw [this]; simp [h]

/-- Cmp's answer -/
def cmpH (x y : Nat) : Int := if x < y then -1 else if y < x then 1 else 0
end Go.Proofs.Ytpaelakaolggmaa.rank
