/-
  Plain mathematics of means: float64 of an integer, and a quotient of two such. Nothing of the dump.
-/
import Derived.Test.YtpaelakaolggmaaRankMean
namespace Go.Proofs.Ytpaelakaolggmaa.rank
set_option linter.unusedVariables false

theorem word_mod (neg : Bool) {r : Nat} (h : r ≤ 9218868437227405312) : D.word neg r % 9223372036854775808 = r ∧ D.word neg r < 18446744073709551616 ∧ decide (9223372036854775808 ≤ D.word neg r) = neg := by
  unfold Ieee.Format.word
  rw [signWeight_d]
  cases neg
  · simp only [Bool.false_eq_true, if_false]; exact ⟨by omega, by omega, decide_eq_false (by omega)⟩
  · simp only [if_true]; exact ⟨by omega, by omega, decide_eq_true (by omega)⟩

theorem nearest_word (neg : Bool) (mag : Nat) (place : Int) : ∃ r, r ≤ 9218868437227405312 ∧ D.nearest neg mag place = D.word neg r := by
  unfold Ieee.Format.nearest
  by_cases h : mag = 0
  · rw [if_pos h]; exact ⟨0, by omega, rfl⟩
  · rw [if_neg h]
    refine ⟨_, ?_, rfl⟩
    rw [infRung_d]; exact Nat.min_le_right _ _

theorem notnan_word (neg : Bool) {r : Nat} (h : r ≤ 9218868437227405312) : isNan (D.word neg r) = false := by
  unfold isNan; rw [(word_mod neg h).1]; exact decide_eq_false (by omega)

/-- what a quotient can be -/
theorem quotient_form (dg : Nat) (x y z : Ieee.Datum) (h : x.quotient dg y = some z) : (∃ s m e, z = .number s m e) ∨ ∃ s, z = .infinity s := by
  cases x <;> cases y <;> simp only [Ieee.Datum.quotient] at h <;> first | (cases h; done) | skip
  · split at h
    · split at h
      · cases h
      · cases h; exact .inr ⟨_, rfl⟩
    · cases h; exact .inl ⟨_, _, _, rfl⟩
  · cases h; exact .inl ⟨_, _, _, rfl⟩
  · cases h; exact .inr ⟨_, rfl⟩

theorem quo_notnan {n s : Int} {r : Nat} (h : quo n s = some r) : isNan r = false := by
  have h' : ((D.read (floatOfInt .f64 s)).quotient (D.fractionBits + 2) (D.read (floatOfInt .f64 n))).map D.write = some r := h
  obtain ⟨z, hz, rfl⟩ := Option.map_eq_some_iff.1 h'
  rcases quotient_form _ _ _ _ hz with ⟨s, m, e, rfl⟩ | ⟨s, rfl⟩
  · obtain ⟨r, hr, e'⟩ := nearest_word s m e
    show isNan (D.nearest s m e) = false
    rw [e']; exact notnan_word s hr
  · show isNan (D.word s D.infRung) = false
    rw [infRung_d]; exact notnan_word s (by omega)

theorem ofInt_nearest (n : Int) : floatOfInt .f64 n = D.nearest (decide (n < 0)) n.natAbs 0 := rfl

theorem read_zero : D.read (floatOfInt .f64 0) = .number false 0 (-1074) := by decide

/-- a normal number's word, read -/
theorem read_word (neg : Bool) {r : Nat} (h1 : 4503599627370496 ≤ r) (h2 : r < 9218868437227405312) : D.read (D.word neg r) = .number neg (4503599627370496 + r % 4503599627370496) (-1074 + (r / 4503599627370496 - 1 : Nat)) := by
  obtain ⟨m1, m2, m3⟩ := word_mod neg (r := r) (by omega)
  have hn : (D.word neg r / 9223372036854775808 % 2 == 1) = neg := by
    generalize D.word neg r = W at m2 m3
    rw [← m3, Bool.eq_iff_iff, beq_iff_eq, decide_eq_true_eq]; omega
  unfold Ieee.Format.read
  simp only [signWeight_d, infRung_d, binade_d, lp_d, hn, m1]
  rw [if_neg (by omega), if_pos h2]

theorem cut_zero (neg : Bool) (n : Nat) : Ieee.Toward.even.cut neg n 0 = n := by
  simp [Ieee.Toward.cut, Nat.mod_one]

theorem cut_bounds (neg : Bool) (n drop : Nat) (h : drop ≤ n.log2 + 2) : n / 2 ^ drop ≤ Ieee.Toward.even.cut neg n drop ∧ Ieee.Toward.even.cut neg n drop ≤ n / 2 ^ drop + 1 := by
  have hm : min drop (n.log2 + 2) = drop := by omega
  unfold Ieee.Toward.cut
  rw [hm, Nat.one_shiftLeft]
  simp only
  generalize (decide (2 ^ drop < 2 * (n % 2 ^ drop)) || 2 ^ drop == 2 * (n % 2 ^ drop) && n / 2 ^ drop % 2 == 1) = b
  cases b <;> simp

theorem nearest_int (neg : Bool) (m : Nat) (h0 : m ≠ 0) (hL : m.log2 ≤ 63) : ∃ k, D.nearest neg m 0 = D.word neg ((m.log2 + 1022) * 4503599627370496 + k) ∧ 4503599627370496 ≤ k ∧ k ≤ 9007199254740992 ∧ (m.log2 ≤ 52 → k = m * 2 ^ (52 - m.log2)) := by
  have l1 := Nat.log2_self_le h0
  have l2 := @Nat.lt_log2_self m
  unfold Ieee.Format.nearest
  rw [if_neg h0, lp_d, infRung_d, binade_d]
  have hf : (D.fractionBits : Int) = 52 := rfl
  have hlast : max (0 + (m.log2 : Int) - D.fractionBits) (-1074) = (m.log2 : Int) - 52 := by rw [hf]; omega
  simp only [hlast]
  have hrung : ((m.log2 : Int) - 52 - -1074).toNat = m.log2 + 1022 := by omega
  rw [hrung]
  obtain ⟨L, hLe⟩ : ∃ L, L = m.log2 := ⟨_, rfl⟩
  rw [← hLe] at l1 l2 hL ⊢
  by_cases hc : L ≤ 52
  · have e1 : (0 - ((L : Int) - 52)).toNat = 52 - L := by omega
    have e2 : ((L : Int) - 52 - 0).toNat = 0 := by omega
    rw [e1, e2, cut_zero, Nat.shiftLeft_eq]
    have p1 : 2 ^ L * 2 ^ (52 - L) = 4503599627370496 := by rw [← Nat.pow_add, show L + (52 - L) = 52 by omega]
    have p2 : 2 ^ (L + 1) * 2 ^ (52 - L) = 9007199254740992 := by rw [← Nat.pow_add, show L + 1 + (52 - L) = 53 by omega]
    have q1 : 4503599627370496 ≤ m * 2 ^ (52 - L) := by rw [← p1]; exact Nat.mul_le_mul_right _ l1
    have q2 : m * 2 ^ (52 - L) < 9007199254740992 := by rw [← p2]; exact Nat.mul_lt_mul_of_pos_right l2 (Nat.two_pow_pos _)
    refine ⟨m * 2 ^ (52 - L), ?_, q1, by omega, fun _ => rfl⟩
    refine congrArg (D.word neg) (Nat.min_eq_left ?_)
    generalize m * 2 ^ (52 - L) = X at q2
    clear p1 p2 q1 l1 l2 hrung hlast
    omega
  · have e1 : (0 - ((L : Int) - 52)).toNat = 0 := by omega
    have e2 : ((L : Int) - 52 - 0).toNat = L - 52 := by omega
    rw [e1, e2, Nat.shiftLeft_zero]
    have hb := cut_bounds neg m (L - 52) (by omega)
    have p1 : 4503599627370496 * 2 ^ (L - 52) = 2 ^ L := by rw [show 4503599627370496 = 2 ^ 52 from rfl, ← Nat.pow_add, show 52 + (L - 52) = L by omega]
    have p2 : 9007199254740992 * 2 ^ (L - 52) = 2 ^ (L + 1) := by rw [show 9007199254740992 = 2 ^ 53 from rfl, ← Nat.pow_add, show 53 + (L - 52) = L + 1 by omega]
    have q1 : 4503599627370496 ≤ m / 2 ^ (L - 52) := by rw [Nat.le_div_iff_mul_le (Nat.two_pow_pos _), p1]; exact l1
    have q2 : m / 2 ^ (L - 52) < 9007199254740992 := by rw [Nat.div_lt_iff_lt_mul (Nat.two_pow_pos _), p2]; exact l2
    generalize m / 2 ^ (L - 52) = Y at q1 q2 hb
    generalize Ieee.Toward.even.cut neg m (L - 52) = X at hb
    clear p1 p2 l1 l2 hrung hlast e1 e2
    refine ⟨X, congrArg (D.word neg) (Nat.min_eq_left (by omega)), by omega, by omega, fun h => by omega⟩

theorem log2_le_63 {m : Nat} (h0 : m ≠ 0) (h : m ≤ 9223372036854775808) : m.log2 ≤ 63 := by
  have : m.log2 < 64 := (Nat.log2_lt h0).2 (by omega)
  omega

/-- float64 of an integer that is not nought is no nought -/
theorem read_int_ne {n : Int} (h0 : n ≠ 0) (hn : -9223372036854775808 ≤ n ∧ n ≤ 9223372036854775807) : ∃ s m e, D.read (floatOfInt .f64 n) = .number s m e ∧ m ≠ 0 := by
  have hm : n.natAbs ≠ 0 := by omega
  have hL := log2_le_63 hm (by omega)
  obtain ⟨k, hk, k1, k2, _⟩ := nearest_int (decide (n < 0)) n.natAbs hm hL
  rw [ofInt_nearest, hk, read_word _ (by omega) (by omega)]
  exact ⟨_, _, _, rfl, by omega⟩

theorem quo_none {n s : Int} (hn : -9223372036854775808 ≤ n ∧ n ≤ 9223372036854775807) (hs : -9223372036854775808 ≤ s ∧ s ≤ 9223372036854775807) (h : quo n s = none) : n = 0 ∧ s = 0 := by
  have h' : ((D.read (floatOfInt .f64 s)).quotient (D.fractionBits + 2) (D.read (floatOfInt .f64 n))).map D.write = none := h
  rw [Option.map_eq_none_iff] at h'
  by_cases en : n = 0
  · by_cases es : s = 0
    · exact ⟨en, es⟩
    · obtain ⟨a, m, e, hr, hm⟩ := read_int_ne es hs
      rw [hr, en, read_zero] at h'
      simp [Ieee.Datum.quotient, hm] at h'
  · obtain ⟨a, m, e, hr, hm⟩ := read_int_ne en hn
    rw [hr] at h'
    by_cases es : s = 0
    · rw [es, read_zero] at h'
      simp [Ieee.Datum.quotient, hm] at h'
    · obtain ⟨a', m', e', hr', hm'⟩ := read_int_ne es hs
      rw [hr'] at h'
      simp [Ieee.Datum.quotient, hm] at h'

/-- float64 of a small integer, exactly -/
theorem read_int {n : Int} (h0 : n ≠ 0) (hn : n.natAbs < 9007199254740992) : D.read (floatOfInt .f64 n) = .number (decide (n < 0)) (n.natAbs * 2 ^ (52 - n.natAbs.log2)) ((n.natAbs.log2 : Int) - 52) ∧ n.natAbs.log2 ≤ 52 ∧ (n.natAbs * 2 ^ (52 - n.natAbs.log2)).log2 = 52 := by
  have hm : n.natAbs ≠ 0 := by omega
  have hL : n.natAbs.log2 < 53 := (Nat.log2_lt hm).2 (by omega)
  obtain ⟨k, hk, k1, k2, k3⟩ := nearest_int (decide (n < 0)) n.natAbs hm (by omega)
  have e := k3 (by omega)
  have l2 := @Nat.lt_log2_self n.natAbs
  have p2 : 2 ^ (n.natAbs.log2 + 1) * 2 ^ (52 - n.natAbs.log2) = 9007199254740992 := by rw [← Nat.pow_add, show n.natAbs.log2 + 1 + (52 - n.natAbs.log2) = 53 by omega]
  have k4 : k < 9007199254740992 := by rw [e, ← p2]; exact Nat.mul_lt_mul_of_pos_right l2 (Nat.two_pow_pos _)
  rw [ofInt_nearest, hk, read_word _ (by omega) (by omega), ← e]
  refine ⟨?_, by omega, (Nat.log2_eq_iff (by omega)).2 ⟨k1, k4⟩⟩
  have e1 : 4503599627370496 + ((n.natAbs.log2 + 1022) * 4503599627370496 + k) % 4503599627370496 = k := by omega
  have e2 : (-1074 : Int) + (((n.natAbs.log2 + 1022) * 4503599627370496 + k) / 4503599627370496 - 1 : Nat) = (n.natAbs.log2 : Int) - 52 := by omega
  rw [e1, e2]

theorem natAbs_two (n : Int) : (2 * n).natAbs = 2 * n.natAbs := by omega

/-- twice an integer has the same digits, one place up -/
theorem read_twice {n : Int} (h0 : n ≠ 0) (hn : n.natAbs < 4503599627370496) : D.read (floatOfInt .f64 (2 * n)) = .number (decide (n < 0)) (n.natAbs * 2 ^ (52 - n.natAbs.log2)) ((n.natAbs.log2 : Int) - 52 + 1) := by
  have h := (read_int (n := 2 * n) (by omega) (by omega))
  have hm : n.natAbs ≠ 0 := by omega
  have hl : (2 * n).natAbs.log2 = n.natAbs.log2 + 1 := by rw [natAbs_two, Nat.log2_two_mul hm]
  have hL : n.natAbs.log2 < 52 := (Nat.log2_lt hm).2 (by omega)
  rw [h.1, hl, natAbs_two]
  have e1 : 2 * n.natAbs * 2 ^ (52 - (n.natAbs.log2 + 1)) = n.natAbs * 2 ^ (52 - n.natAbs.log2) := by
    rw [show 52 - n.natAbs.log2 = (52 - (n.natAbs.log2 + 1)) + 1 by omega, Nat.pow_succ, Nat.mul_comm 2, Nat.mul_assoc, Nat.mul_comm 2]
  have e2 : decide (2 * n < 0) = decide (n < 0) := by rw [Bool.eq_iff_iff, decide_eq_true_eq, decide_eq_true_eq]; omega
  rw [e1, e2]
  congr 1
  omega

theorem quo_twice {n s : Int} (hn : n.natAbs < 4503599627370496) (hs : s.natAbs < 4503599627370496) : quo (2 * n) (2 * s) = quo n s := by
  show ((D.read (floatOfInt .f64 (2 * s))).quotient (D.fractionBits + 2) (D.read (floatOfInt .f64 (2 * n)))).map D.write = ((D.read (floatOfInt .f64 s)).quotient (D.fractionBits + 2) (D.read (floatOfInt .f64 n))).map D.write
  by_cases en : n = 0
  · subst en
    by_cases es : s = 0
    · subst es; rfl
    · have r1 := (read_int es (by omega)).1
      have r2 := read_twice es hs
      rw [Int.mul_zero, r1, r2, read_zero]
      simp only [Ieee.Datum.quotient]
      rfl
  · have r1 := read_int en (by omega)
    have r2 := read_twice en hn
    have hz : n.natAbs * 2 ^ (52 - n.natAbs.log2) ≠ 0 := by
      intro e; rw [e] at r1; exact absurd r1.2.2 (by decide)
    by_cases es : s = 0
    · subst es
      rw [Int.mul_zero, r1.1, r2, read_zero]
      simp only [Ieee.Datum.quotient, if_neg hz]
      simp [Ieee.Format.write, Ieee.Format.nearest]
    · have r3 := (read_int es (by omega)).1
      have r4 := read_twice es hs
      rw [r1.1, r2, r3, r4]
      simp only [Ieee.Datum.quotient, if_neg hz]
      congr 3
      omega
end Go.Proofs.Ytpaelakaolggmaa.rank
