/-
  Plain mathematics of RankSigns: means of one number of numbers rise with the sum, and are as far apart. Nothing of the dump.
-/
import Derived.Test.YtpaelakaolggmaaRankQuo
namespace Go.Proofs.Ytpaelakaolggmaa.rank
set_option linter.unusedVariables false

/-- a rung's magnitude, by the place of its last digit -/
theorem val_rung {L k : Nat} (h1 : 4503599627370496 ≤ k) (h2 : k ≤ 9007199254740992) : val (L * 4503599627370496 + k) = k * 2 ^ L := by
  unfold val
  rw [if_neg (by omega)]
  by_cases e : k = 9007199254740992
  · have e1 : (L * 4503599627370496 + k) % 4503599627370496 = 0 := by omega
    have e2 : (L * 4503599627370496 + k) / 4503599627370496 - 1 = L + 1 := by omega
    rw [e1, e2, Nat.pow_succ, Nat.add_zero, Nat.mul_comm (2 ^ L) 2, ← Nat.mul_assoc, e]
  · have e1 : (L * 4503599627370496 + k) % 4503599627370496 = k - 4503599627370496 := by omega
    have e2 : (L * 4503599627370496 + k) / 4503599627370496 - 1 = L := by omega
    rw [e1, e2, Nat.add_sub_of_le h1]

/-- the quotient's digits -/
def qd (M N : Nat) : Nat := 2 * (M * 18014398509481984 / N) + ((M * 18014398509481984) % N != 0).toNat

theorem bit_le (b : Bool) : b.toNat ≤ 1 := by cases b <;> decide

theorem qd_near (M N : Nat) (hN : 0 < N) : qd M N * N ≤ M * 36028797018963968 + N ∧ M * 36028797018963968 ≤ qd M N * N + 2 * N := by
  unfold qd
  have h := Nat.div_add_mod (M * 18014398509481984) N
  have hm := Nat.mod_lt (M * 18014398509481984) hN
  have hb := Nat.mul_le_mul_right N (bit_le (M * 18014398509481984 % N != 0))
  generalize (M * 18014398509481984 % N != 0).toNat = t at hb ⊢
  rw [Nat.add_mul, Nat.mul_assoc, Nat.mul_comm (M * 18014398509481984 / N) N]
  generalize N * (M * 18014398509481984 / N) = p at h ⊢
  generalize M * 18014398509481984 % N = q at h hm
  generalize t * N = u at hb ⊢
  omega

theorem qd_size {M N : Nat} (hM : 4503599627370496 ≤ M) (hM2 : M < 9007199254740992) (hN : 4503599627370496 ≤ N) (hN2 : N < 9007199254740992) : 18014398509481984 ≤ qd M N ∧ qd M N < 144115188075855872 := by
  have h := qd_near M N (by omega)
  have hb := bit_le (M * 18014398509481984 % N != 0)
  have h1 : 9007199254740992 ≤ M * 18014398509481984 / N := by rw [Nat.le_div_iff_mul_le (by omega)]; omega
  have h2 : M * 18014398509481984 / N < 36028797018963969 := by rw [Nat.div_lt_iff_lt_mul (by omega)]; omega
  unfold qd
  omega
/-- the word nearest to a quotient's digits at a place -/
theorem nearest_quo (neg : Bool) (Q : Nat) (place : Int) (h1 : 18014398509481984 ≤ Q) (h2 : Q < 144115188075855872) (hp1 : -100 ≤ place) (hp2 : place ≤ 100) :
    ∃ k drop : Nat, D.nearest neg Q place = D.word neg ((place + drop + 1074).toNat * 4503599627370496 + k) ∧ 4503599627370496 ≤ k ∧ k ≤ 9007199254740992 ∧ 2 ≤ drop ∧ drop ≤ 4 ∧ k * 2 ^ drop ≤ Q + 2 ^ drop ∧ Q ≤ k * 2 ^ drop + 2 ^ drop := by
  have h0 : Q ≠ 0 := by omega
  have l1 := Nat.log2_self_le h0
  have l2 := @Nat.lt_log2_self Q
  have g1 : 54 ≤ Q.log2 := (Nat.le_log2 h0).2 (by omega)
  have g2 : Q.log2 < 57 := (Nat.log2_lt h0).2 (by omega)
  obtain ⟨drop, hd⟩ : ∃ d, Q.log2 = d + 52 := ⟨Q.log2 - 52, by omega⟩
  refine ⟨Ieee.Toward.even.cut neg Q drop, drop, ?_⟩
  have hb := cut_bounds neg Q drop (by omega)
  rw [hd] at l1 l2
  have p1 : 4503599627370496 * 2 ^ drop = 2 ^ (drop + 52) := by rw [Nat.add_comm, Nat.pow_add]
  have p2 : 9007199254740992 * 2 ^ drop = 2 ^ (drop + 52 + 1) := by rw [show drop + 52 + 1 = 53 + drop by omega, Nat.pow_add]
  have q1 : 4503599627370496 ≤ Q / 2 ^ drop := by rw [Nat.le_div_iff_mul_le (Nat.two_pow_pos _), p1]; exact l1
  have q2 : Q / 2 ^ drop < 9007199254740992 := by rw [Nat.div_lt_iff_lt_mul (Nat.two_pow_pos _), p2]; exact l2
  have hdm := Nat.div_add_mod Q (2 ^ drop)
  have hml := Nat.mod_lt Q (Nat.two_pow_pos drop)
  have m1 := Nat.mul_le_mul_right (2 ^ drop) hb.1
  have m2 := Nat.mul_le_mul_right (2 ^ drop) hb.2
  rw [Nat.add_mul, Nat.one_mul] at m2
  rw [Nat.mul_comm (2 ^ drop)] at hdm
  refine ⟨?_, by omega, by omega, by omega, by omega, by omega, by omega⟩
  unfold Ieee.Format.nearest
  rw [if_neg h0, lp_d, infRung_d, binade_d]
  have hlast : max (place + (Q.log2 : Int) - D.fractionBits) (-1074) = place + drop := by
    have hf : (D.fractionBits : Int) = 52 := rfl
    rw [hf, hd]; omega
  simp only [hlast]
  have e1 : (place - (place + (drop : Int))).toNat = 0 := by omega
  have e2 : (place + (drop : Int) - place).toNat = drop := by omega
  have e3 : (place + (drop : Int) - -1074).toNat = (place + drop + 1074).toNat := by omega
  rw [e1, e2, e3, Nat.shiftLeft_zero]
  refine congrArg (D.word neg) (Nat.min_eq_left ?_)
  clear m1 m2 hdm hml p1 p2 l1 l2 e1 e2 e3 hlast
  generalize Ieee.Toward.even.cut neg Q drop = X at hb ⊢
  omega

/-- the mean of a sum A > 0 of n numbers: its word, and how near its magnitude is to A / n -/
theorem mean_pos {A n E : Nat} (hE : E = 1074) (hA : 0 < A) (hA2 : A < 4294967296) (hn : 0 < n) (hn2 : n < 131072) (neg : Bool) :
    ∃ g, (Ieee.Datum.quotient (D.fractionBits + 2) (.number neg (A * 2 ^ (52 - A.log2)) ((A.log2 : Int) - 52)) (.number false (n * 2 ^ (52 - n.log2)) ((n.log2 : Int) - 52))).map D.write = some (D.word neg g) ∧ 0 < g ∧ g < 9218868437227405312 ∧
      val g * n ≤ A * 2 ^ E + 2 ^ (E - 14) ∧ A * 2 ^ E ≤ val g * n + 2 ^ (E - 14) := by
  have hAr := read_int (n := (A : Int)) (by omega) (by omega)
  have hnr := read_int (n := (n : Int)) (by omega) (by omega)
  simp only [Int.natAbs_natCast] at hAr hnr
  obtain ⟨_, la1, lm⟩ := hAr
  obtain ⟨_, ln1, lN⟩ := hnr
  have la2 : A.log2 < 32 := (Nat.log2_lt (by omega)).2 (by omega)
  have ln2 : n.log2 < 17 := (Nat.log2_lt (by omega)).2 (by omega)
  obtain ⟨la, hla⟩ : ∃ l, l = A.log2 := ⟨_, rfl⟩
  obtain ⟨ln, hln⟩ : ∃ l, l = n.log2 := ⟨_, rfl⟩
  rw [← hla] at lm la1 la2 ⊢
  rw [← hln] at lN ln1 ln2 ⊢
  clear hla hln
  obtain ⟨M, hM⟩ : ∃ M, M = A * 2 ^ (52 - la) := ⟨_, rfl⟩
  obtain ⟨N, hN⟩ : ∃ N, N = n * 2 ^ (52 - ln) := ⟨_, rfl⟩
  rw [← hM] at lm ⊢
  rw [← hN] at lN ⊢
  have hM0 : M ≠ 0 := by intro e; rw [e] at lm; exact absurd lm (by decide)
  have hN0 : N ≠ 0 := by intro e; rw [e] at lN; exact absurd lN (by decide)
  have bM := (Nat.log2_eq_iff hM0).1 lm
  have bN := (Nat.log2_eq_iff hN0).1 lN
  rw [show (2 : Nat) ^ 52 = 4503599627370496 from rfl, show (2 : Nat) ^ (52 + 1) = 9007199254740992 from rfl] at bM bN
  have hq : Ieee.Datum.quotient (D.fractionBits + 2) (.number neg M ((la : Int) - 52)) (.number false N ((ln : Int) - 52)) = some (.number neg (qd M N) ((la : Int) - ln - 55)) := by
    have hf : D.fractionBits = 52 := rfl
    simp only [Ieee.Datum.quotient, if_neg hN0, lm, lN, hf, Bool.xor_false, Nat.shiftLeft_eq]
    have e1 : 52 + 2 + 52 - 52 = 54 := rfl
    rw [e1, show (2 : Nat) ^ 54 = 18014398509481984 from rfl]
    have e2 : (la : Int) - 52 - ((ln : Int) - 52) - ((54 : Nat) : Int) - 1 = (la : Int) - ln - 55 := by omega
    rw [e2]
    rfl
  have hs := qd_size bM.1 bM.2 bN.1 bN.2
  have hnear := qd_near M N (by omega)
  obtain ⟨k, drop, hw, k1, k2, d1, d2, c1, c2⟩ := nearest_quo neg (qd M N) ((la : Int) - ln - 55) hs.1 hs.2 (by omega) (by omega)
  obtain ⟨F, hF⟩ : ∃ F, F = 967 := ⟨_, rfl⟩
  obtain ⟨T, hT⟩ : ∃ T : Nat, T + ln = la + drop + 1019 := ⟨la + drop + 1019 - ln, by omega⟩
  have hT2 : ((la : Int) - ln - 55 + drop + 1074).toNat = T := by omega
  rw [hT2] at hw
  refine ⟨T * 4503599627370496 + k, ?_, by omega, by omega, ?_, ?_⟩
  · rw [hq]; exact congrArg some hw
  all_goals
    rw [val_rung k1 k2]
    have eP : 2 ^ drop * 2 ^ (52 - ln) * 2 ^ (la + F) = 2 ^ T := by rw [← Nat.pow_add, ← Nat.pow_add]; exact congrArg (fun x => 2 ^ x) (by omega)
    have eA : 2 ^ (52 - la) * 36028797018963968 * 2 ^ (la + F) = 2 ^ E := by
      rw [show 36028797018963968 = 2 ^ 55 from rfl, ← Nat.pow_add, ← Nat.pow_add]; exact congrArg (fun x => 2 ^ x) (by omega)
    have hX : 2 ^ drop ≤ 16 := by
      have : 2 ^ drop ≤ 2 ^ 4 := Nat.pow_le_pow_right (by omega) d2
      exact this
    have eV : 288230376151711744 * 2 ^ (la + F) ≤ 2 ^ (E - 14) := by
      rw [show 288230376151711744 = 2 ^ 58 from rfl, ← Nat.pow_add]; exact Nat.pow_le_pow_right (by omega) (by omega)
    have n1 : k * 2 ^ drop * N ≤ M * 36028797018963968 + 288230376151711744 := by
      have := Nat.mul_le_mul_right N c1
      rw [Nat.add_mul] at this
      have h16 := Nat.mul_le_mul_right N hX
      generalize 2 ^ drop * N = z at this h16
      generalize k * 2 ^ drop * N = y at this ⊢
      generalize qd M N * N = x at this hnear
      omega
    have n2 : M * 36028797018963968 ≤ k * 2 ^ drop * N + 288230376151711744 := by
      have := Nat.mul_le_mul_right N c2
      rw [Nat.add_mul] at this
      have h16 := Nat.mul_le_mul_right N hX
      generalize 2 ^ drop * N = z at this h16
      generalize k * 2 ^ drop * N = y at this ⊢
      generalize qd M N * N = x at this hnear
      omega
    have f1 : k * 2 ^ drop * N * 2 ^ (la + F) = k * 2 ^ T * n := by
      rw [hN, ← eP]
      generalize 2 ^ drop = x
      generalize 2 ^ (52 - ln) = y
      generalize 2 ^ (la + F) = z
      rw [Nat.mul_comm n y, ← Nat.mul_assoc, Nat.mul_assoc (k * x * y) n z, Nat.mul_comm n z, ← Nat.mul_assoc, Nat.mul_assoc k x y, Nat.mul_assoc k (x * y) z]
    have f2 : M * 36028797018963968 * 2 ^ (la + F) = A * 2 ^ E := by
      rw [hM, ← eA]
      generalize 2 ^ (52 - la) = x
      generalize 2 ^ (la + F) = z
      generalize 36028797018963968 = y
      rw [Nat.mul_assoc A x y, Nat.mul_assoc A (x * y) z]
    have o1 := Nat.mul_le_mul_right (2 ^ (la + F)) n1
    have o2 := Nat.mul_le_mul_right (2 ^ (la + F)) n2
    rw [Nat.add_mul, f1, f2] at o1
    rw [Nat.add_mul, f1, f2] at o2
    generalize A * 2 ^ E = aa at o1 o2 ⊢
    generalize k * 2 ^ T * n = kk at o1 o2 ⊢
    generalize 288230376151711744 * 2 ^ (la + F) = vv at o1 o2 eV
    generalize 2 ^ (E - 14) = uu at eV ⊢
    clear eP eA n1 n2 f1 f2 hX hnear hs hT hT2 hw c1 c2
    omega

/-- greater sums have greater means -/
theorem rung_mono {A B n E gA gB : Nat} (hE : E = 1074) (hn : 0 < n) (hAB : A < B) (h1 : val gA * n ≤ A * 2 ^ E + 2 ^ (E - 14)) (h2 : B * 2 ^ E ≤ val gB * n + 2 ^ (E - 14)) : gA < gB := by
  have hV : 2 ^ (E - 14) * 16384 = 2 ^ E := by
    rw [show 16384 = 2 ^ 14 from rfl, ← Nat.pow_add]; exact congrArg (fun x => 2 ^ x) (by omega)
  have hp : 0 < 2 ^ (E - 14) := Nat.two_pow_pos _
  have hm := Nat.mul_le_mul_right (2 ^ E) (Nat.succ_le_of_lt hAB)
  rw [Nat.succ_mul] at hm
  have hlt : val gA * n < val gB * n := by
    generalize 2 ^ (E - 14) = v at *
    generalize 2 ^ E = u at *
    generalize A * u = au at *
    generalize B * u = bu at *
    generalize val gA * n = x at *
    generalize val gB * n = y at *
    omega
  exact val_lt_iff.1 (Nat.lt_of_mul_lt_mul_right hlt)
end Go.Proofs.Ytpaelakaolggmaa.rank
