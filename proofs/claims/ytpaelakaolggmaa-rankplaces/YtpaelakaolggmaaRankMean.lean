/-
  Contracts of rank.Mean, of the chapter's own Mean and Cmp.
-/
import Derived.Test.YtpaelakaolggmaaRankLeaf
import Derived.Lib.SmallJoins
namespace Go.Proofs.Ytpaelakaolggmaa.rank
open Go.ChangeShapes Go.WideShapes Go.ChangeAt Go.RowKit
set_option linter.unusedVariables false

/-- a cell's mean, where it is a number -/
def quo (n s : Int) : Option Nat := floatBits .quo .f64 (floatOfInt .f64 s) (floatOfInt .f64 n)
/-- b are the bits of that cell's mean -/
def meanOk (n s : Int) (b : Nat) : Prop := b < 18446744073709551616 ∧ (∀ r, quo n s = some r → b = r) ∧ (quo n s = none → isNan b = true)
/-- the height of that cell's mean -/
def mh (n s : Int) : Nat := match quo n s with | some r => hgt r | none => 0

theorem hgt_of_mean {n s : Int} {b : Nat} (h : meanOk n s b) : hgt b = mh n s := by
  unfold mh
  cases hq : quo n s with
  | some r => rw [h.2.1 r hq]
  | none =>
    have := h.2.2 hq
    simp only [isNan, decide_eq_true_eq] at this
    simp [hgt, this]

theorem quo_lt {n s : Int} {r : Nat} (h : quo n s = some r) : r < 18446744073709551616 := Ieee.Format.div_lt D h

theorem run_quo_none {P : Program} (w : World) (t : TypeId) (x y : Nat) (h : floatBits .quo .f64 x y = none) : ∃ b, b < 18446744073709551616 ∧ isNan b = true ∧ (binOp .quo t (.float .f64 x) (.float .f64 y)).run P w = .ok (.float .f64 b) w.drew := by
  refine ⟨(Question.nanBits .f64 x y).cut (w.tape w.drawn (.nanBits .f64 x y)), ?_, ?_, by simp [floatBits] at h; simp [binOp, Op.floatArith, h, choose, Sem.run]; intro hf; cases hf⟩
  · simp only [Question.cut]
    generalize w.tape w.drawn (.nanBits .f64 x y) = t
    rw [show (2 : Nat) ^ 63 = 9223372036854775808 from rfl, show (2 : Nat) ^ 52 = 4503599627370496 from rfl]
    omega
  · refine decide_eq_true ?_
    simp only [Question.cut]
    generalize w.tape w.drawn (.nanBits .f64 x y) = t
    rw [show (2 : Nat) ^ 63 = 9223372036854775808 from rfl, show (2 : Nat) ^ 52 = 4503599627370496 from rfl]
    have hu : t / 2 % (4503599627370496 - 1) < 4503599627370495 := Nat.mod_lt _ (by omega)
    generalize t / 2 % (4503599627370496 - 1) = u at hu ⊢
    rcases Nat.mod_two_eq_zero_or_one t with e | e <;> rw [e] <;> omega

theorem mean_any (n s lo hi : Int) (w : World) :
    Calls Try.prog 13 #[.agg #[.int .i64 n, .int .i64 s, .int .i64 lo, .int .i64 hi]] w fun e w' => ∃ b, meanOk n s b ∧ e = .returned (.float .f64 b) ∧ Below w.heap.size w w' := by
  cases hq : quo n s with
  | some r =>
    have hr := fun (w : World) => run_float_arith (P := Try.prog) w .quo 26 .f64 _ _ r hq
    go_enter Try.func13, Try.ntmps13
    go_wp2
    go_ret
    exact ⟨r, ⟨quo_lt hq, fun q h => (by rw [hq] at h; exact Option.some.inj h), fun h => (by rw [hq] at h; cases h)⟩, rfl, (Below.refl _ _).alloc (Nat.le_refl _) _⟩
  | none =>
    obtain ⟨b, hb1, hb2, hr⟩ := run_quo_none (P := Try.prog) (w.alloc (.cells #[.int .i64 n, .int .i64 s, .int .i64 lo, .int .i64 hi] 23)) 26 _ _ hq
    go_enter Try.func13, Try.ntmps13
    go_wp2
    go_ret
    exact ⟨b, ⟨hb1, fun q h => (by rw [hq] at h; cases h), fun _ => hb2⟩, rfl, ((Below.refl _ _).alloc (Nat.le_refl _) _).drew⟩

theorem refMean_any (n s lo hi : Int) (w : World) :
    Calls Try.prog 14 #[.agg #[.int .i64 n, .int .i64 s, .int .i64 lo, .int .i64 hi]] w fun e w' => ∃ b, meanOk n s b ∧ e = .returned (.float .f64 b) ∧ Below w.heap.size w w' := by
  cases hq : quo n s with
  | some r =>
    have hr := fun (w : World) => run_float_arith (P := Try.prog) w .quo 26 .f64 _ _ r hq
    go_enter Try.func14, Try.ntmps14
    go_wp2
    go_ret
    exact ⟨r, ⟨quo_lt hq, fun q h => (by rw [hq] at h; exact Option.some.inj h), fun h => (by rw [hq] at h; cases h)⟩, rfl, (Below.refl _ _).alloc (Nat.le_refl _) _⟩
  | none =>
    obtain ⟨b, hb1, hb2, hr⟩ := run_quo_none (P := Try.prog) (w.alloc (.cells #[.int .i64 n, .int .i64 s, .int .i64 lo, .int .i64 hi] 23)) 26 _ _ hq
    go_enter Try.func14, Try.ntmps14
    go_wp2
    go_ret
    exact ⟨b, ⟨hb1, fun q h => (by rw [hq] at h; cases h), fun _ => hb2⟩, rfl, ((Below.refl _ _).alloc (Nat.le_refl _) _).drew⟩

theorem hgt_pos {b : Nat} (hb : b < 18446744073709551616) (h : isNan b = false) : 0 < hgt b := by
  simp only [isNan, decide_eq_false_iff_not] at h
  unfold hgt; rw [if_neg h]; split <;> omega
theorem hgt_nan {b : Nat} (h : isNan b = true) : hgt b = 0 := by
  simp only [isNan, decide_eq_true_eq] at h
  unfold hgt; rw [if_pos h]
theorem hgt_sv {b : Nat} (hb : b < 18446744073709551616) (h : isNan b = false) : (hgt b : Int) = if b < 9223372036854775808 then sv b + 9223372036854775808 else sv b + 9223372036854775807 := by
  simp only [isNan, decide_eq_false_iff_not] at h
  unfold hgt sv; rw [if_neg h]; split <;> omega
theorem fin_of {b : Nat} (hb : b < 18446744073709551616) (h : isNan b = false) : fin b := by
  simp only [isNan, decide_eq_false_iff_not] at h
  exact ⟨hb, by omega⟩

theorem refCmp_any (a b : Nat) (ha : a < 18446744073709551616) (hb : b < 18446744073709551616) (w : World) :
    Calls Try.prog 18 #[.float .f64 a, .float .f64 b] w fun e w' => e = .returned (.int .i64 (cmpH (hgt a) (hgt b))) ∧ w' = w := by
  have hIa := isNaN_any a ha
  have hIb := isNaN_any b hb
  have hSa := signbit_any a ha
  have hSb := signbit_any b hb
  cases na : isNan a with
  | true =>
    have ea := hgt_nan na
    rw [na] at hIa
    cases nb : isNan b with
    | true =>
      have eb := hgt_nan nb
      rw [nb] at hIb
      have hc : cmpH (hgt a) (hgt b) = 0 := by rw [ea, eb]; rfl
      rw [hc]
      go_enter Try.func18, Try.ntmps18
      go_wp2_with (go_at_call 15; first | (with_reducible refine (hIa _).mono ?_; rintro e w' ⟨rfl, rfl⟩) | (with_reducible refine (hIb _).mono ?_; rintro e w' ⟨rfl, rfl⟩))
      go_ret
      exact ⟨rfl, rfl⟩
    | false =>
      have eb := hgt_pos hb nb
      rw [nb] at hIb
      have hc : cmpH (hgt a) (hgt b) = -1 := by rw [ea]; simp [cmpH, eb]
      rw [hc]
      go_enter Try.func18, Try.ntmps18
      go_wp2_with (go_at_call 15; first | (with_reducible refine (hIa _).mono ?_; rintro e w' ⟨rfl, rfl⟩) | (with_reducible refine (hIb _).mono ?_; rintro e w' ⟨rfl, rfl⟩))
      go_ret
      exact ⟨rfl, rfl⟩
  | false =>
    have ea := hgt_pos ha na
    rw [na] at hIa
    cases nb : isNan b with
    | true =>
      have eb := hgt_nan nb
      rw [nb] at hIb
      have hc : cmpH (hgt a) (hgt b) = 1 := by rw [eb]; simp [cmpH, ea]
      rw [hc]
      go_enter Try.func18, Try.ntmps18
      go_wp2_with (go_at_call 15; first | (with_reducible refine (hIa _).mono ?_; rintro e w' ⟨rfl, rfl⟩) | (with_reducible refine (hIb _).mono ?_; rintro e w' ⟨rfl, rfl⟩))
      go_ret
      exact ⟨rfl, rfl⟩
    | false =>
      rw [nb] at hIb
      have hva := hgt_sv ha na
      have hvb := hgt_sv hb nb
      have ho := order_fin (fin_of ha na) (fin_of hb nb)
      have ho0 := order_fin (y := 0) (fin_of ha na) ⟨by omega, by omega⟩
      have hsv0 : sv 0 = 0 := rfl
      rw [hsv0] at ho0
      by_cases hlt : sv a < sv b
      · have hc : cmpH (hgt a) (hgt b) = -1 := by
          unfold cmpH; rw [if_pos]
          revert hva hvb; unfold sv at *; split <;> split <;> omega
        have hcm : compare (sv a) (sv b) = .lt := Int.compare_eq_lt.2 hlt
        rw [hcm] at ho
        have ho' : FloatKind.f64.format.order a b = some .lt := ho
        rw [hc]
        clear ho0 hva hvb ho
        go_enter Try.func18, Try.ntmps18
        go_wp2_with (go_at_call 15; first | (with_reducible refine (hIa _).mono ?_; rintro e w' ⟨rfl, rfl⟩) | (with_reducible refine (hIb _).mono ?_; rintro e w' ⟨rfl, rfl⟩))
        go_ret
        exact ⟨rfl, rfl⟩
      · by_cases hgt' : sv b < sv a
        · have hc : cmpH (hgt a) (hgt b) = 1 := by
            unfold cmpH; rw [if_neg, if_pos]
            · revert hva hvb; unfold sv at *; split <;> split <;> omega
            · revert hva hvb; unfold sv at *; split <;> split <;> omega
          have hcm : compare (sv a) (sv b) = .gt := Int.compare_eq_gt.2 hgt'
          rw [hcm] at ho
          have ho' : FloatKind.f64.format.order a b = some .gt := ho
          rw [hc]
          clear ho0 hva hvb ho
          go_enter Try.func18, Try.ntmps18
          go_wp2_with (go_at_call 15; first | (with_reducible refine (hIa _).mono ?_; rintro e w' ⟨rfl, rfl⟩) | (with_reducible refine (hIb _).mono ?_; rintro e w' ⟨rfl, rfl⟩))
          go_ret
          exact ⟨rfl, rfl⟩
        · have heq : sv a = sv b := by omega
          have hcm : compare (sv a) (sv b) = .eq := Int.compare_eq_eq.2 heq
          rw [hcm] at ho
          have ho' : FloatKind.f64.format.order a b = some .eq := ho
          by_cases hz : sv a = 0
          · have hcm0 : compare (sv a) 0 = .eq := Int.compare_eq_eq.2 hz
            rw [hcm0] at ho0
            have ho0' : FloatKind.f64.format.order a 0 = some .eq := ho0
            clear ho0 ho
            by_cases sa : 9223372036854775808 ≤ a <;> by_cases sb : 9223372036854775808 ≤ b
            · have hc : cmpH (hgt a) (hgt b) = 0 := by
                rw [if_neg (by omega)] at hva hvb
                unfold cmpH; rw [if_neg (by omega), if_neg (by omega)]
              rw [hc]
              rw [decide_eq_true sa] at hSa
              rw [decide_eq_true sb] at hSb
              clear hva hvb
              go_enter Try.func18, Try.ntmps18
              go_wp2_with (first | (go_at_call 15; first | (with_reducible refine (hIa _).mono ?_; rintro e w' ⟨rfl, rfl⟩) | (with_reducible refine (hIb _).mono ?_; rintro e w' ⟨rfl, rfl⟩)) | (go_at_call 27; first | (with_reducible refine (hSa _).mono ?_; rintro e w' ⟨rfl, rfl⟩) | (with_reducible refine (hSb _).mono ?_; rintro e w' ⟨rfl, rfl⟩)))
              go_ret
              exact ⟨rfl, rfl⟩
            · have hc : cmpH (hgt a) (hgt b) = -1 := by
                rw [if_neg (by omega)] at hva
                rw [if_pos (by omega)] at hvb
                unfold cmpH; rw [if_pos (by omega)]
              rw [hc]
              rw [decide_eq_true sa] at hSa
              rw [decide_eq_false sb] at hSb
              clear hva hvb
              go_enter Try.func18, Try.ntmps18
              go_wp2_with (first | (go_at_call 15; first | (with_reducible refine (hIa _).mono ?_; rintro e w' ⟨rfl, rfl⟩) | (with_reducible refine (hIb _).mono ?_; rintro e w' ⟨rfl, rfl⟩)) | (go_at_call 27; first | (with_reducible refine (hSa _).mono ?_; rintro e w' ⟨rfl, rfl⟩) | (with_reducible refine (hSb _).mono ?_; rintro e w' ⟨rfl, rfl⟩)))
              go_ret
              exact ⟨rfl, rfl⟩
            · have hc : cmpH (hgt a) (hgt b) = 1 := by
                rw [if_pos (by omega)] at hva
                rw [if_neg (by omega)] at hvb
                unfold cmpH; rw [if_neg (by omega), if_pos (by omega)]
              rw [hc]
              rw [decide_eq_false sa] at hSa
              rw [decide_eq_true sb] at hSb
              clear hva hvb
              go_enter Try.func18, Try.ntmps18
              go_wp2_with (first | (go_at_call 15; first | (with_reducible refine (hIa _).mono ?_; rintro e w' ⟨rfl, rfl⟩) | (with_reducible refine (hIb _).mono ?_; rintro e w' ⟨rfl, rfl⟩)) | (go_at_call 27; first | (with_reducible refine (hSa _).mono ?_; rintro e w' ⟨rfl, rfl⟩) | (with_reducible refine (hSb _).mono ?_; rintro e w' ⟨rfl, rfl⟩)))
              go_ret
              exact ⟨rfl, rfl⟩
            · have hc : cmpH (hgt a) (hgt b) = 0 := by
                rw [if_pos (by omega)] at hva hvb
                unfold cmpH; rw [if_neg (by omega), if_neg (by omega)]
              rw [hc]
              rw [decide_eq_false sa] at hSa
              rw [decide_eq_false sb] at hSb
              clear hva hvb
              go_enter Try.func18, Try.ntmps18
              go_wp2_with (first | (go_at_call 15; first | (with_reducible refine (hIa _).mono ?_; rintro e w' ⟨rfl, rfl⟩) | (with_reducible refine (hIb _).mono ?_; rintro e w' ⟨rfl, rfl⟩)) | (go_at_call 27; first | (with_reducible refine (hSa _).mono ?_; rintro e w' ⟨rfl, rfl⟩) | (with_reducible refine (hSb _).mono ?_; rintro e w' ⟨rfl, rfl⟩)))
              go_ret
              exact ⟨rfl, rfl⟩
          · have hne : FloatKind.f64.format.order a 0 = some (compare (sv a) 0) := ho0
            have hne2 : (some (compare (sv a) 0) == some Ordering.eq) = false := by
              rw [Bool.eq_false_iff]; intro h
              exact hz (Int.compare_eq_eq.1 (Option.some.inj (eq_of_beq h)))
            have hne' : (FloatKind.f64.format.order a 0 == some Ordering.eq) = false := by rw [hne]; exact hne2
            have hc : cmpH (hgt a) (hgt b) = 0 := by
              have : a = b := by unfold sv at heq hz; split at heq <;> split at heq <;> omega
              subst this
              unfold cmpH; rw [if_neg (by omega), if_neg (by omega)]
            rw [hc]
            clear ho0 ho hva hvb hne hne2
            go_enter Try.func18, Try.ntmps18
            go_wp2_with (first | (go_at_call 15; first | (with_reducible refine (hIa _).mono ?_; rintro e w' ⟨rfl, rfl⟩) | (with_reducible refine (hIb _).mono ?_; rintro e w' ⟨rfl, rfl⟩)))
            go_ret
            exact ⟨rfl, rfl⟩
end Go.Proofs.Ytpaelakaolggmaa.rank
