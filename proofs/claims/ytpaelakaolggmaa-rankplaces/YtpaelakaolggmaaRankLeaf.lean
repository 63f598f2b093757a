/-
  Contracts of package math's leaves as the laws call them, of cmp.Compare at uint64, and of rank.height and rank.Cmp.
-/
import Derived.Test.YtpaelakaolggmaaRows
import Derived.Test.YtpaelakaolggmaaRankFloat
import Derived.WalkKit
import Derived.ProofKit
import Derived.OpenShut
import Derived.Below
import Derived.Outline
import Derived.WalkSpells
import Derived.WalkLawsBesides
import Derived.RegionTactic
import Derived.BigRegion
import Derived.Laws.FloatArith
import Derived.Laws.BitsAllLaws
namespace Go.Proofs.Ytpaelakaolggmaa.rank
open Go.ChangeShapes Go.WideShapes Go.ChangeAt Go.RowKit
set_option linter.unusedVariables false

theorem ret_int {k : IntKind} {a b : Int} (h : a = b) : Ending.returned (.int k a) = .returned (.int k b) := by rw [h]

theorem ret_bool {a b : Bool} (h : a = b) : Ending.returned (.bool a) = .returned (.bool b) := by rw [h]
theorem and_low (b : Nat) (h : b < 9223372036854775808) : bits .and .u64 (b : Int) 9223372036854775808 = 0 := by
  have e := u64_and_nat b 9223372036854775808 (by omega) (by omega)
  have e2 := nat_bit 63 b
  have e3 : b / 2 ^ 63 = 0 := Nat.div_eq_of_lt h
  rw [e3] at e2
  rw [show (2 : Nat) ^ 63 = 9223372036854775808 from rfl] at e2
  rw [e2] at e
  exact e
theorem and_high (b : Nat) (h : 9223372036854775808 ≤ b) (hb : b < 18446744073709551616) : bits .and .u64 (b : Int) 9223372036854775808 = 9223372036854775808 := by
  have e := u64_and_nat b 9223372036854775808 (by omega) (by omega)
  have e2 := nat_bit 63 b
  have e3 : b / 2 ^ 63 = 1 := by rw [show (2 : Nat) ^ 63 = 9223372036854775808 from rfl]; omega
  rw [e3] at e2
  rw [show (2 : Nat) ^ 63 = 9223372036854775808 from rfl] at e2
  rw [e2] at e
  exact e
theorem or_low (b : Nat) (h : b < 9223372036854775808) : bits .or .u64 (b : Int) 9223372036854775808 = (b : Int) + 9223372036854775808 := by
  have e := u64_or_nat b 9223372036854775808 (by omega) (by omega)
  have e2 := nat_join 63 9223372036854775808 b (by decide) h
  rw [Nat.or_comm] at e2
  rw [e2] at e
  rw [show ((9223372036854775808 : Nat) : Int) = 9223372036854775808 from rfl] at e
  rw [e]; omega
theorem not_u64 (b : Nat) (hb : b < 18446744073709551616) : bits .xor .u64 IntKind.u64.max (b : Int) = 18446744073709551615 - (b : Int) := by
  have e := u64_xor_nat 18446744073709551615 b (by omega) hb
  have e2 : 18446744073709551615 ^^^ b = 18446744073709551615 - b := by
    have := @BitVec.toNat_not 64 (BitVec.ofNat 64 b)
    have h3 : (BitVec.allOnes 64 ^^^ BitVec.ofNat 64 b) = ~~~ (BitVec.ofNat 64 b) := by rw [BitVec.xor_comm, BitVec.xor_allOnes]
    have h4 := congrArg BitVec.toNat h3
    rw [this] at h4
    simp only [BitVec.toNat_xor, BitVec.toNat_allOnes, BitVec.toNat_ofNat] at h4
    rw [Nat.mod_eq_of_lt (by omega)] at h4
    exact h4
  rw [e2] at e
  have e3 : IntKind.u64.max = ((18446744073709551615 : Nat) : Int) := by decide
  rw [e3, e]; omega

theorem bits_run (b : Nat) (w : World) : (callFunc 16 #[.float .f64 b]).run Try.prog w = .ok (.value (.int .u64 b)) w := by
  rw [run_callFunc_extern Try.func16 (by kernel_rfl) (by kernel_rfl) (by kernel_rfl) (e := Extern.MathFloatBits.float64bits) (by kernel_rfl)]
  rfl
theorem frombits_run (n : Int) (w : World) : (callFunc 17 #[.int .u64 n]).run Try.prog w = .ok (.value (.float .f64 n.toNat)) w := by
  rw [run_callFunc_extern Try.func17 (by kernel_rfl) (by kernel_rfl) (by kernel_rfl) (e := Extern.MathFloatBits.float64frombits) (by kernel_rfl)]
  rfl

theorem isNaN_any (b : Nat) (hb : b < 18446744073709551616) (w : World) :
    Calls Try.prog 15 #[.float .f64 b] w fun e w' => e = .returned (.bool (isNan b)) ∧ w' = w := by
  have hn := nan_of_order hb
  go_enter Try.func15, Try.ntmps15
  go_wp2
  go_ret
  exact ⟨by rw [← hn]; rfl, rfl⟩

theorem cisNaN_any (x : Nat) (w : World) :
    Calls Try.prog 30 #[.int .u64 x] w fun e w' => e = .returned (.bool false) ∧ w' = w := by
  go_enter Try.func30, Try.ntmps30
  go_wp2
  go_ret
  exact ⟨by simp, rfl⟩

theorem compare_any (x y : Nat) (w : World) :
    Calls Try.prog 25 #[.int .u64 x, .int .u64 y] w fun e w' => e = .returned (.int .i64 (cmpH x y)) ∧ w' = w := by
  unfold cmpH
  by_cases h1 : x < y
  · have h1z : (x : Int) < (y : Int) := by omega
    go_enter Try.func25, Try.ntmps25
    go_wp2_with (go_at_call 30; refine (cisNaN_any _ _).mono ?_; rintro e w' ⟨rfl, rfl⟩)
    go_ret
    exact ⟨rfl, rfl⟩
  · by_cases h2 : y < x
    · have h1z : ¬ (x : Int) < (y : Int) := by omega
      have h2z : (y : Int) < (x : Int) := by omega
      go_enter Try.func25, Try.ntmps25
      go_wp2_with (go_at_call 30; refine (cisNaN_any _ _).mono ?_; rintro e w' ⟨rfl, rfl⟩)
      go_ret
      exact ⟨rfl, rfl⟩
    · have h1z : ¬ (x : Int) < (y : Int) := by omega
      have h2z : ¬ (y : Int) < (x : Int) := by omega
      go_enter Try.func25, Try.ntmps25
      go_wp2_with (go_at_call 30; refine (cisNaN_any _ _).mono ?_; rintro e w' ⟨rfl, rfl⟩)
      go_ret
      exact ⟨rfl, rfl⟩

theorem height_any (b : Nat) (hb : b < 18446744073709551616) (w : World) :
    Calls Try.prog 26 #[.float .f64 b] w fun e w' => e = .returned (.int .u64 (hgt b)) ∧ w' = w := by
  cases hn : isNan b with
  | true =>
    have hI := isNaN_any b hb
    rw [hn] at hI
    go_enter Try.func26, Try.ntmps26
    go_wp2_with (go_at_call 15; refine (hI _).mono ?_; rintro e w' ⟨rfl, rfl⟩)
    go_ret
    exact ⟨by simp only [isNan, decide_eq_true_eq] at hn; simp [hgt, hn], rfl⟩
  | false =>
    have hI := isNaN_any b hb
    rw [hn] at hI
    have hB := bits_run b
    have hn' : ¬ 9218868437227405312 < b % 9223372036854775808 := by simpa [isNan] using hn
    by_cases hs : b < 9223372036854775808
    · have h1 := and_low b hs
      have h2 := or_low b hs
      go_enter Try.func26, Try.ntmps26
      go_wp2_with (go_at_call 15; refine (hI _).mono ?_; rintro e w' ⟨rfl, rfl⟩)
      go_ret
      exact ⟨ret_int (by unfold hgt; rw [if_neg hn', if_pos hs]; omega), rfl⟩
    · have h1 := and_high b (by omega) hb
      have h2 := not_u64 b hb
      go_enter Try.func26, Try.ntmps26
      go_wp2_with (go_at_call 15; refine (hI _).mono ?_; rintro e w' ⟨rfl, rfl⟩)
      go_ret
      exact ⟨ret_int (by unfold hgt; rw [if_neg hn', if_neg hs]; omega), rfl⟩

theorem hgt_lt (b : Nat) (hb : b < 18446744073709551616) : hgt b < 18446744073709551616 := by
  unfold hgt; split
  · omega
  · split <;> omega

theorem cmp_any (a b : Nat) (ha : a < 18446744073709551616) (hb : b < 18446744073709551616) (w : World) :
    Calls Try.prog 12 #[.float .f64 a, .float .f64 b] w fun e w' => e = .returned (.int .i64 (cmpH (hgt a) (hgt b))) ∧ w' = w := by
  go_enter Try.func12, Try.ntmps12
  go_wp2_with (first | (go_at_call 26; refine (height_any _ (by assumption) _).mono ?_; rintro e w' ⟨rfl, rfl⟩) | (go_at_call 25; refine (compare_any _ _ _).mono ?_; rintro e w' ⟨rfl, rfl⟩))
  go_ret
  exact ⟨rfl, rfl⟩

theorem inf_neg (w : World) : Calls Try.prog 19 #[.int .i64 (-1)] w fun e w' => e = .returned (.float .f64 18442240474082181120) ∧ w' = w := by
  have hF := frombits_run
  go_enter Try.func19, Try.ntmps19
  go_wp2
  go_ret
  exact ⟨rfl, rfl⟩
theorem inf_pos (w : World) : Calls Try.prog 19 #[.int .i64 1] w fun e w' => e = .returned (.float .f64 9218868437227405312) ∧ w' = w := by
  have hF := frombits_run
  go_enter Try.func19, Try.ntmps19
  go_wp2
  go_ret
  exact ⟨rfl, rfl⟩
theorem nan_any (w : World) : Calls Try.prog 20 #[] w fun e w' => e = .returned (.float .f64 9221120237041090561) ∧ w' = w := by
  have hF := frombits_run
  go_enter Try.func20, Try.ntmps20
  go_wp2
  go_ret
  exact ⟨rfl, rfl⟩
theorem negzero (w : World) : Calls Try.prog 21 #[.float .f64 0, .float .f64 13830554455654793216] w fun e w' => e = .returned (.float .f64 9223372036854775808) ∧ w' = w := by
  have hB := bits_run
  have hF := frombits_run
  have e1 : bits .andNot .u64 0 9223372036854775808 = 0 := by decide
  have e2 : bits .and .u64 13830554455654793216 9223372036854775808 = 9223372036854775808 := by decide
  have e3 : bits .or .u64 0 9223372036854775808 = 9223372036854775808 := by decide
  go_enter Try.func21, Try.ntmps21
  go_wp2
  go_ret
  exact ⟨rfl, rfl⟩
theorem signbit_any (b : Nat) (hb : b < 18446744073709551616) (w : World) :
    Calls Try.prog 27 #[.float .f64 b] w fun e w' => e = .returned (.bool (decide (9223372036854775808 ≤ b))) ∧ w' = w := by
  have hB := bits_run b
  go_enter Try.func27, Try.ntmps27
  go_wp2
  go_ret
  exact ⟨ret_bool (by rw [Bool.eq_iff_iff, decide_eq_true_eq, decide_eq_true_eq]; unfold wrap64; omega), rfl⟩
end Go.Proofs.Ytpaelakaolggmaa.rank
