/-
  The walk of the statement RankEdges.
-/
import Derived.Test.YtpaelakaolggmaaRankKnown
namespace Go.Proofs.Ytpaelakaolggmaa.rank
open Go.ChangeShapes Go.WideShapes Go.ChangeAt Go.RowKit Go.Deep
set_option linter.unusedVariables false

theorem hgt_range {b : Nat} (hb : b < 18446744073709551616) (h : isNan b = false) : 4503599627370495 ≤ hgt b ∧ hgt b ≤ 18442240474082181120 := by
  simp only [isNan, decide_eq_false_iff_not] at h
  unfold hgt; rw [if_neg h]; split <;> omega
theorem hgt_ninf : hgt 18442240474082181120 = 4503599627370495 := by decide
theorem hgt_pinf : hgt 9218868437227405312 = 18442240474082181120 := by decide
theorem hgt_nz : hgt 9223372036854775808 = 9223372036854775807 := by decide
theorem hgt_pz : hgt 0 = 9223372036854775808 := by decide
theorem hgt_qnan : hgt 9221120237041090561 = 0 := by decide

set_option maxHeartbeats 4000000 in
theorem edges_walk (a : Nat) (ha : a < 18446744073709551616) (w : World) :
    Calls Try.prog 8 #[.int .u64 (a : Nat)] w fun e w' => e = .returned (.bool true) ∧ Below w.heap.size w w' := by
  have hF := frombits_run
  have hI := isNaN_any a ha
  cases hn : isNan a with
  | true =>
    rw [hn] at hI
    have hz := hgt_nan hn
    have h1 := cmp_val a 18442240474082181120 (-1) ha (by omega) (by rw [hz, hgt_ninf]; rfl)
    have h2 := cmp_val a 9221120237041090561 0 ha (by omega) (by rw [hz, hgt_qnan]; rfl)
    clear hz hn
    go_enter Try.func8, Try.ntmps8
    go_wp2_with (first | (go_at_call 11; refine (known_any _).mono ?_; rintro e w2 ⟨rfl, hb2⟩) | (go_at_call 15; refine (hI _).mono ?_; rintro e w2 ⟨rfl, rfl⟩) | (go_at_call 20; refine (nan_any _).mono ?_; rintro e w2 ⟨rfl, rfl⟩) | (go_at_call 19; refine (inf_neg _).mono ?_; rintro e w2 ⟨rfl, rfl⟩) | (go_at_call 12; first | (with_reducible refine (h1 _).mono ?_; rintro e w2 ⟨rfl, rfl⟩) | (with_reducible refine (h2 _).mono ?_; rintro e w2 ⟨rfl, rfl⟩)))
    go_ret
    exact ⟨rfl, by assumption⟩
  | false =>
    rw [hn] at hI
    have hz := hgt_range ha hn
    have h1 := cmp_val a 9221120237041090561 1 ha (by omega) (by rw [hgt_qnan]; unfold cmpH; rw [if_neg (by omega), if_pos (by omega)])
    obtain ⟨c2, hc2, h2'⟩ : ∃ c, cmpH (hgt a) (hgt 9218868437227405312) = c ∧ c ≤ 0 := ⟨_, rfl, by rw [hgt_pinf]; exact cmpH_le hz.2⟩
    obtain ⟨c3, hc3, h3'⟩ : ∃ c, cmpH (hgt a) (hgt 18442240474082181120) = c ∧ 0 ≤ c := ⟨_, rfl, by rw [hgt_ninf]; exact cmpH_ge hz.1⟩
    have h2 := cmp_val a 9218868437227405312 c2 ha (by omega) hc2
    have h3 := cmp_val a 18442240474082181120 c3 ha (by omega) hc3
    have d3 : decide (c3 ≥ 0) = true := decide_eq_true h3'
    by_cases hs : 9223372036854775808 ≤ hgt a
    · obtain ⟨c5, hc5, h5'⟩ : ∃ c, cmpH (hgt a) (hgt 0) = c ∧ ¬ c < 0 := ⟨_, rfl, by rw [hgt_pz]; have := cmpH_ge hs; omega⟩
      have h4 := cmp_val 9223372036854775808 a (-1) (by omega) ha (by rw [hgt_nz]; unfold cmpH; rw [if_pos (by omega)])
      have h5 := cmp_val a 0 c5 ha (by omega) hc5
      have d5 : decide (c5 < 0) = false := decide_eq_false h5'
      clear hz hn hs hc2 hc3 hc5
      go_enter Try.func8, Try.ntmps8
      go_wp2_with (first | (go_at_call 11; refine (known_any _).mono ?_; rintro e w2 ⟨rfl, hb2⟩) | (go_at_call 15; refine (hI _).mono ?_; rintro e w2 ⟨rfl, rfl⟩) | (go_at_call 20; refine (nan_any _).mono ?_; rintro e w2 ⟨rfl, rfl⟩) | (go_at_call 19; first | (with_reducible refine (inf_neg _).mono ?_; rintro e w2 ⟨rfl, rfl⟩) | (with_reducible refine (inf_pos _).mono ?_; rintro e w2 ⟨rfl, rfl⟩)) | (go_at_call 21; refine (negzero _).mono ?_; rintro e w2 ⟨rfl, rfl⟩) | (go_at_call 12; first | (with_reducible refine (h1 _).mono ?_; rintro e w2 ⟨rfl, rfl⟩) | (with_reducible refine (h2 _).mono ?_; rintro e w2 ⟨rfl, rfl⟩) | (with_reducible refine (h3 _).mono ?_; rintro e w2 ⟨rfl, rfl⟩) | (with_reducible refine (h4 _).mono ?_; rintro e w2 ⟨rfl, rfl⟩) | (with_reducible refine (h5 _).mono ?_; rintro e w2 ⟨rfl, rfl⟩)))
      go_ret
      exact ⟨rfl, by assumption⟩
    · obtain ⟨c4, hc4, h4'⟩ : ∃ c, cmpH (hgt 9223372036854775808) (hgt a) = c ∧ ¬ c < 0 := ⟨_, rfl, by rw [hgt_nz]; have := cmpH_ge (x := 9223372036854775807) (y := hgt a) (by omega); omega⟩
      have h4 := cmp_val 9223372036854775808 a c4 (by omega) ha hc4
      have d4 : decide (c4 < 0) = false := decide_eq_false h4'
      clear hz hn hs hc2 hc3 hc4
      go_enter Try.func8, Try.ntmps8
      go_wp2_with (first | (go_at_call 11; refine (known_any _).mono ?_; rintro e w2 ⟨rfl, hb2⟩) | (go_at_call 15; refine (hI _).mono ?_; rintro e w2 ⟨rfl, rfl⟩) | (go_at_call 20; refine (nan_any _).mono ?_; rintro e w2 ⟨rfl, rfl⟩) | (go_at_call 19; first | (with_reducible refine (inf_neg _).mono ?_; rintro e w2 ⟨rfl, rfl⟩) | (with_reducible refine (inf_pos _).mono ?_; rintro e w2 ⟨rfl, rfl⟩)) | (go_at_call 21; refine (negzero _).mono ?_; rintro e w2 ⟨rfl, rfl⟩) | (go_at_call 12; first | (with_reducible refine (h1 _).mono ?_; rintro e w2 ⟨rfl, rfl⟩) | (with_reducible refine (h2 _).mono ?_; rintro e w2 ⟨rfl, rfl⟩) | (with_reducible refine (h3 _).mono ?_; rintro e w2 ⟨rfl, rfl⟩) | (with_reducible refine (h4 _).mono ?_; rintro e w2 ⟨rfl, rfl⟩)))
      go_ret
      exact ⟨rfl, by assumption⟩
end Go.Proofs.Ytpaelakaolggmaa.rank
