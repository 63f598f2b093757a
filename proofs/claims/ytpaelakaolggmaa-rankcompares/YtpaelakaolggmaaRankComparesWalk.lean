/-
  The walk of the statement RankCompares.
-/
import Derived.Test.YtpaelakaolggmaaRankKnown
namespace Go.Proofs.Ytpaelakaolggmaa.rank
open Go.ChangeShapes Go.WideShapes Go.ChangeAt Go.RowKit Go.Deep
set_option linter.unusedVariables false

set_option maxHeartbeats 2000000 in
theorem compares_walk (a b : Nat) (ha : a < 18446744073709551616) (hb : b < 18446744073709551616) (w : World) :
    Calls Try.prog 6 #[.int .u64 (a : Nat), .int .u64 (b : Nat)] w fun e w' => e = .returned (.bool true) ∧ Below w.heap.size w w' := by
  have hF := frombits_run
  obtain ⟨c, hc⟩ : ∃ c, cmpH (hgt a) (hgt b) = c := ⟨_, rfl⟩
  have h1 := cmp_val a b c ha hb hc
  have h2 := refCmp_any a b ha hb
  rw [hc] at h2
  have h3 := cmp_val a a 0 ha ha (cmpH_self _)
  by_cases e : a = b
  · subst e
    have hc0 : c = 0 := by rw [← hc, cmpH_self]
    subst hc0
    clear hc h1
    go_enter Try.func6, Try.ntmps6
    go_wp2_with (first | (go_at_call 11; refine (known_any _).mono ?_; rintro e w2 ⟨rfl, hb2⟩) | (go_at_call 12; refine (h3 _).mono ?_; rintro e w2 ⟨rfl, rfl⟩) | (go_at_call 18; refine (h2 _).mono ?_; rintro e w2 ⟨rfl, rfl⟩))
    go_ret
    exact ⟨rfl, by assumption⟩
  · clear hc
    go_enter Try.func6, Try.ntmps6
    go_wp2_with (first | (go_at_call 11; refine (known_any _).mono ?_; rintro e w2 ⟨rfl, hb2⟩) | (go_at_call 12; first | (with_reducible refine (h1 _).mono ?_; rintro e w2 ⟨rfl, rfl⟩) | (with_reducible refine (h3 _).mono ?_; rintro e w2 ⟨rfl, rfl⟩)) | (go_at_call 18; refine (h2 _).mono ?_; rintro e w2 ⟨rfl, rfl⟩))
    go_ret
    exact ⟨rfl, by assumption⟩
end Go.Proofs.Ytpaelakaolggmaa.rank
