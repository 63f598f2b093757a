/-
  The chapter's examples hold: the contract of the statements' own 'known'.
-/
import Derived.Test.YtpaelakaolggmaaRankOrderEnd
namespace Go.Proofs.Ytpaelakaolggmaa.rank
open Go.ChangeShapes Go.WideShapes Go.ChangeAt Go.RowKit Go.Deep
set_option linter.unusedVariables false

theorem cmpH_self (x : Nat) : cmpH x x = 0 := by unfold cmpH; rw [if_neg (by omega), if_neg (by omega)]
theorem cmpH_le {x y : Nat} (h : x ≤ y) : cmpH x y ≤ 0 := by unfold cmpH; split <;> (try split) <;> omega
theorem cmpH_ge {x y : Nat} (h : y ≤ x) : 0 ≤ cmpH x y := by unfold cmpH; split <;> (try split) <;> omega
theorem cmpH_lt {x y : Nat} (h : x < y) : cmpH x y = -1 := by unfold cmpH; rw [if_pos h]
theorem cmpH_gt {x y : Nat} (h : y < x) : cmpH x y = 1 := by unfold cmpH; rw [if_neg (by omega), if_pos h]

theorem mean_val (n s lo hi : Int) (r : Nat) (hq : quo n s = some r) (w : World) :
    Calls Try.prog 13 #[.agg #[.int .i64 n, .int .i64 s, .int .i64 lo, .int .i64 hi]] w fun e w' => e = .returned (.float .f64 r) ∧ Below w.heap.size w w' :=
  (mean_any n s lo hi w).mono fun e w' ⟨b, hb, he, hB⟩ => ⟨by rw [he, hb.2.1 r hq], hB⟩

theorem cmp_val (a b : Nat) (c : Int) (ha : a < 18446744073709551616) (hb : b < 18446744073709551616) (hc : cmpH (hgt a) (hgt b) = c) (w : World) :
    Calls Try.prog 12 #[.float .f64 a, .float .f64 b] w fun e w' => e = .returned (.int .i64 c) ∧ w' = w := by
  rw [← hc]; exact cmp_any a b ha hb w

def two : List C4 := [⟨1, 2, 0, 0⟩, ⟨1, 1, 0, 0⟩]
theorem two_ord : IsOrd two [1, 0] := by
  refine ⟨?_, ?_⟩
  · exact List.Perm.swap 0 1 []
  · simp only [List.pairwise_cons, List.mem_cons, List.not_mem_nil, or_false, forall_eq, false_imp_iff, implies_true, List.Pairwise.nil, and_true]
    exact of_decide_eq_true (by kernel_rfl)

theorem quo32 : quo 2 3 = some 4609434218613702656 := by kernel_rfl
theorem one_half : (FloatKind.f64.format.order 4609434218613702656 4609434218613702656) = some .eq := by kernel_rfl

set_option maxHeartbeats 4000000 in
theorem known_any (w : World) :
    Calls Try.prog 11 #[] w fun e w' => e = .returned (.bool true) ∧ Below w.heap.size w w' := by
  have h1 := cmp_val 9221120237041090561 18442240474082181120 (-1) (by omega) (by omega) (by kernel_rfl)
  have h2 := cmp_val 9223372036854775808 0 (-1) (by omega) (by omega) (by kernel_rfl)
  have h3 := mean_val 2 3 0 0 _ quo32
  have h4 := one_half
  have hO := order_some two w.heap.size 0 2 (w.alloc (.cells #[.slice none 0 0, .int .i64 1, .int .i64 2, .int .i64 0, .int .i64 0, .slice none 0 0, .int .i64 1, .int .i64 1, .int .i64 0, .int .i64 0] 49)) (by decide) (by simp) (by decide) (by
    intro i hi
    match i, hi with
    | 0, _ => simp [go_sem, two, nth]
    | 1, _ => simp [go_sem, two, nth])
  have hL : two.length = 2 := rfl
  rw [hL] at hO
  go_enter Try.func11, Try.ntmps11
  go_wp2_with fail
  refine hO.mono ?_
  rintro e w1 ⟨rfl, hb1, l, hl, hl2, hz1, hc1⟩
  have el : l = [1, 0] := hl.uniq two_ord
  subst el
  obtain ⟨c0, _⟩ := hc1 0 (by simp)
  have c0' : w1.cell? ⟨w.heap.size + 1 + 1 + 1, 0, none⟩ = some (.int .i64 1) := by simpa using c0
  have hB : Below w.heap.size w w1 := ((Below.refl _ _).alloc (Nat.le_refl _) _).trans (hb1.mono (by simp))
  have HB : Hid (Below w.heap.size w w1) := hB
  have hs : w.heap.size ≤ w1.heap.size := hB.size
  clear hO hb1 hl hl2 hc1 c0 hB
  go_wp2_with (first | (go_at_call 20; refine (nan_any _).mono ?_; rintro e w2 ⟨rfl, rfl⟩) | (go_at_call 19; refine (inf_neg _).mono ?_; rintro e w2 ⟨rfl, rfl⟩) | (go_at_call 21; refine (negzero _).mono ?_; rintro e w2 ⟨rfl, rfl⟩) | (go_at_call 12; first | (with_reducible refine (h1 _).mono ?_; rintro e w2 ⟨rfl, rfl⟩) | (with_reducible refine (h2 _).mono ?_; rintro e w2 ⟨rfl, rfl⟩)) | (go_at_call 13; refine (h3 _).mono ?_; rintro e w2 ⟨rfl, hb2⟩))
  go_ret
  exact ⟨rfl, HB.out.trans (hb2.mono hs)⟩
end Go.Proofs.Ytpaelakaolggmaa.rank
