/-
  The walk of the statement RankTotal.
-/
import Derived.Test.YtpaelakaolggmaaRankKnown
namespace Go.Proofs.Ytpaelakaolggmaa.rank
open Go.ChangeShapes Go.WideShapes Go.ChangeAt Go.RowKit Go.Deep
set_option linter.unusedVariables false

theorem order_lt {a b : Nat} (ha : a < 18446744073709551616) (hb : b < 18446744073709551616) (h : FloatKind.f64.format.order a b = some .lt) : hgt a < hgt b := by
  by_cases na : isNan a = true
  · have := order_nan (x := a) (y := b) (.inl (by simp only [isNan, decide_eq_true_eq] at na; omega))
    rw [show FloatKind.f64.format.order a b = D.order a b from rfl, this] at h; cases h
  · by_cases nb : isNan b = true
    · have := order_nan (x := a) (y := b) (.inr (by simp only [isNan, decide_eq_true_eq] at nb; omega))
      rw [show FloatKind.f64.format.order a b = D.order a b from rfl, this] at h; cases h
    · have na' := Bool.eq_false_iff.2 na
      have nb' := Bool.eq_false_iff.2 nb
      have ho := order_fin (fin_of ha na') (fin_of hb nb')
      rw [show FloatKind.f64.format.order a b = D.order a b from rfl, ho] at h
      have hl := Int.compare_eq_lt.1 (Option.some.inj h)
      have hva := hgt_sv ha na'
      have hvb := hgt_sv hb nb'
      revert hva hvb; unfold sv at *; split <;> split <;> omega
theorem order_gt {a b : Nat} (ha : a < 18446744073709551616) (hb : b < 18446744073709551616) (h : FloatKind.f64.format.order a b = some .gt) : hgt b < hgt a := by
  by_cases na : isNan a = true
  · have := order_nan (x := a) (y := b) (.inl (by simp only [isNan, decide_eq_true_eq] at na; omega))
    rw [show FloatKind.f64.format.order a b = D.order a b from rfl, this] at h; cases h
  · by_cases nb : isNan b = true
    · have := order_nan (x := a) (y := b) (.inr (by simp only [isNan, decide_eq_true_eq] at nb; omega))
      rw [show FloatKind.f64.format.order a b = D.order a b from rfl, this] at h; cases h
    · have na' := Bool.eq_false_iff.2 na
      have nb' := Bool.eq_false_iff.2 nb
      have ho := order_fin (fin_of ha na') (fin_of hb nb')
      rw [show FloatKind.f64.format.order a b = D.order a b from rfl, ho] at h
      have hl := Int.compare_eq_gt.1 (Option.some.inj h)
      have hva := hgt_sv ha na'
      have hvb := hgt_sv hb nb'
      revert hva hvb; unfold sv at *; split <;> split <;> omega

set_option maxHeartbeats 8000000 in
/-- what Cmp tells of each pair, and what the numbers' own order tells -/
theorem total_way (a b c : Nat) (p q r : Int) (L G : Bool) (w : World)
    (h1 : ∀ w, Calls Try.prog 12 #[.float .f64 a, .float .f64 b] w fun e w' => e = .returned (.int .i64 p) ∧ w' = w)
    (h2 : ∀ w, Calls Try.prog 12 #[.float .f64 b, .float .f64 c] w fun e w' => e = .returned (.int .i64 q) ∧ w' = w)
    (h3 : ∀ w, Calls Try.prog 12 #[.float .f64 a, .float .f64 c] w fun e w' => e = .returned (.int .i64 r) ∧ w' = w)
    (h4 : ∀ w, Calls Try.prog 12 #[.float .f64 b, .float .f64 a] w fun e w' => e = .returned (.int .i64 (-p)) ∧ w' = w)
    (hL : (FloatKind.f64.format.order a b == some Ordering.lt) = L) (hG : (FloatKind.f64.format.order a b == some Ordering.gt) = G)
    (hp : (p = -1 ∧ G = false) ∨ (p = 0 ∧ L = false ∧ G = false) ∨ (p = 1 ∧ L = false)) (hq : q = -1 ∨ q = 0 ∨ q = 1) (hr : r = -1 ∨ r = 0 ∨ r = 1)
    (g1 : p ≤ 0 → q ≤ 0 → r ≤ 0) (g2 : 0 ≤ p → 0 ≤ q → 0 ≤ r) :
    Calls Try.prog 7 #[.int .u64 (a : Nat), .int .u64 (b : Nat), .int .u64 (c : Nat)] w fun e w' => e = .returned (.bool true) ∧ Below w.heap.size w w' := by
  have hF := frombits_run
  rcases hp with ⟨rfl, rfl⟩ | ⟨rfl, rfl, rfl⟩ | ⟨rfl, rfl⟩ <;> rcases hq with rfl | rfl | rfl <;> rcases hr with rfl | rfl | rfl <;> first | (exfalso; omega) | skip
  all_goals clear g1 g2
  all_goals first | (cases L <;> skip) | (cases G <;> skip) | skip
  all_goals
    as_aux_lemma =>
      go_enter Try.func7, Try.ntmps7
      go_wp2_with (first | (go_at_call 11; refine (known_any _).mono ?_; rintro e w2 ⟨rfl, hb2⟩) | (go_at_call 12; first | (with_reducible refine (h1 _).mono ?_; rintro e w2 ⟨rfl, rfl⟩) | (with_reducible refine (h2 _).mono ?_; rintro e w2 ⟨rfl, rfl⟩) | (with_reducible refine (h3 _).mono ?_; rintro e w2 ⟨rfl, rfl⟩) | (with_reducible refine (h4 _).mono ?_; rintro e w2 ⟨rfl, rfl⟩)))
      go_ret
      exact ⟨rfl, by assumption⟩

theorem cmpH_three (x y : Nat) : cmpH x y = -1 ∨ cmpH x y = 0 ∨ cmpH x y = 1 := by unfold cmpH; split <;> (try split) <;> simp

theorem total_walk (a b c : Nat) (ha : a < 18446744073709551616) (hb : b < 18446744073709551616) (hc : c < 18446744073709551616) (w : World) :
    Calls Try.prog 7 #[.int .u64 (a : Nat), .int .u64 (b : Nat), .int .u64 (c : Nat)] w fun e w' => e = .returned (.bool true) ∧ Below w.heap.size w w' := by
  have hop : cmpH (hgt b) (hgt a) = - cmpH (hgt a) (hgt b) := by unfold cmpH; split <;> (try split) <;> (try split) <;> omega
  refine total_way a b c (cmpH (hgt a) (hgt b)) (cmpH (hgt b) (hgt c)) (cmpH (hgt a) (hgt c)) _ _ w (cmp_any a b ha hb) (cmp_any b c hb hc) (cmp_any a c ha hc) (cmp_val b a _ hb ha hop) rfl rfl ?_ (cmpH_three _ _) (cmpH_three _ _) ?_ ?_
  · have l1 := order_lt ha hb
    have l2 := order_gt ha hb
    cases ho : FloatKind.f64.format.order a b with
    | none => rcases cmpH_three (hgt a) (hgt b) with h | h | h <;> rw [h] <;> decide
    | some o =>
      cases o with
      | lt => exact .inl ⟨cmpH_lt (l1 ho), by decide⟩
      | gt => exact .inr (.inr ⟨cmpH_gt (l2 ho), by decide⟩)
      | eq => rcases cmpH_three (hgt a) (hgt b) with h | h | h <;> rw [h] <;> decide
  · unfold cmpH; repeat' split
    all_goals omega
  · unfold cmpH; repeat' split
    all_goals omega
end Go.Proofs.Ytpaelakaolggmaa.rank
