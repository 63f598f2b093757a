/-
  The walk of the statement RankSigns.
-/
import Derived.Test.YtpaelakaolggmaaRankKnown
import Derived.Test.YtpaelakaolggmaaRankSignsMath
namespace Go.Proofs.Ytpaelakaolggmaa.rank
open Go.ChangeShapes Go.WideShapes Go.ChangeAt Go.RowKit Go.Deep
set_option linter.unusedVariables false

/-- the mean of a sum of n numbers: its word, by its sign and its rung -/
theorem mean_sign {a n : Int} {E : Nat} (hE : E = 1074) (ha : -2147483648 ≤ a ∧ a ≤ 2147483647) (hn : 1 ≤ n ∧ n ≤ 65536) :
    ∃ g, quo n a = some (D.word (decide (a < 0)) g) ∧ (a = 0 → g = 0) ∧ (a ≠ 0 → 0 < g) ∧ g < 9218868437227405312 ∧ val g * n.natAbs ≤ a.natAbs * 2 ^ E + 2 ^ (E - 14) ∧ a.natAbs * 2 ^ E ≤ val g * n.natAbs + 2 ^ (E - 14) := by
  have hnr := read_int (n := n) (by omega) (by omega)
  have e0 : decide (n < 0) = false := decide_eq_false (by omega)
  rw [e0] at hnr
  by_cases h0 : a = 0
  · subst h0
    refine ⟨0, ?_, fun _ => rfl, fun h => absurd rfl h, by omega, by rw [val_zero, Nat.zero_mul]; exact Nat.zero_le _, by simp⟩
    show ((D.read (floatOfInt .f64 0)).quotient (D.fractionBits + 2) (D.read (floatOfInt .f64 n))).map D.write = _
    have hz : n.natAbs * 2 ^ (52 - n.natAbs.log2) ≠ 0 := by
      intro e; rw [e] at hnr; exact absurd hnr.2.2 (by decide)
    rw [hnr.1, read_zero]
    simp only [Ieee.Datum.quotient, if_neg hz]
    simp [Ieee.Format.write, Ieee.Format.nearest]
  · have har := read_int (n := a) h0 (by omega)
    obtain ⟨g, hq, g0, g1, b1, b2⟩ := mean_pos (A := a.natAbs) (n := n.natAbs) hE (by omega) (by omega) (by omega) (by omega) (decide (a < 0))
    refine ⟨g, ?_, fun h => absurd h h0, fun _ => g0, g1, b1, b2⟩
    show ((D.read (floatOfInt .f64 a)).quotient (D.fractionBits + 2) (D.read (floatOfInt .f64 n))).map D.write = _
    rw [hnr.1, har.1]
    exact hq

theorem word_facts (neg : Bool) {g : Nat} (h : g < 9218868437227405312) : D.word neg g < 18446744073709551616 ∧ isNan (D.word neg g) = false ∧ sv (D.word neg g) = (if neg then -(g : Int) else (g : Int)) ∧ (hgt (D.word neg g) : Int) = (if neg then 9223372036854775807 - (g : Int) else 9223372036854775808 + (g : Int)) := by
  obtain ⟨h1, h2, h3⟩ := word_mod neg (r := g) (by omega)
  have hnn := notnan_word neg (r := g) (by omega)
  have hv := hgt_sv h2 hnn
  generalize D.word neg g = W at *
  cases neg
  · have hs : ¬ 9223372036854775808 ≤ W := of_decide_eq_false h3
    have e : sv W = (g : Int) := by unfold sv; rw [if_pos (by omega)]; omega
    rw [if_pos (by omega)] at hv
    exact ⟨h2, hnn, by rw [e]; rfl, by rw [hv, e]; simp only [Bool.false_eq_true, if_false]; omega⟩
  · have hs : 9223372036854775808 ≤ W := of_decide_eq_true h3
    have e : sv W = -(g : Int) := by unfold sv; rw [if_neg (by omega)]; omega
    rw [if_neg (by omega)] at hv
    exact ⟨h2, hnn, by rw [e]; rfl, by rw [hv, e]; simp only [if_true]; omega⟩

/-- all that RankSigns asks of two means -/
theorem signs_key {a b n : Int} (ha : -2147483648 ≤ a ∧ a ≤ 2147483647) (hb : -2147483648 ≤ b ∧ b ≤ 2147483647) (hn : 1 ≤ n ∧ n ≤ 65536) :
    ∃ x y, quo n a = some x ∧ quo n b = some y ∧ x < 18446744073709551616 ∧ y < 18446744073709551616 ∧ FloatKind.f64.format.order x 0 = some (compare a 0) ∧ cmpH (hgt x) (hgt y) = (if a < b then -1 else if b < a then 1 else 0) := by
  obtain ⟨E, hE⟩ : ∃ E, E = 1074 := ⟨_, rfl⟩
  obtain ⟨g, q1, z1, p1, i1, u1, v1⟩ := mean_sign hE ha hn
  obtain ⟨k, q2, z2, p2, i2, u2, v2⟩ := mean_sign hE hb hn
  obtain ⟨x1, x2, x3, x4⟩ := word_facts (decide (a < 0)) i1
  obtain ⟨y1, y2, y3, y4⟩ := word_facts (decide (b < 0)) i2
  have mab : a.natAbs < b.natAbs → g < k := fun h => rung_mono hE (by omega) h u1 v2
  have mba : b.natAbs < a.natAbs → k < g := fun h => rung_mono hE (by omega) h u2 v1
  have meq : a = b → g = k := fun h => by
    have e := q1
    rw [h] at e
    rw [q2] at e
    have e3 : D.word (decide (b < 0)) k = D.word (decide (b < 0)) g := Option.some.inj e
    have f1 := (word_mod (decide (b < 0)) (r := k) (by omega)).1
    have f2 := (word_mod (decide (b < 0)) (r := g) (by omega)).1
    rw [e3] at f1
    exact f2.symm.trans f1
  refine ⟨_, _, q1, q2, x1, y1, ?_, ?_⟩
  · have ho := order_fin (fin_of x1 x2) (y := 0) ⟨by omega, by omega⟩
    rw [show FloatKind.f64.format.order _ 0 = D.order _ 0 from rfl, ho]
    have hsv : (sv (D.word (decide (a < 0)) g) < 0 ↔ a < 0) ∧ (sv (D.word (decide (a < 0)) g) = 0 ↔ a = 0) := by
      clear u1 v1 u2 v2 mab mba meq x4 y4 y3 x1 y1 q1 q2
      by_cases c : a < 0
      · have e : sv (D.word (decide (a < 0)) g) = -(g : Int) := by rw [x3, if_pos (decide_eq_true c)]
        have g0 := p1 (by omega)
        rw [e]
        constructor <;> constructor <;> intro h <;> omega
      · have e : sv (D.word (decide (a < 0)) g) = (g : Int) := by rw [x3, if_neg (by simpa using c)]
        rw [e]
        by_cases c2 : a = 0
        · have g0 := z1 c2
          constructor <;> constructor <;> intro h <;> omega
        · have g0 := p1 c2
          constructor <;> constructor <;> intro h <;> omega
    exact congrArg some (cmp_congr hsv.1 hsv.2)
  · clear u1 v1 u2 v2 x1 x2 x3 y1 y2 y3 q1 q2
    generalize hgt (D.word (decide (a < 0)) g) = hx at *
    generalize hgt (D.word (decide (b < 0)) k) = hy at *
    unfold cmpH
    by_cases c1 : a < 0 <;> by_cases c2 : b < 0 <;> simp only [c1, c2, decide_true, decide_false, if_true, if_false, Bool.false_eq_true] at x4 y4
    · by_cases l1 : a < b
      · have := mba (by omega); rw [if_pos l1, if_pos (by omega)]
      · by_cases l2 : b < a
        · have := mab (by omega); rw [if_neg l1, if_pos l2, if_neg (by omega), if_pos (by omega)]
        · have := meq (by omega); rw [if_neg l1, if_neg l2, if_neg (by omega), if_neg (by omega)]
    · rw [if_pos (by omega : a < b), if_pos (by omega)]
    · rw [if_neg (by omega : ¬ a < b), if_pos (by omega : b < a), if_neg (by omega), if_pos (by omega)]
    · by_cases l1 : a < b
      · have := mab (by omega); rw [if_pos l1, if_pos (by omega)]
      · by_cases l2 : b < a
        · have := mba (by omega); rw [if_neg l1, if_pos l2, if_neg (by omega), if_pos (by omega)]
        · have := meq (by omega); rw [if_neg l1, if_neg l2, if_neg (by omega), if_neg (by omega)]

set_option maxHeartbeats 8000000 in
theorem signs_way (n a b : Int) (x y : Nat) (up : Int) (s : Ordering) (w : World) (hn1 : 0 ≤ n) (hn2 : n ≤ 65535) (ha1 : -2147483648 ≤ a) (ha2 : a ≤ 2147483647) (hb1 : -2147483648 ≤ b) (hb2 : b ≤ 2147483647)
    (hx : ∀ w, Calls Try.prog 13 #[.agg #[.int .i64 (1 + n), .int .i64 a, .int .i64 0, .int .i64 0]] w fun e w' => e = .returned (.float .f64 x) ∧ Below w.heap.size w w')
    (hy : ∀ w, Calls Try.prog 13 #[.agg #[.int .i64 (1 + n), .int .i64 b, .int .i64 0, .int .i64 0]] w fun e w' => e = .returned (.float .f64 y) ∧ Below w.heap.size w w')
    (hc : ∀ w, Calls Try.prog 12 #[.float .f64 x, .float .f64 y] w fun e w' => e = .returned (.int .i64 up) ∧ w' = w)
    (ho : FloatKind.f64.format.order x 0 = some s) (hs : (s = .gt ∧ 0 < a ∧ decide (a < 0) = false ∧ decide (0 < a) = true) ∨ (s = .eq ∧ a = 0) ∨ (s = .lt ∧ a < 0 ∧ decide (a < 0) = true ∧ decide (0 < a) = false)) (hup : (up = -1 ∧ a < b ∧ (a == b) = false ∧ decide (a ≤ b) = true) ∨ (up = 0 ∧ a = b) ∨ (up = 1 ∧ b < a ∧ (a == b) = false ∧ decide (a ≤ b) = false)) :
    Calls Try.prog 4 #[.int .u16 n, .int .i32 a, .int .i32 b] w fun e w' => e = .returned (.bool true) ∧ Below w.heap.size w w' := by
  rcases hs with ⟨rfl, hs, s1, s2⟩ | ⟨rfl, hs⟩ | ⟨rfl, hs, s1, s2⟩ <;> rcases hup with ⟨rfl, hup, t1, t2⟩ | ⟨rfl, hup⟩ | ⟨rfl, hup, t1, t2⟩
  all_goals try subst hup
  all_goals try subst hs
  all_goals
    as_aux_lemma =>
      go_enter Try.func4, Try.ntmps4
      go_wp2_with fail
      refine (hx _).mono ?_
      rintro e w1 ⟨rfl, hb1'⟩
      go_wp2_with fail
      refine (hy _).mono ?_
      rintro e w2 ⟨rfl, hb2'⟩
      have HB : Hid (Below w.heap.size w w2) := hb1'.trans (hb2'.mono hb1'.size)
      have hz : w.heap.size ≤ w2.heap.size := HB.out.size
      clear hb1' hb2'
      go_wp2_with (first | (go_at_call 11; refine (known_any _).mono ?_; rintro e w3 ⟨rfl, hb3⟩) | (go_at_call 12; refine (hc _).mono ?_; rintro e w3 ⟨rfl, rfl⟩))
      go_ret
      exact ⟨rfl, HB.out.trans (hb3.mono hz)⟩

theorem signs_walk (n a b : Int) (hn : 0 ≤ n ∧ n ≤ 65535) (ha : -2147483648 ≤ a ∧ a ≤ 2147483647) (hb : -2147483648 ≤ b ∧ b ≤ 2147483647) (w : World) :
    Calls Try.prog 4 #[.int .u16 n, .int .i32 a, .int .i32 b] w fun e w' => e = .returned (.bool true) ∧ Below w.heap.size w w' := by
  obtain ⟨x, y, q1, q2, lx, ly, ho, hc⟩ := signs_key (n := 1 + n) ha hb (by omega)
  refine signs_way n a b x y _ _ w hn.1 hn.2 ha.1 ha.2 hb.1 hb.2 (mean_val _ _ 0 0 x q1) (mean_val _ _ 0 0 y q2) (cmp_val x y _ lx ly hc) ho ?_ ?_
  · rcases Int.lt_trichotomy a 0 with h | h | h
    · exact .inr (.inr ⟨Int.compare_eq_lt.2 h, h, decide_eq_true h, decide_eq_false (by omega)⟩)
    · exact .inr (.inl ⟨Int.compare_eq_eq.2 h, h⟩)
    · exact .inl ⟨Int.compare_eq_gt.2 h, h, decide_eq_false (by omega), decide_eq_true h⟩
  · rcases Int.lt_trichotomy a b with h | h | h
    · exact .inl ⟨by rw [if_pos h], h, beq_eq_false_iff_ne.2 (by omega), decide_eq_true (by omega)⟩
    · exact .inr (.inl ⟨by rw [if_neg (by omega), if_neg (by omega)], h⟩)
    · exact .inr (.inr ⟨by rw [if_neg (by omega), if_pos h], h, beq_eq_false_iff_ne.2 (by omega), decide_eq_false (by omega)⟩)
end Go.Proofs.Ytpaelakaolggmaa.rank
