/-
  The walk of the statement CellThree.
-/
import Derived.Test.YtjkdmdadfiakgaaCellRow
import Derived.Deep.RegionHeld3
namespace Go.Proofs.Ytjkdmdadfiakgaa.cell
open Go.ChangeShapes Go.WideShapes Go.ChangeAt Go.RowKit
set_option linter.unusedVariables false

/-- three cells in blocks of their own, and all that was there stands -/
def Three (W0 : World) (B i j l : Nat) (a b c : C4) (W : World) : Prop :=
  Below B W0 W ∧ W.cell? ⟨i, 0, none⟩ = some (.int .i64 a.n) ∧ W.cell? ⟨i, 1, none⟩ = some (.int .i64 a.s) ∧ W.cell? ⟨i, 2, none⟩ = some (.int .i64 a.lo) ∧ W.cell? ⟨i, 3, none⟩ = some (.int .i64 a.hi) ∧
    W.cell? ⟨j, 0, none⟩ = some (.int .i64 b.n) ∧ W.cell? ⟨j, 1, none⟩ = some (.int .i64 b.s) ∧ W.cell? ⟨j, 2, none⟩ = some (.int .i64 b.lo) ∧ W.cell? ⟨j, 3, none⟩ = some (.int .i64 b.hi) ∧
    W.cell? ⟨l, 0, none⟩ = some (.int .i64 c.n) ∧ W.cell? ⟨l, 1, none⟩ = some (.int .i64 c.s) ∧ W.cell? ⟨l, 2, none⟩ = some (.int .i64 c.lo) ∧ W.cell? ⟨l, 3, none⟩ = some (.int .i64 c.hi)

theorem Three.keep {W0 W w1 : World} {B i j l : Nat} {a b c : C4} (hb : Below W.heap.size W w1) (h : Three W0 B i j l a b c W) (hB : B ≤ W0.heap.size) : Three W0 B i j l a b c w1 := by
  obtain ⟨h0, h1, h2, h3, h4, h5, h6, h7, h8, h9, h10, h11, h12⟩ := h
  have k := fun {p : Addr} {v : Value} (h : W.cell? p = some v) => (hb.cell (block_lt_of_cell h)).trans h
  exact ⟨h0.trans (hb.mono (Nat.le_trans hB h0.size)), k h1, k h2, k h3, k h4, k h5, k h6, k h7, k h8, k h9, k h10, k h11, k h12⟩

theorem mrg_assoc (a b c : List Int) (ha : ∀ v ∈ a, In64 v) (hb : ∀ v ∈ b, In64 v) (hc : ∀ v ∈ c, In64 v) (h : (a.length : Int) + b.length + c.length ≤ 9223372036854775806) :
    mrg (mrg (all a) (all b)) (all c) = mrg (all a) (mrg (all b) (all c)) := by
  rw [mrg_all a b ha hb (by omega), mrg_all b c hb hc (by omega), mrg_all (a ++ b) c (by intro v hv; rcases List.mem_append.1 hv with h | h; exact ha v h; exact hb v h) hc (by simp; omega),
    mrg_all a (b ++ c) ha (by intro v hv; rcases List.mem_append.1 hv with h | h; exact hb v h; exact hc v h) (by simp; omega), List.append_assoc]

set_option maxHeartbeats 4000000 in
/-- the law over three cells, the merges told -/
theorem three_core (a0 a1 a2 : Option Addr) (l0 l1 l2 c0 c1 c2 : Nat) (w : World) (A B C AB BC R : C4)
    (s0 : ¬ (300 : Int) < (l0 : Int)) (s1 : ¬ (300 : Int) < (l1 : Int)) (s2 : ¬ (300 : Int) < (l2 : Int))
    (HA : Hid (∀ W : World, Below w.heap.size w W → Calls Try.prog 13 #[.slice a0 l0 c0] W fun e w' => e = .returned (val A) ∧ Below W.heap.size W w'))
    (HB : Hid (∀ W : World, Below w.heap.size w W → Calls Try.prog 13 #[.slice a1 l1 c1] W fun e w' => e = .returned (val B) ∧ Below W.heap.size W w'))
    (HC : Hid (∀ W : World, Below w.heap.size w W → Calls Try.prog 13 #[.slice a2 l2 c2] W fun e w' => e = .returned (val C) ∧ Below W.heap.size W w'))
    (m1 : ∀ W : World, Calls Try.prog 11 #[(.agg #[.int .i64 A.n, .int .i64 A.s, .int .i64 A.lo, .int .i64 A.hi]), (.agg #[.int .i64 B.n, .int .i64 B.s, .int .i64 B.lo, .int .i64 B.hi])] W fun e w' => e = .returned (.agg #[.int .i64 AB.n, .int .i64 AB.s, .int .i64 AB.lo, .int .i64 AB.hi]) ∧ Below W.heap.size W w') (m2 : ∀ W : World, Calls Try.prog 11 #[(.agg #[.int .i64 AB.n, .int .i64 AB.s, .int .i64 AB.lo, .int .i64 AB.hi]), (.agg #[.int .i64 C.n, .int .i64 C.s, .int .i64 C.lo, .int .i64 C.hi])] W fun e w' => e = .returned (.agg #[.int .i64 R.n, .int .i64 R.s, .int .i64 R.lo, .int .i64 R.hi]) ∧ Below W.heap.size W w') (m3 : ∀ W : World, Calls Try.prog 11 #[(.agg #[.int .i64 B.n, .int .i64 B.s, .int .i64 B.lo, .int .i64 B.hi]), (.agg #[.int .i64 C.n, .int .i64 C.s, .int .i64 C.lo, .int .i64 C.hi])] W fun e w' => e = .returned (.agg #[.int .i64 BC.n, .int .i64 BC.s, .int .i64 BC.lo, .int .i64 BC.hi]) ∧ Below W.heap.size W w') (m4 : ∀ W : World, Calls Try.prog 11 #[(.agg #[.int .i64 A.n, .int .i64 A.s, .int .i64 A.lo, .int .i64 A.hi]), (.agg #[.int .i64 BC.n, .int .i64 BC.s, .int .i64 BC.lo, .int .i64 BC.hi])] W fun e w' => e = .returned (.agg #[.int .i64 R.n, .int .i64 R.s, .int .i64 R.lo, .int .i64 R.hi]) ∧ Below W.heap.size W w') (m5 : ∀ W : World, Calls Try.prog 11 #[(.agg #[.int .i64 A.n, .int .i64 A.s, .int .i64 A.lo, .int .i64 A.hi]), (.agg #[.int .i64 0, .int .i64 0, .int .i64 0, .int .i64 0])] W fun e w' => e = .returned (.agg #[.int .i64 A.n, .int .i64 A.s, .int .i64 A.lo, .int .i64 A.hi]) ∧ Below W.heap.size W w') (m6 : ∀ W : World, Calls Try.prog 11 #[(.agg #[.int .i64 0, .int .i64 0, .int .i64 0, .int .i64 0]), (.agg #[.int .i64 A.n, .int .i64 A.s, .int .i64 A.lo, .int .i64 A.hi])] W fun e w' => e = .returned (.agg #[.int .i64 A.n, .int .i64 A.s, .int .i64 A.lo, .int .i64 A.hi]) ∧ Below W.heap.size W w') :
    Calls Try.prog 9 #[.slice a0 l0 c0, .slice a1 l1 c1, .slice a2 l2 c2] w fun e w' => e = .returned (.bool true) ∧ Below w.heap.size w w' := by
  have n1 : Hid (∀ W : World, Calls Try.prog 11 #[(.agg #[.int .i64 (A).n, .int .i64 (A).s, .int .i64 (A).lo, .int .i64 (A).hi]), (.agg #[.int .i64 (B).n, .int .i64 (B).s, .int .i64 (B).lo, .int .i64 (B).hi])] W fun e w' => e = .returned (.agg #[.int .i64 (AB).n, .int .i64 (AB).s, .int .i64 (AB).lo, .int .i64 (AB).hi]) ∧ Below W.heap.size W w') := m1
  have n2 : Hid (∀ W : World, Calls Try.prog 11 #[(.agg #[.int .i64 (AB).n, .int .i64 (AB).s, .int .i64 (AB).lo, .int .i64 (AB).hi]), (.agg #[.int .i64 (C).n, .int .i64 (C).s, .int .i64 (C).lo, .int .i64 (C).hi])] W fun e w' => e = .returned (.agg #[.int .i64 (R).n, .int .i64 (R).s, .int .i64 (R).lo, .int .i64 (R).hi]) ∧ Below W.heap.size W w') := m2
  have n3 : Hid (∀ W : World, Calls Try.prog 11 #[(.agg #[.int .i64 (B).n, .int .i64 (B).s, .int .i64 (B).lo, .int .i64 (B).hi]), (.agg #[.int .i64 (C).n, .int .i64 (C).s, .int .i64 (C).lo, .int .i64 (C).hi])] W fun e w' => e = .returned (.agg #[.int .i64 (BC).n, .int .i64 (BC).s, .int .i64 (BC).lo, .int .i64 (BC).hi]) ∧ Below W.heap.size W w') := m3
  have n4 : Hid (∀ W : World, Calls Try.prog 11 #[(.agg #[.int .i64 (A).n, .int .i64 (A).s, .int .i64 (A).lo, .int .i64 (A).hi]), (.agg #[.int .i64 (BC).n, .int .i64 (BC).s, .int .i64 (BC).lo, .int .i64 (BC).hi])] W fun e w' => e = .returned (.agg #[.int .i64 (R).n, .int .i64 (R).s, .int .i64 (R).lo, .int .i64 (R).hi]) ∧ Below W.heap.size W w') := m4
  have n5 : Hid (∀ W : World, Calls Try.prog 11 #[(.agg #[.int .i64 (A).n, .int .i64 (A).s, .int .i64 (A).lo, .int .i64 (A).hi]), (.agg #[.int .i64 0, .int .i64 0, .int .i64 0, .int .i64 0])] W fun e w' => e = .returned (.agg #[.int .i64 (A).n, .int .i64 (A).s, .int .i64 (A).lo, .int .i64 (A).hi]) ∧ Below W.heap.size W w') := m5
  have n6 : Hid (∀ W : World, Calls Try.prog 11 #[(.agg #[.int .i64 0, .int .i64 0, .int .i64 0, .int .i64 0]), (.agg #[.int .i64 (A).n, .int .i64 (A).s, .int .i64 (A).lo, .int .i64 (A).hi])] W fun e w' => e = .returned (.agg #[.int .i64 (A).n, .int .i64 (A).s, .int .i64 (A).lo, .int .i64 (A).hi]) ∧ Below W.heap.size W w') := m6
  clear m1 m2 m3 m4 m5 m6
  go_enter Try.func9, Try.ntmps9
  go_wp2_with fail
  refine (known_any _).mono ?_
  rintro e w1 ⟨rfl, hb1⟩
  go_wp2_with fail
  refine (HA.out _ hb1).mono ?_
  rintro e w2 ⟨rfl, hb2⟩
  have hB2 : Below w.heap.size w w2 := hb1.trans (hb2.mono hb1.size)
  have hz2 := hB2.size
  have hB2a : Below w.heap.size w (w2.alloc (.cells #[.int .i64 A.n, .int .i64 A.s, .int .i64 A.lo, .int .i64 A.hi] 23)) := hB2.trans (by (repeat (first | with_reducible exact Below.refl _ _ | (with_reducible refine Below.drew ?_) | (with_reducible refine Below.alloc ?_ (by first | omega | (simp; done) | (simp; omega)) _) | (with_reducible refine Below.setCell ?_ (by first | exact Nat.le_refl _ | omega | (simp; done) | (simp; omega)) _))))
  clear hb1 hb2
  go_wp2_with fail
  refine (HB.out _ hB2a).mono ?_
  rintro e w3 ⟨rfl, hb3⟩
  have hB3 : Below w.heap.size w w3 := hB2a.trans (hb3.mono hB2a.size)
  have hx : Has w3 w2.heap.size A.n A.s A.lo A.hi := keep4 hb3 (by simp) (by unfold Has; simp [go_sem])
  have hz3 : w2.heap.size < w3.heap.size := by have := hb3.size; simp at this; omega
  have hB3a : Below w.heap.size w (w3.alloc (.cells #[.int .i64 B.n, .int .i64 B.s, .int .i64 B.lo, .int .i64 B.hi] 23)) := hB3.trans (by (repeat (first | with_reducible exact Below.refl _ _ | (with_reducible refine Below.drew ?_) | (with_reducible refine Below.alloc ?_ (by first | omega | (simp; done) | (simp; omega)) _) | (with_reducible refine Below.setCell ?_ (by first | exact Nat.le_refl _ | omega | (simp; done) | (simp; omega)) _))))
  have HX : Hid (Has w3 w2.heap.size A.n A.s A.lo A.hi ∧ Below w.heap.size w w3 ∧ Below w.heap.size w (w3.alloc (.cells #[.int .i64 B.n, .int .i64 B.s, .int .i64 B.lo, .int .i64 B.hi] 23))) := ⟨hx, hB3, hB3a⟩
  clear hx hB3 hB3a hB2 hB2a hb3
  go_wp2_with fail
  refine (HC.out _ HX.out.2.2).mono ?_
  rintro e w4 ⟨rfl, hb4⟩
  have hB4 : Below w.heap.size w w4 := HX.out.2.2.trans (hb4.mono HX.out.2.2.size)
  obtain ⟨x0, x1, x2, x3, _⟩ : Has w4 w2.heap.size A.n A.s A.lo A.hi := keep4 hb4 (by simp; omega) (keep4 ((Below.refl w3.heap.size w3).alloc (Nat.le_refl _) _) hz3 HX.out.1)
  obtain ⟨y0, y1, y2, y3, _⟩ : Has w4 w3.heap.size B.n B.s B.lo B.hi := keep4 hb4 (by simp) (by unfold Has; simp [go_sem])
  have hz4 : w3.heap.size < w4.heap.size := by have := hb4.size; simp at this; omega
  have hz5 : w2.heap.size < w4.heap.size := by omega
  have HB4 : Hid (Below w.heap.size w w4) := hB4
  clear hb4 hB4
  go_wp2_with fail
  go_region_held3 (fun w' => Below w.heap.size w w' ∧ w'.cell? ⟨w2.heap.size, 0, none⟩ = some (.int .i64 A.n) ∧ w'.cell? ⟨w2.heap.size, 1, none⟩ = some (.int .i64 A.s) ∧ w'.cell? ⟨w2.heap.size, 2, none⟩ = some (.int .i64 A.lo) ∧ w'.cell? ⟨w2.heap.size, 3, none⟩ = some (.int .i64 A.hi) ∧ w'.cell? ⟨w3.heap.size, 0, none⟩ = some (.int .i64 B.n) ∧ w'.cell? ⟨w3.heap.size, 1, none⟩ = some (.int .i64 B.s) ∧ w'.cell? ⟨w3.heap.size, 2, none⟩ = some (.int .i64 B.lo) ∧ w'.cell? ⟨w3.heap.size, 3, none⟩ = some (.int .i64 B.hi) ∧ w'.cell? ⟨w4.heap.size, 0, none⟩ = some (.int .i64 C.n) ∧ w'.cell? ⟨w4.heap.size, 1, none⟩ = some (.int .i64 C.s) ∧ w'.cell? ⟨w4.heap.size, 2, none⟩ = some (.int .i64 C.lo) ∧ w'.cell? ⟨w4.heap.size, 3, none⟩ = some (.int .i64 C.hi))
    (first | (exact ⟨HB4.out.trans (by (repeat (first | with_reducible exact Below.refl _ _ | (with_reducible refine Below.drew ?_) | (with_reducible refine Below.alloc ?_ (by first | omega | (simp; done) | (simp; omega)) _) | (with_reducible refine Below.setCell ?_ (by first | exact Nat.le_refl _ | omega | (simp; done) | (simp; omega)) _))); done), by simp [go_sem, *]; done⟩) | (refine Three.keep (a := A) (b := B) (c := C) (B := w.heap.size) (W0 := w) hb ?_ (Nat.le_refl _); assumption))
    (first | (go_at_call 11; with_reducible refine (n1.out _).mono ?_; rintro e w9 ⟨rfl, hb⟩) | (go_at_call 11; with_reducible refine (n2.out _).mono ?_; rintro e w9 ⟨rfl, hb⟩) | (go_at_call 11; with_reducible refine (n3.out _).mono ?_; rintro e w9 ⟨rfl, hb⟩) | (go_at_call 11; with_reducible refine (n4.out _).mono ?_; rintro e w9 ⟨rfl, hb⟩) | (go_at_call 11; with_reducible refine (n5.out _).mono ?_; rintro e w9 ⟨rfl, hb⟩) | (go_at_call 11; with_reducible refine (n6.out _).mono ?_; rintro e w9 ⟨rfl, hb⟩))
  go_wp2
  go_ret
  refine ⟨rfl, ?_⟩
  apply And.left
  assumption

theorem three_small (a0 a1 a2 : Option Addr) (l0 l1 l2 c0 c1 c2 : Nat) (z0 z1 z2 : List Int) (w : World) (h0 : IsRow w a0 l0 c0 z0) (h1 : IsRow w a1 l1 c1 z1) (h2 : IsRow w a2 l2 c2 z2)
    (s0 : ¬ (300 : Int) < (l0 : Int)) (s1 : ¬ (300 : Int) < (l1 : Int)) (s2 : ¬ (300 : Int) < (l2 : Int)) :
    Calls Try.prog 9 #[.slice a0 l0 c0, .slice a1 l1 c1, .slice a2 l2 c2] w fun e w' => e = .returned (.bool true) ∧ Below w.heap.size w w' := by
  obtain ⟨i0, n0, _, p0⟩ := h0.ints
  obtain ⟨i1, n1, _, p1⟩ := h1.ints
  obtain ⟨i2, n2, _, p2⟩ := h2.ints
  have E : mrg (mrg (all (z0.take l0)) (all (z1.take l1))) (all (z2.take l2)) = mrg (all (z0.take l0)) (mrg (all (z1.take l1)) (all (z2.take l2))) := mrg_assoc _ _ _ p0 p1 p2 (by omega)
  have E1 : mrg (all (z0.take l0)) zero = all (z0.take l0) := zero_mrg _ p0 (by omega)
  have E2 : mrg zero (all (z0.take l0)) = all (z0.take l0) := mrg_zero _
  refine three_core a0 a1 a2 l0 l1 l2 c0 c1 c2 w (all (z0.take l0)) (all (z1.take l1)) (all (z2.take l2)) _ _ (mrg (all (z0.take l0)) (mrg (all (z1.take l1)) (all (z2.take l2)))) s0 s1 s2
    (fun W h => all_any a0 l0 c0 _ W (i0.keep h) n0 (by omega)) (fun W h => all_any a1 l1 c1 _ W (i1.keep h) n1 (by omega)) (fun W h => all_any a2 l2 c2 _ W (i2.keep h) n2 (by omega))
    (merge_any _ _) ?_ (merge_any _ _) (merge_any _ _) ?_ ?_
  · intro W; have := merge_any (mrg (all (z0.take l0)) (all (z1.take l1))) (all (z2.take l2)) W; rw [E] at this; exact this
  · intro W; have := merge_any (all (z0.take l0)) zero W; rw [E1] at this; exact this
  · intro W; have := merge_any zero (all (z0.take l0)) W; rw [E2] at this; exact this

theorem three_big (a0 a1 a2 : Option Addr) (l0 l1 l2 c0 c1 c2 : Nat) (w : World) (h : (300 : Int) < (l0 : Int) ∨ (300 : Int) < (l1 : Int) ∨ (300 : Int) < (l2 : Int)) :
    Calls Try.prog 9 #[.slice a0 l0 c0, .slice a1 l1 c1, .slice a2 l2 c2] w fun e w' => e = .returned (.bool true) ∧ Below w.heap.size w w' := by
  by_cases s0 : (300 : Int) < (l0 : Int)
  · clear h
    go_enter Try.func9, Try.ntmps9
    go_wp2_with (go_at_call 12; refine (known_any _).mono ?_; rintro e w1 ⟨rfl, hb1⟩)
    go_ret
    exact ⟨rfl, hb1⟩
  by_cases s1 : (300 : Int) < (l1 : Int)
  · clear h
    go_enter Try.func9, Try.ntmps9
    go_wp2_with (go_at_call 12; refine (known_any _).mono ?_; rintro e w1 ⟨rfl, hb1⟩)
    go_ret
    exact ⟨rfl, hb1⟩
  have s2 : (300 : Int) < (l2 : Int) := by omega
  clear h
  go_enter Try.func9, Try.ntmps9
  go_wp2_with (go_at_call 12; refine (known_any _).mono ?_; rintro e w1 ⟨rfl, hb1⟩)
  go_ret
  exact ⟨rfl, hb1⟩

theorem three_walk (a0 a1 a2 : Option Addr) (l0 l1 l2 c0 c1 c2 : Nat) (z0 z1 z2 : List Int) (w : World) (h0 : IsRow w a0 l0 c0 z0) (h1 : IsRow w a1 l1 c1 z1) (h2 : IsRow w a2 l2 c2 z2) :
    Calls Try.prog 9 #[.slice a0 l0 c0, .slice a1 l1 c1, .slice a2 l2 c2] w fun e w' => e = .returned (.bool true) ∧ Below w.heap.size w w' := by
  by_cases h : (300 : Int) < (l0 : Int) ∨ (300 : Int) < (l1 : Int) ∨ (300 : Int) < (l2 : Int)
  · exact three_big a0 a1 a2 l0 l1 l2 c0 c1 c2 w h
  · exact three_small a0 a1 a2 l0 l1 l2 c0 c1 c2 z0 z1 z2 w h0 h1 h2 (by omega) (by omega) (by omega)
end Go.Proofs.Ytjkdmdadfiakgaa.cell
