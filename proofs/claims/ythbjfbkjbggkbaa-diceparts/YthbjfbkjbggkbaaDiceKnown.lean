/-
  The chapter's example holds: the contract of the statements' own 'known'.
-/
import Derived.Test.YthbjfbkjbggkbaaDiceMeet
import Derived.Test.YthbjfbkjbggkbaaDiceSound
namespace Go.Proofs.Ythbjfbkjbggkbaa.dice
open Go.ChangeShapes Go.WideShapes Go.ChangeAt Go.RowKit Go.Deep
open Go.Proofs.Ythbjfbkjbggkbaa.dims
set_option linter.unusedVariables false
set_option maxRecDepth 100000

theorem ints1 {W : World} {b : Nat} {x : Int} (h : W.cell? ⟨b, 0, none⟩ = some (.int .i64 x)) : Ints W (some ⟨b, 0, none⟩) [x] := by
  refine .inr ⟨_, _, rfl, fun i hi => ?_⟩
  match i, hi with
  | 0, _ => simpa [nth] using h
theorem ints2 {W : World} {b : Nat} {x y : Int} (h : W.cell? ⟨b, 0, none⟩ = some (.int .i64 x)) (h2 : W.cell? ⟨b, 1, none⟩ = some (.int .i64 y)) : Ints W (some ⟨b, 0, none⟩) [x, y] := by
  refine .inr ⟨_, _, rfl, fun i hi => ?_⟩
  match i, hi with
  | 0, _ => simpa [nth] using h
  | 1, _ => simpa [nth] using h2
theorem dims1 {W : World} {b : Nat} {x : Int} (h : W.cell? ⟨b, 0, none⟩ = some (.int .i64 x)) (h2 : W.cell? ⟨b, 1, none⟩ = some (.slice none 0 0)) : DimsIn W (some ⟨b, 0, none⟩) [⟨x, none, 0, []⟩] := by
  refine .inr ⟨_, _, rfl, fun i hi => ?_⟩
  match i, hi with
  | 0, _ => exact ⟨by simpa [dn] using h, by simpa [dn] using h2, .inl rfl, by simp [dn]⟩

set_option maxHeartbeats 8000000 in
theorem known_any (w : World) :
    Calls Try.prog 13 #[] w fun e w' => e = .returned (.bool true) ∧ Below w.heap.size w w' := by
  go_enter Try.func13, Try.ntmps13
  go_wp2_with fail
  refine (meet_any _ _ _ _ 1 1 1 1 1 1 1 1 [0] [5] [3] [9] _ (ints1 (by simp [go_sem])) rfl (ints1 (by simp [go_sem])) rfl (ints1 (by simp [go_sem])) rfl (ints1 (by simp [go_sem])) rfl (by omega)).mono ?_
  rintro e w1 ⟨t, rfl, hr⟩
  have hb1 : Below w.heap.size w w1 := by
    refine Below.trans ?_ (hr.2.mono (by simp; omega))
    (repeat (first | with_reducible exact Below.refl _ _ | (with_reducible refine Below.drew ?_) | (with_reducible refine Below.alloc ?_ (by first | omega | (simp; done) | (simp; omega)) _) | (with_reducible refine Below.setCell ?_ (by first | exact Nat.le_refl _ | omega | (simp; done) | (simp; omega)) _)))
  obtain ⟨⟨v1, v2, rfl, h1, h2⟩, -⟩ := hr
  rw [show mtL [0] [5] [3] [9] = [3] from rfl] at h1
  rw [show mtH [0] [5] [3] [9] = [5] from rfl] at h2
  rw [show mt [0] [5] [3] [9] = true from rfl]
  obtain ⟨p1, q1, rfl, i1, -⟩ := h1
  obtain ⟨p2, q2, rfl, i2, -⟩ := h2
  obtain ⟨b1, o1, rfl, k1⟩ := i1.get (k := 0) (by simp)
  obtain ⟨b2, o2, rfl, k2⟩ := i2.get (k := 0) (by simp)
  have f1 := k1 0 (by simp)
  have f2 := k2 0 (by simp)
  simp only [nth, List.getD_cons_zero, Nat.add_zero] at f1 f2
  clear k1 k2 i1 i2
  have B1 : Aside (Below w.heap.size w w1) := hb1
  clear hb1
  simp only [List.length_singleton]
  have l1 := cell_lt f1
  have l2 := cell_lt f2
  go_wp2_with fail
  refine (within_val _ _ _ 2 2 2 2 2 2 [0, 2] [3, 5] [2, 2] true _ (ints2 (by simp [go_sem]) (by simp [go_sem])) rfl (ints2 (by simp [go_sem]) (by simp [go_sem])) rfl (ints2 (by simp [go_sem]) (by simp [go_sem])) rfl (by omega) (by kernel_rfl)).mono ?_
  rintro e w2 ⟨rfl, hb2⟩
  have b12 : Below w1.heap.size w1 w2 := by
    refine Below.trans ?_ (hb2.mono (by simp; omega))
    (repeat (first | with_reducible exact Below.refl _ _ | (with_reducible refine Below.drew ?_) | (with_reducible refine Below.alloc ?_ (by first | omega | (simp; done) | (simp; omega)) _) | (with_reducible refine Below.setCell ?_ (by first | exact Nat.le_refl _ | omega | (simp; done) | (simp; omega)) _)))
  have B2 : Aside (Below w.heap.size w w2) := B1.out.trans (b12.mono B1.out.size)
  have f1 := (b12.cell (p := ⟨b1, o1, none⟩) l1).trans f1
  have f2 := (b12.cell (p := ⟨b2, o2, none⟩) l2).trans f2
  have l1 := cell_lt f1
  have l2 := cell_lt f2
  clear hb2 b12 B1
  go_wp2_with fail
  refine (within_val _ _ _ 2 2 2 2 2 2 [0, 2] [3, 5] [3, 2] false _ (ints2 (by simp [go_sem]) (by simp [go_sem])) rfl (ints2 (by simp [go_sem]) (by simp [go_sem])) rfl (ints2 (by simp [go_sem]) (by simp [go_sem])) rfl (by omega) (by kernel_rfl)).mono ?_
  rintro e w3 ⟨rfl, hb2⟩
  have b12 : Below w2.heap.size w2 w3 := by
    refine Below.trans ?_ (hb2.mono (by simp; omega))
    (repeat (first | with_reducible exact Below.refl _ _ | (with_reducible refine Below.drew ?_) | (with_reducible refine Below.alloc ?_ (by first | omega | (simp; done) | (simp; omega)) _) | (with_reducible refine Below.setCell ?_ (by first | exact Nat.le_refl _ | omega | (simp; done) | (simp; omega)) _)))
  have B3 : Aside (Below w.heap.size w w3) := B2.out.trans (b12.mono B2.out.size)
  have f1 := (b12.cell (p := ⟨b1, o1, none⟩) l1).trans f1
  have f2 := (b12.cell (p := ⟨b2, o2, none⟩) l2).trans f2
  have l1 := cell_lt f1
  have l2 := cell_lt f2
  clear hb2 b12 B2
  go_wp2_with fail
  refine (box_val _ _ _ 1 1 1 1 1 1 [⟨5, none, 0, []⟩] [0] [5] true _ (dims1 (by simp [go_sem]) (by simp [go_sem])) rfl (ints1 (by simp [go_sem])) rfl (ints1 (by simp [go_sem])) rfl (by omega) (by kernel_rfl)).mono ?_
  rintro e w4 ⟨rfl, hb2⟩
  have b12 : Below w3.heap.size w3 w4 := by
    refine Below.trans ?_ (hb2.mono (by simp; omega))
    (repeat (first | with_reducible exact Below.refl _ _ | (with_reducible refine Below.drew ?_) | (with_reducible refine Below.alloc ?_ (by first | omega | (simp; done) | (simp; omega)) _) | (with_reducible refine Below.setCell ?_ (by first | exact Nat.le_refl _ | omega | (simp; done) | (simp; omega)) _)))
  have B4 : Aside (Below w.heap.size w w4) := B3.out.trans (b12.mono B3.out.size)
  clear hb2 b12 B3 f1 f2 l1 l2
  go_wp2_with fail
  refine (box_val _ _ _ 1 1 1 1 1 1 [⟨5, none, 0, []⟩] [0] [6] false _ (dims1 (by simp [go_sem]) (by simp [go_sem])) rfl (ints1 (by simp [go_sem])) rfl (ints1 (by simp [go_sem])) rfl (by omega) (by kernel_rfl)).mono ?_
  rintro e w5 ⟨rfl, hb2⟩
  have b12 : Below w4.heap.size w4 w5 := by
    refine Below.trans ?_ (hb2.mono (by simp; omega))
    (repeat (first | with_reducible exact Below.refl _ _ | (with_reducible refine Below.drew ?_) | (with_reducible refine Below.alloc ?_ (by first | omega | (simp; done) | (simp; omega)) _) | (with_reducible refine Below.setCell ?_ (by first | exact Nat.le_refl _ | omega | (simp; done) | (simp; omega)) _)))
  have B5 : Aside (Below w.heap.size w w5) := B4.out.trans (b12.mono B4.out.size)
  clear hb2 b12 B4
  go_wp2
  go_ret
  exact ⟨rfl, B5.out⟩
end Go.Proofs.Ythbjfbkjbggkbaa.dice
