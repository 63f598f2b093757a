/-
  The chapter's example holds: the contract of the statements' own 'known'.
-/
import Derived.Test.YtfchpcmiipnbjaaDoorTableMake
import Derived.Test.YtfchpcmiipnbjaaDoorTableSoundT
namespace Go.Proofs.YtfchpcmiipnbjaaDoor.table
open Go.ChangeShapes Go.WideShapes Go.ChangeAt Go.RowKit Go.Deep
open Go.Proofs.YtfchpcmiipnbjaaDoor.dims (nth Ints cell_lt cmpL own_below ret_bool)
open Go.Proofs.YtfchpcmiipnbjaaDoor.cell (C4 mrg all one zero In64)
set_option linter.unusedVariables false
set_option maxRecDepth 100000

def exF (B : Nat) : List Ft := [⟨some ⟨B, 0, none⟩, 2, [1, 0], 3⟩, ⟨some ⟨B + 1, 0, none⟩, 2, [0, 2], 4⟩, ⟨some ⟨B + 1 + 1, 0, none⟩, 2, [1, 0], 5⟩]
def exT : List PRow := [([0, 2], ⟨1, 4, 4, 4⟩), ([1, 0], ⟨2, 8, 3, 5⟩)]
theorem ex_tab (B : Nat) : tab (rowsOf ((exF B).map pf)) = exT := by
  show tab (rowsOf [([1, 0], 3), ([0, 2], 4), ([1, 0], 5)]) = exT
  kernel_rfl
theorem ex_rows {rs : List Rw} (h : rs.map plain = exT) : rs.length = 2 ∧ (rwn rs 0).k = [0, 2] ∧ (rwn rs 0).c = ⟨1, 4, 4, 4⟩ ∧ (rwn rs 1).k = [1, 0] ∧ (rwn rs 1).c = ⟨2, 8, 3, 5⟩ := by
  have hl : rs.length = 2 := by simpa [exT] using congrArg List.length h
  rcases rs with _ | ⟨a, _ | ⟨b, _ | ⟨c, t⟩⟩⟩
  · simp at hl
  · simp at hl
  · simp only [exT, List.map_cons, List.map_nil, plain, List.cons.injEq, Prod.mk.injEq, and_true] at h
    obtain ⟨⟨h1, h2⟩, h3, h4⟩ := h
    exact ⟨rfl, h1, h2, h3, h4⟩
  · simp at hl
theorem ex_two {rs : List Rw} (h : rs.map plain = exT) : sndT rs 2 = true := by
  obtain ⟨h0, h1, h2, h3, h4⟩ := ex_rows h
  unfold sndT okAt sndR
  rw [h0]
  simp [List.range, List.range.loop, h1, h2, h3, h4, posK]
  decide
theorem ex_one {rs : List Rw} (h : rs.map plain = exT) : sndT rs 1 = false := by
  obtain ⟨h0, h1, h2, h3, h4⟩ := ex_rows h
  refine sndT_not (k := 0) (by omega) ?_
  unfold okAt sndR
  rw [h1]; rfl

set_option maxHeartbeats 4000000 in
theorem known_any (w : World) (hp : Pow w) :
    Calls Tryd.prog 12 #[] w fun e w' => e = .returned (.bool true) ∧ Below w.heap.size w w' := by
  have HP : Aside (Pow w) := hp
  clear hp
  go_enter Tryd.func12, Tryd.ntmps12
  go_wp2_with fail
  have hB : ∀ o1 o2 o3 o4, Below w.heap.size w ((((w.alloc o1).alloc o2).alloc o3).alloc o4) := fun o1 o2 o3 o4 => by (repeat (first | with_reducible exact Below.refl _ _ | (with_reducible refine Below.drew ?_) | (with_reducible refine Below.alloc ?_ (by first | omega | (simp; done) | (simp; omega)) _) | (with_reducible refine Below.setCell ?_ (by first | exact Nat.le_refl _ | omega | (simp; done) | (simp; omega)) _)))
  refine (make_any _ 3 3 (exF w.heap.size) _ (HP.out.keep (hB _ _ _ _)) ?_ rfl (by omega) ?_).mono ?_
  · refine .inr ⟨_, _, rfl, fun i hi => ?_⟩
    match i, hi with
    | 0, _ =>
      refine ⟨by simp [go_sem, ftn, exF], by simp [go_sem, ftn, exF], ?_, rfl, by simp [ftn, exF], by simp [ftn, exF], by simp [ftn, exF, cell.In64]⟩
      refine .inr ⟨_, _, rfl, fun i hi => ?_⟩
      match i, hi with
      | 0, _ => simp [go_sem, ftn, exF, nth]
      | 1, _ => simp [go_sem, ftn, exF, nth]
    | 1, _ =>
      refine ⟨by simp [go_sem, ftn, exF], by simp [go_sem, ftn, exF], ?_, rfl, by simp [ftn, exF], by simp [ftn, exF], by simp [ftn, exF, cell.In64]⟩
      refine .inr ⟨_, _, rfl, fun i hi => ?_⟩
      match i, hi with
      | 0, _ => simp [go_sem, ftn, exF, nth]
      | 1, _ => simp [go_sem, ftn, exF, nth]
    | 2, _ =>
      refine ⟨by simp [go_sem, ftn, exF], by simp [go_sem, ftn, exF], ?_, rfl, by simp [ftn, exF], by simp [ftn, exF], by simp [ftn, exF, cell.In64]⟩
      refine .inr ⟨_, _, rfl, fun i hi => ?_⟩
      match i, hi with
      | 0, _ => simp [go_sem, ftn, exF, nth]
      | 1, _ => simp [go_sem, ftn, exF, nth]
  · intro f hf
    simp only [exF, List.mem_cons, List.not_mem_nil, or_false] at hf
    rcases hf with rfl | rfl | rfl <;> simp
  rintro e w1 ⟨v, rfl, hT, hb1⟩
  rw [ex_tab] at hT
  obtain ⟨a, cap, rs, rfl, hR, he, hc, hm⟩ := hT
  have B1 : Aside (Below w.heap.size w w1) := (hB _ _ _ _).trans (hb1.mono (by simp; omega))
  obtain ⟨h0, h1, h2, h3, h4⟩ := ex_rows he
  obtain ⟨b, off, rfl, hcc⟩ := hR.get (k := 0) (by omega)
  obtain ⟨⟨-, -, r2, -, -⟩, -⟩ := hcc 0 (by omega)
  obtain ⟨⟨-, q1, q2, -, -⟩, -⟩ := hcc 1 (by omega)
  rw [h2] at r2
  rw [h4] at q1 q2
  have C2 := soundT_any (some ⟨b, off, none⟩) 2 cap rs 2 w1 hR h0 (by omega)
  have C1 := fun W (hW : Below w1.heap.size w1 W) => soundT_any (some ⟨b, off, none⟩) 2 cap rs 1 W (hR.keep hW) h0 (by omega)
  rw [ex_two he] at C2
  rw [ex_one he] at C1
  rw [h0]
  have hsz := B1.out.size
  simp only [Nat.zero_mul, Nat.add_zero, Nat.one_mul] at r2 q1 q2
  clear hcc hR he h1 h2 h3 h4 hb1 hB hc hm h0
  go_wp2_with (first | (go_at_call 16; with_reducible refine C2.mono ?_; rintro e w2 ⟨rfl, hb2⟩) | (go_at_call 16; with_reducible refine (C1 _ hb2).mono ?_; rintro e w3 ⟨rfl, hb3⟩))
  go_ret
  exact ⟨rfl, B1.out.trans ((hb2.trans (hb3.mono hb2.size)).mono hsz)⟩
end Go.Proofs.YtfchpcmiipnbjaaDoor.table
