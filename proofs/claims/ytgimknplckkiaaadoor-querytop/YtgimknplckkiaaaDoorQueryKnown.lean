/-
  The chapter's example holds: the contract of the statements' own 'known'.
-/
import Derived.Test.YtgimknplckkiaaaDoorQueryRun
import Derived.Test.YtgimknplckkiaaaDoorDiceEK
namespace Go.Proofs.YtgimknplckkiaaaDoor.query
open Go.ChangeShapes Go.WideShapes Go.ChangeAt Go.RowKit Go.Deep
open Go.Proofs.YtgimknplckkiaaaDoor.dims
open Go.Proofs.YtgimknplckkiaaaDoor.table
open Go.Proofs.YtgimknplckkiaaaDoor.dice (wtn bx cutR ints1)
open Go.Proofs.YtgimknplckkiaaaDoor.cell (C4 mrg all one zero In64)
set_option linter.unusedVariables false
set_option maxRecDepth 100000

def exD (B : Nat) : List Dm := [⟨10, some ⟨B, 0, none⟩, 1, [5]⟩]
def exC : C4 := ⟨1, 0, 0, 0⟩
def exR (B1 B2 B3 : Nat) : List Rw := [⟨some ⟨B1, 0, none⟩, 1, [1], exC⟩, ⟨some ⟨B2, 0, none⟩, 1, [4], exC⟩, ⟨some ⟨B3, 0, none⟩, 1, [7], exC⟩]
def exT : List PRow := [([0], ⟨2, 0, 0, 0⟩), ([1], ⟨1, 0, 0, 0⟩)]
theorem ex_run (B B1 B2 B3 : Nat) : runE (exD B) (exR B1 B2 B3) [1] [0] [10] = 0 ∧ runR (exD B) (exR B1 B2 B3) [1] [0] [10] = exT := by
  constructor
  · kernel_rfl
  · kernel_rfl
theorem ex_check (B : Nat) : checkE (exD B) [] [] [] = 40 := by kernel_rfl
theorem ex_rows {rs : List Rw} (h : rs.map plain = exT) : rs.length = 2 ∧ (rwn rs 0).c.n = 2 ∧ (rwn rs 1).k = [1] := by
  have hl : rs.length = 2 := by simpa [exT] using congrArg List.length h
  rcases rs with _ | ⟨a, _ | ⟨b, _ | ⟨c, t⟩⟩⟩
  · simp at hl
  · simp at hl
  · simp only [exT, List.map_cons, List.map_nil, plain, List.cons.injEq, Prod.mk.injEq, and_true] at h
    obtain ⟨⟨h1, h2⟩, h3, h4⟩ := h
    exact ⟨rfl, by show a.c.n = 2; rw [h2], h3⟩
  · simp at hl
theorem ex_dims {W : World} {b B : Nat} (h : W.cell? ⟨b, 0, none⟩ = some (.int .i64 10)) (h2 : W.cell? ⟨b, 1, none⟩ = some (.slice (some ⟨B, 0, none⟩) 1 1)) (h3 : W.cell? ⟨B, 0, none⟩ = some (.int .i64 5)) : DimsIn W (some ⟨b, 0, none⟩) (exD B) := by
  refine .inr ⟨_, _, rfl, fun i hi => ?_⟩
  match i, hi with
  | 0, _ => exact ⟨by simpa [dn, exD] using h, by simpa [dn, exD] using h2, ints1 h3, by simp [dn, exD]⟩

set_option maxHeartbeats 8000000 in
theorem known_q (w : World) (hp : Pow w) :
    Calls Tryd.prog 10 #[] w fun e w' => e = .returned (.bool true) ∧ Below w.heap.size w w' := by
  have HP : Aside (Pow w) := hp
  clear hp
  go_enter Tryd.func10, Tryd.ntmps10
  go_wp2_with fail
  have hB : ∀ o1 o2 o3 o4 o5 o6 o7 o8 o9, Below w.heap.size w (((((((((w.alloc o1).alloc o2).alloc o3).alloc o4).alloc o5).alloc o6).alloc o7).alloc o8).alloc o9) := fun o1 o2 o3 o4 o5 o6 o7 o8 o9 => by (repeat (first | with_reducible exact Below.refl _ _ | (with_reducible refine Below.drew ?_) | (with_reducible refine Below.alloc ?_ (by first | omega | (simp; done) | (simp; omega)) _) | (with_reducible refine Below.setCell ?_ (by first | exact Nat.le_refl _ | omega | (simp; done) | (simp; omega)) _)))
  refine (run_any _ _ _ _ _ 1 1 3 3 1 1 1 1 1 1 (exD w.heap.size) (exR (w.heap.size + 1 + 1) (w.heap.size + 1 + 1 + 1) (w.heap.size + 1 + 1 + 1 + 1)) [1] [0] [10] _ (HP.out.keep (hB _ _ _ _ _ _ _ _ _)) (ex_dims (by simp [go_sem]) (by simp [go_sem]) (by simp [go_sem])) rfl (by omega) ?_ rfl (by omega) (ints1 (by simp [go_sem])) rfl (ints1 (by simp [go_sem])) rfl (ints1 (by simp [go_sem])) rfl).mono ?_
  · refine .inr ⟨_, _, rfl, fun i hi => ?_⟩
    match i, hi with
    | 0, _ => exact ⟨⟨by simp [go_sem, rwn, exR, exC], by simp [go_sem, rwn, exR, exC], by simp [go_sem, rwn, exR, exC], by simp [go_sem, rwn, exR, exC], by simp [go_sem, rwn, exR, exC]⟩, ints1 (by simp [go_sem]), rfl, by simp [rwn, exR], by simp [rwn, exR], fun y hy => by simp [rwn, exR] at hy; subst hy; unfold In64; omega⟩
    | 1, _ => exact ⟨⟨by simp [go_sem, rwn, exR, exC], by simp [go_sem, rwn, exR, exC], by simp [go_sem, rwn, exR, exC], by simp [go_sem, rwn, exR, exC], by simp [go_sem, rwn, exR, exC]⟩, ints1 (by simp [go_sem]), rfl, by simp [rwn, exR], by simp [rwn, exR], fun y hy => by simp [rwn, exR] at hy; subst hy; unfold In64; omega⟩
    | 2, _ => exact ⟨⟨by simp [go_sem, rwn, exR, exC], by simp [go_sem, rwn, exR, exC], by simp [go_sem, rwn, exR, exC], by simp [go_sem, rwn, exR, exC], by simp [go_sem, rwn, exR, exC]⟩, ints1 (by simp [go_sem]), rfl, by simp [rwn, exR], by simp [rwn, exR], fun y hy => by simp [rwn, exR] at hy; subst hy; unfold In64; omega⟩
  rintro e w1 ⟨v, rfl, hT, hb1⟩
  rw [(ex_run _ _ _ _).2] at hT
  rw [(ex_run _ _ _ _).1]
  have B1 : Aside (Below w.heap.size w w1) := (hB _ _ _ _ _ _ _ _ _).trans (hb1.mono (by simp; omega))
  have D1 : DimsIn w1 (some ⟨w.heap.size + 1, 0, none⟩) (exD w.heap.size) := DimsIn.keep (ex_dims (by simp [go_sem]) (by simp [go_sem]) (by simp [go_sem])) hb1
  have C2 := check_any _ none none none 1 1 0 0 0 0 0 0 (exD w.heap.size) [] [] [] w1 D1 rfl (by omega) (.inl rfl) rfl (.inl rfl) rfl (.inl rfl) rfl
  rw [ex_check] at C2
  obtain ⟨a, cap, rs, rfl, hR, he, hc, hm⟩ := hT
  obtain ⟨h0, h1, h2⟩ := ex_rows he
  obtain ⟨b, off, rfl, hcc⟩ := hR.get (k := 0) (by omega)
  obtain ⟨⟨-, q1, -, -, -⟩, -⟩ := hcc 0 (by omega)
  obtain ⟨⟨r0, -, -, -, -⟩, K1⟩ := hcc 1 (by omega)
  have KI := K1.mem
  rw [h1] at q1
  rw [h2] at r0 KI
  obtain ⟨bk, ok, hak, hck⟩ := KI.get (k := 0) (by simp)
  have rk := hck 0 (by simp)
  rw [hak] at r0
  rw [h0]
  have hsz := B1.out.size
  generalize (rwn rs 1).cap = kc at r0
  simp only [Nat.zero_mul, Nat.add_zero, Nat.one_mul, List.length_singleton, nth, List.getD_cons_zero] at q1 r0 rk
  clear hcc hR he h1 h2 hb1 hB hc hm h0 D1 K1 KI hak hck
  go_wp2_with (go_at_call 14; refine C2.mono ?_; rintro e w2 ⟨rfl, hb2⟩)
  go_ret
  exact ⟨rfl, B1.out.trans (hb2.mono hsz)⟩
end Go.Proofs.YtgimknplckkiaaaDoor.query
