/-
  The function that Decode defers.
-/
import Derived.Test.YtlokamblbhooaaaCodeOwn
import Derived.Defers
import Derived.Recover
namespace Go.Proofs.Ytlokamblbhooaaa.code
open Go.ChangeShapes Go.WideShapes Go.ChangeAt Go.RowKit Go.Deep
set_option linter.unusedVariables false
set_option maxRecDepth 100000

set_option maxHeartbeats 4000000 in
theorem catch_idle (p q : Addr) (w : World) :
    CallsD Try.prog 38 #[.pointer (some p), .pointer (some q)] .returning w fun e u' w' => e = .returned (.tuple #[]) ∧ u' = .returning ∧ w' = w := by
  refine callsD_of_wpS Try.func38 rfl fun c₀ cs hu => ?_
  apply wpS_seq
  apply wpS_region
  simp [wpOpsS, go_sem, recoverD, hu, Try.ntmps38, Exit.thenS, Array.replicate]
  refine wpS_of_wp ?_
  have hnil : ∀ w : World, (binOp BinOp.eql 20 .nilIface .nilIface).run Try.prog w = .ok (.bool true) w := fun _ => by kernel_rfl
  go_wp2
  cases c₀
  simp_all [bodyPostS, results, Try.results38]

def recZ : Array Value := #[.int .u8 0, .int .u32 0, .int .u32 0, .slice none 0 0, .slice none 0 0, .int .u32 0, .slice none 0 0, .int .i64 0, .int .i64 0, .slice none 0 0]
/-- behind the deferred function: no record, and why -/
structure Caught (h0 h1 : Nat) (w w' : World) : Prop where
  two : ∃ w2, w.grownBy w2 (some h0) ∧ w2.grownBy w' (some h1)
  b0 : Boxed w' h0 recZ 30
  b1 : Boxed w' h1 #[.int .u16 70] 35

set_option maxHeartbeats 4000000 in
theorem catch_missing (h0 h1 : Nat) (m : Int) (w : World) (x1 : Value) (hx : Boxed w h0 recZ 30) (hy : Boxed w h1 #[x1] 35) (hne : h0 ≠ h1) :
    CallsD Try.prog 38 #[.pointer (some ⟨h0, 0, none⟩), .pointer (some ⟨h1, 0, none⟩)] (.panicking [{ v := .iface 74 (.int .i64 m), recovered := false }]) w fun e u' w' =>
      e = .returned (.tuple #[]) ∧ u' = .panicking [{ v := .iface 74 (.int .i64 m), recovered := true }] ∧ Caught h0 h1 w w' := by
  refine callsD_of_wpS Try.func38 rfl fun c₀ cs hu => ?_
  apply wpS_seq
  apply wpS_region
  simp [wpOpsS, go_sem, recoverD, hu, Try.ntmps38, Exit.thenS, Array.replicate]
  refine wpS_of_wp ?_
  have hnil : ∀ (w : World), (binOp BinOp.eql 20 (.iface 74 (.int .i64 m)) .nilIface).run Try.prog w = .ok (.bool false) w := fun _ => by kernel_rfl
  have hta : ∀ (w : World), (Instr.typeAssert (.iface 74 (.int .i64 m)) 20 74 true).run Try.prog w = .ok (.tuple #[.int .i64 m, .bool true]) w := fun _ => by kernel_rfl
  have c0 := hx.cell (j := 0) rfl
  have z0 := hx.frz 0
  have c1 := hx.cell (j := 1) rfl
  have z1 := hx.frz 1
  have c2 := hx.cell (j := 2) rfl
  have z2 := hx.frz 2
  have c3 := hx.cell (j := 3) rfl
  have z3 := hx.frz 3
  have c4 := hx.cell (j := 4) rfl
  have z4 := hx.frz 4
  have c5 := hx.cell (j := 5) rfl
  have z5 := hx.frz 5
  have c6 := hx.cell (j := 6) rfl
  have z6 := hx.frz 6
  have c7 := hx.cell (j := 7) rfl
  have z7 := hx.frz 7
  have c8 := hx.cell (j := 8) rfl
  have z8 := hx.frz 8
  have c9 := hx.cell (j := 9) rfl
  have z9 := hx.frz 9
  have y0 := hy.cell (j := 0) rfl
  have yz := hy.frz 0
  have H : Aside (Boxed w h0 recZ 30 ∧ Boxed w h1 #[x1] 35) := ⟨hx, hy⟩
  have hne2 : ¬ h1 = h0 := fun e => hne e.symm
  have hne3 : ¬ h0 = h1 := hne
  clear hx hy hne
  go_wp2
  simp only [bodyPostS, results, Try.results38]
  have hG : w.grownBy ((((((((((w.setCell ⟨h0, 0, none⟩ (.int .u8 0)).setCell ⟨h0, 1, none⟩ (.int .u32 0)).setCell ⟨h0, 2, none⟩ (.int .u32 0)).setCell ⟨h0, 3, none⟩ (.slice none 0 0)).setCell ⟨h0, 4, none⟩ (.slice none 0 0)).setCell ⟨h0, 5, none⟩ (.int .u32 0)).setCell ⟨h0, 6, none⟩ (.slice none 0 0)).setCell ⟨h0, 7, none⟩ (.int .i64 0)).setCell ⟨h0, 8, none⟩ (.int .i64 0)).setCell ⟨h0, 9, none⟩ (.slice none 0 0)) (some h0) := by
    iterate 9 (refine grown_trans ?_ (grown_at _ _ _ _))
    exact grown_at _ _ _ _
  have hb0 := ((((((((((H.out.1.set 0 (.int .u8 0)).set 1 (.int .u32 0)).set 2 (.int .u32 0)).set 3 (.slice none 0 0)).set 4 (.slice none 0 0)).set 5 (.int .u32 0)).set 6 (.slice none 0 0)).set 7 (.int .i64 0)).set 8 (.int .i64 0)).set 9 (.slice none 0 0))
  have hK : Caught h0 h1 w (((((((((((w.setCell ⟨h0, 0, none⟩ (.int .u8 0)).setCell ⟨h0, 1, none⟩ (.int .u32 0)).setCell ⟨h0, 2, none⟩ (.int .u32 0)).setCell ⟨h0, 3, none⟩ (.slice none 0 0)).setCell ⟨h0, 4, none⟩ (.slice none 0 0)).setCell ⟨h0, 5, none⟩ (.int .u32 0)).setCell ⟨h0, 6, none⟩ (.slice none 0 0)).setCell ⟨h0, 7, none⟩ (.int .i64 0)).setCell ⟨h0, 8, none⟩ (.int .i64 0)).setCell ⟨h0, 9, none⟩ (.slice none 0 0)).setCell ⟨h1, 0, none⟩ (.int .u16 70)) :=
    ⟨⟨_, hG, grown_at _ _ _ _⟩, Boxed.grown hb0 (grown_at _ _ _ _) (by simp only [ne_eq, Option.some.injEq]; exact hne3), (H.out.2.grown hG (by simp only [ne_eq, Option.some.injEq]; exact hne2)).set 0 _⟩
  simp [hK]
end Go.Proofs.Ytlokamblbhooaaa.code
