/-
  The contracts of cell.Merge, of the chapter's Merge, and of cell.Sound and the chapter's Sound.
-/
import Derived.Test.YthbjfbkjbggkbaaCellTake
import Derived.Test.YthbjfbkjbggkbaaCellMath
import Derived.Deep.QuietTactic
import Derived.BigQuiet
import Derived.Deep.RegionWith
namespace Go.Proofs.Ythbjfbkjbggkbaa.cell
open Go.ChangeShapes Go.WideShapes Go.ChangeAt Go.RowKit
set_option linter.unusedVariables false
set_option maxRecDepth 100000

abbrev val (c : C4) : Value := .agg #[.int .i64 c.n, .int .i64 c.s, .int .i64 c.lo, .int .i64 c.hi]

theorem beq_iff (a b : Int) : (a == b) = decide (a = b) := by by_cases h : a = b <;> simp [h]

theorem keep4 {W w1 : World} {B b : Nat} {n s lo hi : Int} (hb : Below B W w1) (h : b < B) (hh : Has W b n s lo hi) : Has w1 b n s lo hi := by
  obtain ⟨c0, c1, c2, c3, f0, f1, f2, f3⟩ := hh
  exact ⟨(hb.cell h).trans c0, (hb.cell h).trans c1, (hb.cell h).trans c2, (hb.cell h).trans c3, (hb.frozen h).trans f0, (hb.frozen h).trans f1, (hb.frozen h).trans f2, (hb.frozen h).trans f3⟩

end Go.Proofs.Ythbjfbkjbggkbaa.cell
