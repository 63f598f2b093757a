/-
  The contract of pile.take: what the pile's four cells hold behind it.
-/
import Derived.Test.YthbjfbkjbggkbaaCellLeaf
namespace Go.Proofs.Ythbjfbkjbggkbaa.cell
open Go.ChangeShapes Go.WideShapes Go.ChangeAt Go.RowKit
set_option linter.unusedVariables false
set_option maxRecDepth 100000

/-- four numbers stand in a block of their own, and may be written -/
def Has (w : World) (b : Nat) (n s lo hi : Int) : Prop :=
  w.cell? ⟨b, 0, none⟩ = some (.int .i64 n) ∧ w.cell? ⟨b, 1, none⟩ = some (.int .i64 s) ∧ w.cell? ⟨b, 2, none⟩ = some (.int .i64 lo) ∧ w.cell? ⟨b, 3, none⟩ = some (.int .i64 hi) ∧
  w.frozen? ⟨b, 0, none⟩ = false ∧ w.frozen? ⟨b, 1, none⟩ = false ∧ w.frozen? ⟨b, 2, none⟩ = false ∧ w.frozen? ⟨b, 3, none⟩ = false

end Go.Proofs.Ythbjfbkjbggkbaa.cell
