/-
  The contract of dims.sound: may a dimension be?
-/
import Derived.Test.YtlokamblbhooaaaDimsLeaf
namespace Go.Proofs.Ytlokamblbhooaaa.dims
open Go.ChangeShapes Go.WideShapes Go.ChangeAt Go.RowKit Go.Deep
set_option linter.unusedVariables false
set_option maxRecDepth 100000

theorem not_step_le {sz : Int} {l : List Int} {k : Nat} (hk : k < l.length) (h : ¬ StepOk l k) : sndB sz l = false := sndB_false fun s => h (s.2.2.2 k hk)

end Go.Proofs.Ytlokamblbhooaaa.dims
