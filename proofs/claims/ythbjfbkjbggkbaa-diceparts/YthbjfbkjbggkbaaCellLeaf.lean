/-
  Contracts of package cell's leaves (Of, held.empty, held.ordered) and of the chapter's own Of.
-/
import Derived.Test.YthbjfbkjbggkbaaRows
import Derived.WalkKit
import Derived.ProofKit
import Derived.OpenShut
import Derived.Below
import Derived.Outline
import Derived.WalkSpells
import Derived.WalkLawsBesides
import Derived.RegionTactic
import Derived.BigRegion
namespace Go.Proofs.Ythbjfbkjbggkbaa.cell
open Go.ChangeShapes Go.WideShapes Go.ChangeAt Go.RowKit
set_option linter.unusedVariables false
set_option maxRecDepth 100000

end Go.Proofs.Ythbjfbkjbggkbaa.cell
