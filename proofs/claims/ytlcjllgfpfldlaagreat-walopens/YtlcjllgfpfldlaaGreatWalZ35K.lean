/-
 Bytes that came in.
 Records that came in: what the row's reading tells of them.
-/
import Derived.Test.YtlcjllgfpfldlaaGreatCodeKnown
import Derived.Test.YtlcjllgfpfldlaaGreatDimsOpen
import Derived.Deep.Fields
namespace Go.Proofs.YtlcjllgfpfldlaaGreat.code
open Go.ChangeShapes Go.WideShapes Go.ChangeAt Go.RowKit Go.Deep
open Go.Proofs.YtlcjllgfpfldlaaGreat.dims (nth Ints cell_lt Nums)
set_option linter.unusedVariables false
set_option maxRecDepth 100000

end Go.Proofs.YtlcjllgfpfldlaaGreat.code

namespace Go.Proofs.YtlcjllgfpfldlaaGreat.code
open Go.ChangeShapes Go.WideShapes Go.ChangeAt Go.RowKit Go.Deep Go.Joins
open Go.Proofs.YtlcjllgfpfldlaaGreat.dims (nth Ints cell_lt Nums)
set_option linter.unusedVariables false
set_option maxRecDepth 100000
set_option linter.unusedSimpArgs false

section
variable {H : Type} {enc : TypeId × Value → H} {W : World} {base : Nat} {spare : Nat → Bool} {held : Bool}

end
end Go.Proofs.YtlcjllgfpfldlaaGreat.code
