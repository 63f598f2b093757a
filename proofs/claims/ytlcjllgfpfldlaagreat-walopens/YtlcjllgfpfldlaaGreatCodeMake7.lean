/-
 The statements' own Make, of a kind that is 7.
-/
import Derived.Test.YtlcjllgfpfldlaaGreatWalZ31K
import Derived.Test.YtlcjllgfpfldlaaGreatWalZ35K
namespace Go.Proofs.YtlcjllgfpfldlaaGreat.code
open Go.ChangeShapes Go.WideShapes Go.ChangeAt Go.RowKit Go.Deep
open Go.Proofs.YtlcjllgfpfldlaaGreat.dims (nth Ints cell_lt vals vals_len vals_get own_below own_mono own_out RowOut ret_bool ret_int)
set_option linter.unusedVariables false
set_option maxRecDepth 100000
set_option linter.unusedSimpArgs false

end Go.Proofs.YtlcjllgfpfldlaaGreat.code
