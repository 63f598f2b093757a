/-
 The chapter's Encode.
-/
import Derived.Test.YtlcjllgfpfldlaaWalJ32K
import Derived.Test.YtlcjllgfpfldlaaWalJ31K
namespace Go.Proofs.Ytlcjllgfpfldlaa.code
open Go.ChangeShapes Go.WideShapes Go.ChangeAt Go.RowKit Go.Deep
open Go.Proofs.Ytlcjllgfpfldlaa.dims (nth Ints cell_lt vals vals_len vals_get own_below own_mono own_out RowOut ret_bool)
set_option linter.unusedVariables false
set_option maxRecDepth 100000
set_option linter.unusedSimpArgs false

theorem nodesB_len (l : List Int) : (nodesB l).length = 1 + l.length := by unfold nodesB; rw [List.length_append, putI_len, flatN_len]
theorem spansB_len (l : List PSpan) : (l.flatMap spanB).length = 5 * l.length := by
 induction l with
 | nil => rfl
 | cons x l ih => rw [List.flatMap_cons, List.length_append, ih, spanB_len, List.length_cons]; omega
end Go.Proofs.Ytlcjllgfpfldlaa.code
