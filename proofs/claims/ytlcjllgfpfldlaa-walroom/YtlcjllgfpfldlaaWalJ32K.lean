/-
 The chapter's SoundNodes, SoundFacts, SoundEntries, spans.
 The chapter's Sound.
-/
import Derived.Test.YtlcjllgfpfldlaaCodeSndE
import Derived.BigQuiet
import Derived.Test.YtlcjllgfpfldlaaWalJ31K
import Derived.Test.YtlcjllgfpfldlaaWalJ30K
namespace Go.Proofs.Ytlcjllgfpfldlaa.code
open Go.ChangeShapes Go.WideShapes Go.ChangeAt Go.RowKit Go.Deep
open Go.Proofs.Ytlcjllgfpfldlaa.dims (nth Ints cell_lt vals vals_len vals_get own_below own_mono own_out RowOut ret_bool)
set_option linter.unusedVariables false
set_option maxRecDepth 100000
set_option linter.unusedSimpArgs false

end Go.Proofs.Ytlcjllgfpfldlaa.code

namespace Go.Proofs.Ytlcjllgfpfldlaa.code
open Go.ChangeShapes Go.WideShapes Go.ChangeAt Go.RowKit Go.Deep
open Go.Proofs.Ytlcjllgfpfldlaa.dims (nth Ints cell_lt vals vals_len vals_get own_below own_mono own_out RowOut ret_bool)
set_option linter.unusedVariables false
set_option maxRecDepth 100000
set_option linter.unusedSimpArgs false

end Go.Proofs.Ytlcjllgfpfldlaa.code
