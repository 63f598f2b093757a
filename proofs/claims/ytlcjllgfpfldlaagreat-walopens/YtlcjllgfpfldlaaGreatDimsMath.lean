/-
 The plain mathematics of dimensions: which divisors may be, what a member is at a level above, how keys compare. Nothing of the program.
-/
import Derived.RowKit
import Derived.Below
namespace Go.Proofs.YtlcjllgfpfldlaaGreat.dims
open Go.RowKit

def nth (l : List Int) (i : Nat) : Int := l.getD i 0
end Go.Proofs.YtlcjllgfpfldlaaGreat.dims
