/-
 What the row's reading tells of lists of numbers, of dimensions and of choices that came in.
-/
import Derived.Test.YtlcjllgfpfldlaaGreatDimsRow
import Derived.Test.YtlcjllgfpfldlaaGreatWalZ20K
import Derived.Deep.Slices
import Derived.Deep.Fields
import Derived.Lib.SmallJoins
import Derived.ChangeOld
namespace Go.Proofs.YtlcjllgfpfldlaaGreat.dims
open Go.ChangeShapes Go.WideShapes Go.ChangeAt Go.RowKit Go.Deep Go.Joins
set_option linter.unusedVariables false
set_option maxRecDepth 100000

/-- a slice of numbers that came in -/
structure Nums (k : IntKind) (W : World) (a : Option Addr) (len cap : Nat) (l : List Int) : Prop where
 mem : Smalls k W a l
 eln : l.length = len
 lec : len ≤ cap
 max : cap ≤ maxLen
 wf : ∀ i, i < l.length → (Lit.int k (nth l i)).wf = true

theorem Nums.ints {W : World} {a : Option Addr} {len cap : Nat} {l : List Int} (h : Nums .i64 W a len cap l) : Ints W a l := h.mem

end Go.Proofs.YtlcjllgfpfldlaaGreat.dims
