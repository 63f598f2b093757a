/-
 Lists of numbers of whatever kind that can be read in memory.
-/
import Derived.Test.YtlcjllgfpfldlaaGreatWalZ20K
open Go.ChangeShapes Go.WideShapes Go.ChangeAt Go.RowKit Go.Deep
set_option linter.unusedVariables false
set_option maxRecDepth 100000
namespace Go.Proofs.YtlcjllgfpfldlaaGreat
namespace dims
def Smalls (k : IntKind) (w : World) (a : Option Addr) (l : List Int) : Prop :=
 l = [] ∨ ∃ b off, a = some ⟨b, off, none⟩ ∧ ∀ i, i < l.length → w.cell? ⟨b, off + i, none⟩ = some (.int k (nth l i))

theorem Smalls.ints {w : World} {a : Option Addr} {l : List Int} (h : Smalls .i64 w a l) : Ints w a l := h

theorem Smalls.keep {k : IntKind} {w w1 : World} {a : Option Addr} {l : List Int} (h : Smalls k w a l) (hb : Below w.heap.size w w1) : Smalls k w1 a l := by
 rcases h with h | ⟨b, off, ha, hc⟩
 ·exact .inl h
 ·exact .inr ⟨b, off, ha, fun i hi => (hb.cell (p := ⟨b, off + i, none⟩) (cell_lt (hc i hi))).trans (hc i hi)⟩

theorem Smalls.get {k : IntKind} {w : World} {a : Option Addr} {l : List Int} (h : Smalls k w a l) {j : Nat} (hj : j < l.length) : ∃ b off, a = some ⟨b, off, none⟩ ∧ ∀ i, i < l.length → w.cell? ⟨b, off + i, none⟩ = some (.int k (nth l i)) := by
 rcases h with rfl | h
 ·simp at hj
 ·exact h
end dims
end Go.Proofs.YtlcjllgfpfldlaaGreat
