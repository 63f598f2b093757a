/-
 Rows that a call makes for itself: lists of numbers, as the walks carry them.
-/
import Derived.Test.YtlcjllgfpfldlaaGreatWalZ20K
import Derived.Deep.AppendLies
import Derived.Deep.RegionHeldLaw
open Go.ChangeShapes Go.WideShapes Go.ChangeAt Go.RowKit Go.Deep
set_option linter.unusedVariables false
set_option maxRecDepth 100000
namespace Go.Proofs.YtlcjllgfpfldlaaGreat
namespace dims
def vals (l : List Int) : List Value := l.map (Value.int .i64)
theorem vals_len (l : List Int) : (vals l).length = l.length := by simp [vals]
theorem vals_get {l : List Int} {j : Nat} (h : j < l.length) : (vals l)[j]? = some (.int .i64 (nth l j)) := by simp [vals, nth, h]

def RowOut (W : World) (v : Value) (l : List Int) : Prop := ∃ a cap, v = .slice a l.length cap ∧ Ints W a l ∧ l.length ≤ cap

theorem RowOut.keep {W W' : World} {v : Value} {l : List Int} (h : RowOut W v l) (hb : Below W.heap.size W W') : RowOut W' v l := by
 obtain ⟨a, cap, e, hI, hc⟩ := h
 exact ⟨a, cap, e, hI.keep hb, hc⟩
theorem RowOut.nil (W : World) : RowOut W (.slice none 0 0) [] := ⟨none, 0, rfl, .inl rfl, nrQ _⟩

theorem own_below {w w' : World} {base : Nat} {e : TypeId} {size : Nat} {v : Value} {n : Nat} {xs : List Value} (h : w.ownsRow base e size v n xs) (hb : Below w.heap.size w w') : w'.ownsRow base e size v n xs := by
 have hl := h.lt
 refine ⟨h.1, ?_⟩
 rcases h.2 with h0 | ⟨g, cap, cur, hv, a, hg, r⟩
 ·exact .inl h0
 ·refine .inr ⟨g, cap, cur, hv, a, ?_, r⟩
  rw [hb.block g (hl g (by rw [hv]; rfl)).2]; exact hg
theorem own_mono {w : World} {base base' : Nat} {e : TypeId} {size : Nat} {v : Value} {n : Nat} {xs : List Value} (h : w.ownsRow base e size v n xs) (hb : base' ≤ base) : w.ownsRow base' e size v n xs := by
 refine ⟨h.1, ?_⟩
 rcases h.2 with h0 | ⟨g, cap, cur, hv, a, r⟩
 ·exact .inl h0
 ·exact .inr ⟨g, cap, cur, hv, ntQ hb a, r⟩

theorem own_out {w : World} {base : Nat} {v : Value} {n : Nat} {l : List Int} (h : w.ownsRow base 3 1 v n (vals l)) : RowOut w v l ∧ l.length = n := by
 have hl : l.length = n := by have := h.1; rw [vals_len] at this; omega
 refine ⟨?_, hl⟩
 rcases h.2 with ⟨hv, h0⟩ | ⟨g, cap, cur, hv, _, _, hc, _⟩
 ·subst h0
  have : l = [] := List.eq_nil_of_length_eq_zero hl
  subst this
  exact ⟨none, 0, hv, .inl rfl, nrQ _⟩
 ·subst hl
  refine ⟨_, cap, hv, .inr ⟨g, 0, rfl, fun i hi => ?_⟩, hc⟩
  rw [hv] at h
  have := World.ownsRow.cellAt h i (by omega)
  rw [vals_get hi] at this
  simpa using this

def RowCap (W : World) (v : Value) (l : List Int) : Prop := ∃ a cap, v = .slice a l.length cap ∧ Ints W a l ∧ l.length ≤ cap ∧ cap ≤ 9223372036854775807
theorem RowCap.out {W : World} {v : Value} {l : List Int} (h : RowCap W v l) : RowOut W v l := by
 obtain ⟨a, cap, e, hI, hc, -⟩ := h
 exact ⟨a, cap, e, hI, hc⟩
theorem RowCap.keep {W W' : World} {v : Value} {l : List Int} (h : RowCap W v l) (hb : Below W.heap.size W W') : RowCap W' v l := by
 obtain ⟨a, cap, e, hI, hc⟩ := h
 exact ⟨a, cap, e, hI.keep hb, hc⟩
end dims
end Go.Proofs.YtlcjllgfpfldlaaGreat
