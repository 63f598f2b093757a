/-
  The contracts of slices.Grow of no rows, of slices.Concat of two lists of rows, and of table.Merge.
-/
import Derived.Test.YtgimknplckkiaaaGreatDoorTableBK
import Derived.Test.YtgimknplckkiaaaGreatDoorTableRefLay
namespace Go.Proofs.YtgimknplckkiaaaGreatDoor.table
open Go.ChangeShapes Go.WideShapes Go.ChangeAt Go.RowKit Go.Deep
open Go.Proofs.YtgimknplckkiaaaGreatDoor.dims (nth Ints cell_lt cmpL own_below)
open Go.Proofs.YtgimknplckkiaaaGreatDoor.cell (C4 mrg all one zero In64)
set_option linter.unusedVariables false
set_option maxRecDepth 100000

/-- the first lists of two -/
def pick2 (rs qs : List Rw) : Nat → List Rw
  | 0 => []
  | 1 => rs
  | _ => rs ++ qs
structure CS (w : World) (rs qs : List Rw) (k : Nat) (v : Value) (W : World) : Prop where
  own : W.ownsRow w.heap.size 51 5 v (pick2 rs qs k).length (flatR (pick2 rs qs k))
  bel : Below w.heap.size w W
theorem CS.step {w W W1 : World} {rs qs : List Rw} {k g cap : Nat} {v : Value} {os : List Rw} (h : CS w rs qs k v W) (hk : pick2 rs qs (k + 1) = pick2 rs qs k ++ os)
    (ho : W1.ownsRow w.heap.size 51 5 (.slice (some ⟨g, 0, none⟩) ((pick2 rs qs k).length + os.length) cap) ((pick2 rs qs k).length + os.length) (flatR (pick2 rs qs k) ++ flatR os)) (hg : W.grownBy W1 v.ownBlock) : CS w rs qs (k + 1) (.slice (some ⟨g, 0, none⟩) ((pick2 rs qs k).length + os.length) cap) W1 := by
  refine ⟨?_, h.bel.grown hg h.bel.size fun q hq => (h.own.lt q hq).1⟩
  rw [hk, flatR_append, List.length_append]; exact ho
theorem CS.same {w W : World} {rs qs : List Rw} {k : Nat} {v : Value} (h : CS w rs qs k v W) (hk : pick2 rs qs (k + 1) = pick2 rs qs k) : CS w rs qs (k + 1) v W := ⟨by rw [hk]; exact h.own, h.bel⟩

/-- what Concat hands out, as rows -/
theorem CS.rows {w W : World} {rs qs : List Rw} {v : Value} (h : CS w rs qs 2 v W) (hk : ∀ r ∈ rs ++ qs, KeyOk w r.a r.k.length r.cap r.k) : ∃ a cap, v = .slice a (rs ++ qs).length cap ∧ RowsIn W a (rs ++ qs) := by
  have ho : W.ownsRow w.heap.size 51 5 v (rs ++ qs).length (flatR (rs ++ qs)) := h.own
  rcases ho.2 with ⟨hv, h0⟩ | ⟨g, cap, cur, hv, _, _, hc, hm, _⟩
  · exact ⟨none, 0, by rw [hv, h0], .inl (List.eq_nil_of_length_eq_zero h0)⟩
  · refine ⟨some ⟨g, 0, none⟩, cap, hv, .inr ⟨g, 0, rfl, fun i hi => ⟨?_, (hk _ (rwn_mem hi)).keep h.bel⟩⟩⟩
    rw [hv] at ho
    have c : ∀ j, j < 5 → W.cell? ⟨g, i * 5 + j, none⟩ = (rowCells (rwn (rs ++ qs) i))[j]? := fun j hj => by
      rw [World.ownsRow.cellAt ho (i * 5 + j) (by omega), flatR_get _ i j hi hj]
    unfold CellsAt
    rw [Nat.zero_add]
    exact ⟨c 0 (by omega), c 1 (by omega), c 2 (by omega), c 3 (by omega), c 4 (by omega)⟩

theorem rows_keys {w : World} {a : Option Addr} {rs : List Rw} (h : RowsIn w a rs) : ∀ r ∈ rs, KeyOk w r.a r.k.length r.cap r.k := fun r hr => by
  obtain ⟨i, hi, rfl⟩ := List.mem_iff_getElem.1 hr
  obtain ⟨b, off, ha, hc⟩ := h.get hi
  have := (hc i hi).2
  rwa [rwn_eq hi] at this
theorem told_rows (rs : List Rw) : told (fun l => l) rs = rs.map plain := rfl

end Go.Proofs.YtgimknplckkiaaaGreatDoor.table
