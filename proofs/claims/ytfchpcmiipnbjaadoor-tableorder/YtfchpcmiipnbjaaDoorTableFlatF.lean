/-
  Facts of a call's own, cell by cell.
-/
import Derived.Test.YtfchpcmiipnbjaaDoorTableApp
namespace Go.Proofs.YtfchpcmiipnbjaaDoor.table
open Go.ChangeShapes Go.WideShapes Go.ChangeAt Go.RowKit Go.Deep
open Go.Proofs.YtfchpcmiipnbjaaDoor.dims (nth Ints cell_lt cmpL own_below ret_bool)
open Go.Proofs.YtfchpcmiipnbjaaDoor.cell (C4 mrg all one zero In64)
set_option linter.unusedVariables false
set_option maxRecDepth 100000

def factCells (f : Ft) : List Value := [.slice f.a f.k.length f.cap, .int .i64 f.v]
def flatF (fs : List Ft) : List Value := fs.flatMap factCells
theorem flatF_len (fs : List Ft) : (flatF fs).length = fs.length * 2 := by
  induction fs with
  | nil => rfl
  | cons c l ih => unfold flatF at *; simp only [List.flatMap_cons, List.length_append, List.length_cons, ih]; simp [factCells]; omega
theorem flatF_snoc (l : List Ft) (c : Ft) : flatF (l ++ [c]) = flatF l ++ factCells c := by simp [flatF]
theorem flatF_get (fs : List Ft) : ∀ i j, i < fs.length → j < 2 → (flatF fs)[i * 2 + j]? = (factCells (ftn fs i))[j]? := by
  induction fs with
  | nil => intro i j h; simp at h
  | cons c l ih =>
    intro i j hi hj
    have e : flatF (c :: l) = factCells c ++ flatF l := by simp [flatF]
    rw [e]
    cases i with
    | zero => rw [List.getElem?_append_left (by simp [factCells]; omega)]; simp [ftn]
    | succ k =>
      rw [List.getElem?_append_right (by simp [factCells]; omega)]
      have e2 : (k + 1) * 2 + j - (factCells c).length = k * 2 + j := by simp [factCells]; omega
      rw [e2, ih k j (by simpa using hi) hj]
      simp [ftn]
theorem flatF_take {fs : List Ft} {k : Nat} (h : k < fs.length) : flatF (fs.take (k + 1)) = flatF (fs.take k) ++ factCells (ftn fs k) := by
  rw [List.take_succ_eq_append_getElem h, flatF_snoc, ftn_eq h]
theorem info_fact : (Tryd.prog.info? 53).map (fun i => (i.zero, i.size, i.bytes)) = some (some (.agg #[.slice none 0 0, .int .i64 0]), 2, 32) := by kernel_rfl
/-- facts of a call's own, whose keys can be read -/
theorem own_facts {w : World} {base : Nat} {v : Value} {fs : List Ft} (h : w.ownsRow base 53 2 v fs.length (flatF fs)) (hk : ∀ f ∈ fs, KeyOk w f.a f.k.length f.cap f.k) : ∃ a cap, v = .slice a fs.length cap ∧ FactsIn w a fs ∧ fs.length ≤ cap := by
  rcases h.2 with ⟨hv, h0⟩ | ⟨g, cap, cur, hv, _, _, hc, hm, _⟩
  · have : fs = [] := List.eq_nil_of_length_eq_zero h0
    subst this
    exact ⟨none, 0, hv, .inl rfl, Nat.le_refl _⟩
  · refine ⟨some ⟨g, 0, none⟩, cap, hv, .inr ⟨g, 0, rfl, fun i hi => ?_⟩, hc⟩
    rw [hv] at h
    have c : ∀ j, j < 2 → w.cell? ⟨g, i * 2 + j, none⟩ = (factCells (ftn fs i))[j]? := fun j hj => by
      rw [World.ownsRow.cellAt h (i * 2 + j) (by omega), flatF_get fs i j hi hj]
    rw [Nat.zero_add]
    exact ⟨c 0 (by omega), c 1 (by omega), hk _ (ftn_mem hi)⟩
end Go.Proofs.YtfchpcmiipnbjaaDoor.table
