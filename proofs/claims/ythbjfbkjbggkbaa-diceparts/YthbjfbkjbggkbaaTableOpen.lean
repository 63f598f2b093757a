/-
  What the row's reading tells of facts and of rows that came in.
-/
import Derived.Test.YthbjfbkjbggkbaaTableApp
import Derived.Test.YthbjfbkjbggkbaaDimsOpen
import Derived.Deep.Fields
import Derived.SizedLaws
namespace Go.Proofs.Ythbjfbkjbggkbaa.table
open Go.ChangeShapes Go.WideShapes Go.ChangeAt Go.RowKit Go.Deep Go.Joins
open Go.Proofs.Ythbjfbkjbggkbaa.dims (nth Ints cell_lt Nums nums_open addr_add)
open Go.Proofs.Ythbjfbkjbggkbaa.cell (C4 mrg all one zero)
set_option linter.unusedVariables false
set_option maxRecDepth 100000

theorem i64_of_wf2 {n : Int} (h : (Lit.int .i64 n).wf = true) : cell.In64 n := by
  simpa [Lit.wf, IntKind.min, IntKind.max, IntKind.signed, IntKind.bits, cell.In64] using h
theorem key_of_nums {w : World} {a : Option Addr} {n cap : Nat} {l : List Int} (h : Nums .i64 w a n cap l) : KeyOk w a n cap l :=
  ⟨h.mem, h.eln, h.lec, Nat.le_trans h.max maxLen_le2, fun v hv => by
    obtain ⟨i, hi, rfl⟩ := List.mem_iff_getElem.1 hv
    have := i64_of_wf2 (h.wf i hi)
    simpa [nth, hi] using this⟩

theorem weightsAll_in {H : Type} {P : Program} {e : TypeId} : ∀ {l : List (DataW H)} {d : DataW H}, d ∈ l → ∀ n ∈ d.weights P e, n ∈ DataW.weightsAll P e l
  | d' :: r, d, hd, n, hn => by
    simp only [DataW.weightsAll, List.mem_append]
    rcases List.mem_cons.1 hd with rfl | h
    · exact Or.inl hn
    · exact Or.inr (weightsAll_in h n hn)

/-- what is within the form's reach -/
def Reach {H : Type} (t : TypeId) (d : DataW H) : Prop := ∀ n ∈ d.weights Try.prog t, n ≤ reachBytes

theorem key_cell {H : Type} {enc : TypeId × Value → H} {W : World} {base : Nat} {spare : Nat → Bool} {held : Bool} {n : Nat} {c : Value} {y : DataW H × List MemPlace}
    (h : DataW.trod enc Try.prog W base spare held n 26 [c] = some y) : ∃ a cap l, c = .slice a l.length cap ∧ KeyOk W a l.length cap l ∧ (Reach 26 y.1 → l.length ≤ 17592186044416) := by
  have hsl : ∃ a len cap, c = .slice a len cap ∧ (Reach 26 y.1 → len ≤ 17592186044416) := by
    rcases open_slice Try.underlying26 h with ⟨hcs, _⟩ | ⟨a', len, cap, m, n', D, Pl, hcs, _, _, _, _, hy, _⟩
    · simp only [List.cons.injEq, and_true] at hcs; exact ⟨_, _, _, hcs, fun _ => by omega⟩
    · simp only [List.cons.injEq, and_true] at hcs
      refine ⟨_, _, _, hcs, fun hr => ?_⟩
      have e8 : Try.prog.bytesOf 3 = 8 := by kernel_rfl
      have := hr ((((List.range len).map D).length + ((List.range (m - len)).map fun j => D (len + j)).length) * Try.prog.bytesOf 3) (by rw [hy]; simp [DataW.weights, Try.underlying26])
      rw [e8] at this
      simp only [List.length_map, List.length_range, reachBytes] at this
      omega
  obtain ⟨a, len, cap, rfl, hr⟩ := hsl
  obtain ⟨l, hl⟩ := nums_open Try.underlying26 Try.underlying3 (by kernel_rfl) h
  obtain rfl := hl.eln
  exact ⟨a, cap, l, rfl, key_of_nums hl, hr⟩

end Go.Proofs.Ythbjfbkjbggkbaa.table
