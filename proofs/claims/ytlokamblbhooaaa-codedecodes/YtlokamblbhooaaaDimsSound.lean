/-
  Lists of dimensions in memory; the contract of dims.Sound.
-/
import Derived.Test.YtlokamblbhooaaaDimsOne
namespace Go.Proofs.Ytlokamblbhooaaa.dims
open Go.ChangeShapes Go.WideShapes Go.ChangeAt Go.RowKit Go.Deep
set_option linter.unusedVariables false
set_option maxRecDepth 100000

/-- a dimension: its size, and where its divisors lie -/
structure Dm where
  sz : Int
  a : Option Addr
  cap : Nat
  l : List Int

def dn (ds : List Dm) (i : Nat) : Dm := ds.getD i ⟨0, none, 0, []⟩

/-- dimensions that can be read at an address -/
def DimsIn (w : World) (a : Option Addr) (ds : List Dm) : Prop :=
  ds = [] ∨ ∃ b off, a = some ⟨b, off, none⟩ ∧ ∀ i, i < ds.length → w.cell? ⟨b, off + i * 2, none⟩ = some (.int .i64 (dn ds i).sz) ∧ w.cell? ⟨b, off + i * 2 + 1, none⟩ = some (.slice (dn ds i).a (dn ds i).l.length (dn ds i).cap) ∧ Ints w (dn ds i).a (dn ds i).l ∧ (dn ds i).l.length ≤ 9223372036854775807

theorem DimsIn.keep {w w1 : World} {a : Option Addr} {ds : List Dm} (h : DimsIn w a ds) (hb : Below w.heap.size w w1) : DimsIn w1 a ds := by
  rcases h with h | ⟨b, off, ha, hc⟩
  · exact .inl h
  · refine .inr ⟨b, off, ha, fun i hi => ?_⟩
    obtain ⟨h1, h2, h3, h4⟩ := hc i hi
    exact ⟨(hb.cell (p := ⟨b, off + i * 2, none⟩) (cell_lt h1)).trans h1, (hb.cell (p := ⟨b, off + i * 2 + 1, none⟩) (cell_lt h2)).trans h2, h3.keep hb, h4⟩

theorem DimsIn.get {w : World} {a : Option Addr} {ds : List Dm} (h : DimsIn w a ds) {k : Nat} (hk : k < ds.length) : ∃ b off, a = some ⟨b, off, none⟩ ∧ ∀ i, i < ds.length → w.cell? ⟨b, off + i * 2, none⟩ = some (.int .i64 (dn ds i).sz) ∧ w.cell? ⟨b, off + i * 2 + 1, none⟩ = some (.slice (dn ds i).a (dn ds i).l.length (dn ds i).cap) ∧ Ints w (dn ds i).a (dn ds i).l ∧ (dn ds i).l.length ≤ 9223372036854775807 := by
  rcases h with rfl | h
  · simp at hk
  · exact h

def sndD (d : Dm) : Bool := sndB d.sz d.l
def sndL (ds : List Dm) : Bool := decide (1 ≤ ds.length) && (decide (ds.length ≤ 4) && ds.all sndD)

theorem all_of {ds : List Dm} (h : ∀ i, i < ds.length → sndD (dn ds i) = true) : ds.all sndD = true := by
  rw [List.all_eq_true]
  intro d hd
  obtain ⟨i, hi, rfl⟩ := List.mem_iff_getElem.1 hd
  have := h i hi
  simpa [dn, hi] using this
theorem all_not {ds : List Dm} {k : Nat} (hk : k < ds.length) (h : sndD (dn ds k) = false) : ds.all sndD = false := by
  cases e : ds.all sndD with
  | false => rfl
  | true =>
    have := (List.all_eq_true.1 e) (dn ds k) (by simp [dn, hk])
    rw [h] at this; cases this
theorem all_at {ds : List Dm} (h : ds.all sndD = true) {k : Nat} (hk : k < ds.length) : sndD (dn ds k) = true := (List.all_eq_true.1 h) (dn ds k) (by simp [dn, hk])

end Go.Proofs.Ytlokamblbhooaaa.dims
