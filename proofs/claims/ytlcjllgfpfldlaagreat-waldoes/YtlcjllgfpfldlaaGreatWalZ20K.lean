/-
 Lists of numbers in memory; the contracts of the leaves: comparing two numbers, and how many levels there are.
 The contract of dims.sound: may a dimension be?
 Lists of dimensions in memory; the contract of dims.Sound.
-/
import Derived.Test.YtlcjllgfpfldlaaGreatRows
import Derived.Test.YtlcjllgfpfldlaaGreatDimsMath
import Derived.WalkKit
import Derived.ProofKit
import Derived.OpenShut
import Derived.Outline
import Derived.WalkSpells
import Derived.WalkLawsBesides
import Derived.RegionTactic
import Derived.BigRegion
import Derived.BigQuiet
import Derived.Deep.LoopGhost
import Derived.Deep.DeepCutAuto
import Derived.Deep.RegionWith
import Derived.Deep.RegionHeld3
import Derived.Deep.OwnRows
import Derived.Deep.CutRange
import Derived.Laws.OwnMore
import Derived.Laws.AppendOwnNone
import Derived.OwnWalk
open Go.ChangeShapes Go.WideShapes Go.ChangeAt Go.RowKit Go.Deep
set_option linter.unusedVariables false
set_option maxRecDepth 100000
namespace Go.Proofs.YtlcjllgfpfldlaaGreat
namespace dims
theorem ret_bool {a b : Bool} (h : a = b) : Ending.returned (.bool a) = .returned (.bool b) := by rw [h]
theorem ret_int {a b : Int} (h : a = b) : Ending.returned (.int .i64 a) = .returned (.int .i64 b) := by rw [h]

theorem cell_lt {W : World} {c o : Nat} {v : Value} (h : W.cell? ⟨c, o, none⟩ = some v) : c < W.heap.size := by
 by_cases hc : c < W.heap.size
 ·exact hc
 ·exfalso
  have : W.heap[c]? = none := Array.getElem?_eq_none (by omega)
  simp [World.cell?, this] at h

def Ints (w : World) (a : Option Addr) (l : List Int) : Prop :=
 l = [] ∨ ∃ b off, a = some ⟨b, off, none⟩ ∧ ∀ i, i < l.length → w.cell? ⟨b, off + i, none⟩ = some (.int .i64 (nth l i))

theorem Ints.keep {w w1 : World} {a : Option Addr} {l : List Int} (h : Ints w a l) (hb : Below w.heap.size w w1) : Ints w1 a l := by
 rcases h with h | ⟨b, off, ha, hc⟩
 ·exact .inl h
 ·exact .inr ⟨b, off, ha, fun i hi => (hb.cell (p := ⟨b, off + i, none⟩) (cell_lt (hc i hi))).trans (hc i hi)⟩

theorem Ints.get {w : World} {a : Option Addr} {l : List Int} (h : Ints w a l) {k : Nat} (hk : k < l.length) : ∃ b off, a = some ⟨b, off, none⟩ ∧ ∀ i, i < l.length → w.cell? ⟨b, off + i, none⟩ = some (.int .i64 (nth l i)) := by
 rcases h with rfl | h
 ·simp at hk
 ·exact h
structure Dm where
 sz : Int
 a : Option Addr
 cap : Nat
 l : List Int

def dn (ds : List Dm) (i : Nat) : Dm := ds.getD i ⟨0, none, 0, []⟩

def DimsIn (w : World) (a : Option Addr) (ds : List Dm) : Prop :=
 ds = [] ∨ ∃ b off, a = some ⟨b, off, none⟩ ∧ ∀ i, i < ds.length → w.cell? ⟨b, off + i * 2, none⟩ = some (.int .i64 (dn ds i).sz) ∧ w.cell? ⟨b, off + i * 2 + 1, none⟩ = some (.slice (dn ds i).a (dn ds i).l.length (dn ds i).cap) ∧ Ints w (dn ds i).a (dn ds i).l ∧ (dn ds i).l.length ≤ 9223372036854775807

theorem DimsIn.keep {w w1 : World} {a : Option Addr} {ds : List Dm} (h : DimsIn w a ds) (hb : Below w.heap.size w w1) : DimsIn w1 a ds := by
 rcases h with h | ⟨b, off, ha, hc⟩
 ·exact .inl h
 ·refine .inr ⟨b, off, ha, fun i hi => ?_⟩
  obtain ⟨h1, h2, h3, h4⟩ := hc i hi
  exact ⟨(hb.cell (p := ⟨b, off + i * 2, none⟩) (cell_lt h1)).trans h1, (hb.cell (p := ⟨b, off + i * 2 + 1, none⟩) (cell_lt h2)).trans h2, h3.keep hb, h4⟩

theorem DimsIn.get {w : World} {a : Option Addr} {ds : List Dm} (h : DimsIn w a ds) {k : Nat} (hk : k < ds.length) : ∃ b off, a = some ⟨b, off, none⟩ ∧ ∀ i, i < ds.length → w.cell? ⟨b, off + i * 2, none⟩ = some (.int .i64 (dn ds i).sz) ∧ w.cell? ⟨b, off + i * 2 + 1, none⟩ = some (.slice (dn ds i).a (dn ds i).l.length (dn ds i).cap) ∧ Ints w (dn ds i).a (dn ds i).l ∧ (dn ds i).l.length ≤ 9223372036854775807 := by
 rcases h with rfl | h
 ·simp at hk
 ·exact h
end dims
end Go.Proofs.YtlcjllgfpfldlaaGreat
