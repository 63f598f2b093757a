/-
  A region that draws its order and whose operations only read, but for calls that make memory of their own: one walk, over whatever world has come of this one by new memory alone.
-/
import Derived.Test.YtfhihkogdnbghaaByteKit
import Derived.BigQuiet
namespace Go.Proofs.Ytfhihkogdnbghaa.bytes
open Go.RowKit Go.Deep
set_option linter.unusedVariables false
set_option maxRecDepth 100000

/-- a world that has come of W: what lay, lies -/
structure Grw (W : World) where
  X : World
  bel : Below W.heap.size W X
theorem Grw.cell {W : World} (g : Grw W) {b o : Nat} {v : Value} (h : W.cell? ⟨b, o, none⟩ = some v) : g.X.cell? ⟨b, o, none⟩ = some v := (g.bel.cell (cell_lt h)).trans h
theorem wp_region_grow {P : Program} {id : Nat} {Q : Exit → Act → World → Prop} {a : Act} {w : World} {l : List Oper} (hm : P.follows .mixedOrders = true) (hB : Region.lexB .any l.toArray = true)
    (h : wpQuiet P l.toArray (fun w' => ∃ g : Grw w, w' = g.X) (fun a' => ∀ w', (∃ g : Grw w, w' = g.X) → Q .normal a' w') l a) : (Code.region id l.toArray true).wp P Q a w :=
  wp_region_quiet (C := fun w' => ∃ g : Grw w, w' = g.X) hm hB ⟨⟨_, below_drewN (Below.refl _ _) 1⟩, rfl⟩ (by simpa using h)
theorem grow_same {P : Program} {f : FuncId} {args : Array Value} {w : World} {g : Grw w} {v : Value} (h : Calls P f args g.X fun e w' => e = .returned v ∧ w' = g.X) : Calls P f args g.X fun e w'' => e = .returned v ∧ ∃ g' : Grw w, w'' = g'.X :=
  h.mono fun _ _ ⟨he, hw⟩ => ⟨he, g, hw⟩
theorem grow_of {P : Program} {f : FuncId} {args : Array Value} {w : World} {g : Grw w} {v : Value} (h : Calls P f args g.X fun e w' => e = .returned v ∧ Below g.X.heap.size g.X w') : Calls P f args g.X fun e w'' => e = .returned v ∧ ∃ g' : Grw w, w'' = g'.X :=
  h.mono fun _ w' ⟨he, hw⟩ => ⟨he, ⟨w', g.bel.trans (hw.mono g.bel.size)⟩, rfl⟩
end Go.Proofs.Ytfhihkogdnbghaa.bytes
