/-
  The chapter's example holds: the contract of the statements' own 'known'.
-/
import Derived.Test.YtfchpcmiipnbjaaDoorDimsUp
import Derived.Test.YtfchpcmiipnbjaaDoorDimsJ
import Derived.Test.YtfchpcmiipnbjaaDoorDimsCmp
namespace Go.Proofs.YtfchpcmiipnbjaaDoor.dims
open Go.ChangeShapes Go.WideShapes Go.ChangeAt Go.RowKit Go.Deep
set_option linter.unusedVariables false
set_option maxRecDepth 100000

theorem levels_bel (sz : Int) (a : Option Addr) (n cap : Nat) (r : Int) (w : World) (hn : n ≤ 9223372036854775800) (hr : (n : Int) + 2 = r) :
    Calls Tryd.prog 57 #[.agg #[.int .i64 sz, .slice a n cap]] w fun e w' => e = .returned (.int .i64 r) ∧ Below w.heap.size w w' :=
  (levels_any sz a n cap w hn).mono fun e w' ⟨h1, h2⟩ => ⟨by rw [h1, hr], by rw [h2]; exact (Below.refl _ _).alloc (Nat.le_refl _) _⟩
theorem refLevels_bel (sz : Int) (a : Option Addr) (n cap : Nat) (r : Int) (w : World) (hn : n ≤ 9223372036854775800) (hr : (n : Int) + 2 = r) :
    Calls Tryd.prog 60 #[.agg #[.int .i64 sz, .slice a n cap]] w fun e w' => e = .returned (.int .i64 r) ∧ Below w.heap.size w w' :=
  (refLevels_any sz a n cap w hn).mono fun e w' ⟨h1, h2⟩ => ⟨by rw [h1, hr], by rw [h2]; exact (Below.refl _ _).alloc (Nat.le_refl _) _⟩

def ex : List Int := [5, 20]
def exd (B : Nat) : Dm := ⟨100, some ⟨B, 0, none⟩, 2, ex⟩
theorem ex_sound (B : Nat) : sndL [exd B] = true := by kernel_rfl

/-- the example's memory -/
structure Ex (w : World) (W : World) : Prop where
  bel : Below w.heap.size w W
  siz : w.heap.size + 1 + 1 < W.heap.size
  i0 : W.cell? ⟨w.heap.size, 0, none⟩ = some (.int .i64 5)
  i1 : W.cell? ⟨w.heap.size, 1, none⟩ = some (.int .i64 20)
  d0 : W.cell? ⟨w.heap.size + 1, 0, none⟩ = some (.int .i64 100)
  d1 : W.cell? ⟨w.heap.size + 1, 1, none⟩ = some (.slice (some ⟨w.heap.size, 0, none⟩) 2 2)

theorem Ex.keep {w W W' : World} (h : Ex w W) (hb : Below W.heap.size W W') : Ex w W' := by
  have k : ∀ {c o : Nat} {v : Value}, W.cell? ⟨c, o, none⟩ = some v → W'.cell? ⟨c, o, none⟩ = some v := fun {c o v} hv => (hb.cell (p := ⟨c, o, none⟩) (cell_lt hv)).trans hv
  have := hb.size
  have := h.siz
  exact ⟨h.bel.trans (hb.mono (by omega)), by omega, k h.i0, k h.i1, k h.d0, k h.d1⟩

theorem Ex.ints {w W : World} (h : Ex w W) : Ints W (some ⟨w.heap.size, 0, none⟩) ex := by
  refine .inr ⟨_, _, rfl, fun i hi => ?_⟩
  match i, hi with
  | 0, _ => simpa [ex, nth] using h.i0
  | 1, _ => simpa [ex, nth] using h.i1

end Go.Proofs.YtfchpcmiipnbjaaDoor.dims
