/-
  What the row's reading tells of a list of cells that came in.
-/
import Derived.Test.YtpaelakaolggmaaRankRows
import Derived.Deep.Slices
import Derived.Deep.Fields
import Derived.Lib.SmallJoins
import Derived.ChangeOld
namespace Go.Proofs.Ytpaelakaolggmaa.rank
open Go.ChangeShapes Go.WideShapes Go.ChangeAt Go.RowKit Go.Deep Go.Joins
set_option linter.unusedVariables false

/-- a list of cells that came in: none of them, or these at a place in memory -/
def CellsIn (w : World) (a : Option Addr) (len : Nat) : Prop :=
  len = 0 ∨ ∃ b off cs, a = some ⟨b, off, none⟩ ∧ b < w.heap.size ∧ cs.length = len ∧ CellsAt w b off cs

theorem cellsOf_cell : Try.prog.cellsOf 23 = 4 := by kernel_rfl

theorem cellsOf_int : Try.prog.cellsOf 2 = 1 := by kernel_rfl

theorem addr_add (b off i : Nat) : (⟨b, off, none⟩ : Addr).add i = ⟨b, off + i, none⟩ := by by_cases e : i = 0 <;> simp [Addr.add, e]

theorem cells_open {H : Type} {enc : TypeId × Value → H} {W : World} {base : Nat} {spare : Nat → Bool} {held : Bool} {fuel : Nat} {a : Option Addr} {len cap : Nat} {x : DataW H × List MemPlace}
    (h : DataW.trod enc Try.prog W base spare held fuel 42 [.slice a len cap] = some x) : CellsIn W a len := by
  rcases open_slice Try.underlying42 h with ⟨h0, _⟩ | ⟨a', len', cap', m, n, D, Pl, hcs, hb, hl, hm, hmm, _, hx⟩
  · simp at h0; exact .inl h0.2.1
  · simp at hcs
    obtain ⟨rfl, rfl, rfl⟩ := hcs
    by_cases hz : len = 0
    · exact .inl hz
    · have hlm : len ≤ m := by rw [hmm]; split <;> omega
      have each : ∀ i, i < len → ∃ c : C4, W.cell? (a'.add (i * 4)) = some (.int .i64 c.n) ∧ W.cell? ((a'.add (i * 4)).add 1) = some (.int .i64 c.s) ∧ W.cell? ((a'.add (i * 4)).add 2) = some (.int .i64 c.lo) ∧ W.cell? ((a'.add (i * 4)).add 3) = some (.int .i64 c.hi) := by
        intro i hi
        obtain ⟨cs', h1, h2⟩ := hx i (by omega)
        rw [cellsOf_cell] at h1
        obtain ⟨_, hlen, hget⟩ := World.cells?_some h1
        obtain ⟨y0, y1, y2, y3, n', _, _, f0, f1, f2, f3⟩ := trod_struct4 Try.underlying23 h2
        match cs', hlen with
        | [c0, c1, c2, c3], _ =>
          have g0 : DataW.trod enc Try.prog W base spare held n' 2 [c0] = some y0 := by simpa [cellsOf_int] using f0
          have g1 : DataW.trod enc Try.prog W base spare held n' 2 [c1] = some y1 := by simpa [cellsOf_int] using f1
          have g2 : DataW.trod enc Try.prog W base spare held n' 2 [c2] = some y2 := by simpa [cellsOf_int] using f2
          have g3 : DataW.trod enc Try.prog W base spare held n' 2 [c3] = some y3 := by simpa [cellsOf_int] using f3
          obtain ⟨v0, e0, _, _⟩ := DataW.trod_int Try.underlying2 g0
          obtain ⟨v1, e1, _, _⟩ := DataW.trod_int Try.underlying2 g1
          obtain ⟨v2, e2, _, _⟩ := DataW.trod_int Try.underlying2 g2
          obtain ⟨v3, e3, _, _⟩ := DataW.trod_int Try.underlying2 g3
          simp only [List.cons.injEq, and_true] at e0 e1 e2 e3
          subst e0 e1 e2 e3
          refine ⟨⟨v0, v1, v2, v3⟩, ?_, hget 1 (by omega), hget 2 (by omega), hget 3 (by omega)⟩
          have := hget 0 (by omega)
          simpa [Addr.add] using this
      obtain ⟨c0, hc0, _⟩ := each 0 (by omega)
      obtain ⟨b, off, spot⟩ := a'
      have hspot : spot = none := by
        have := World.cell?_spot hc0
        simpa [Addr.add] using this
      subst hspot
      have hbl : b < W.heap.size := by
        have h0 : W.cell? ⟨b, off, none⟩ = some (.int .i64 c0.n) := by simpa [Addr.add] using hc0
        by_cases hc : b < W.heap.size
        · exact hc
        · exfalso
          have : W.heap[b]? = none := Array.getElem?_eq_none (by omega)
          simp [World.cell?, this] at h0
      obtain ⟨f, hf⟩ : ∃ f : Nat → C4, ∀ i, i < len → W.cell? ((⟨b, off, none⟩ : Addr).add (i * 4)) = some (.int .i64 (f i).n) ∧ W.cell? (((⟨b, off, none⟩ : Addr).add (i * 4)).add 1) = some (.int .i64 (f i).s) ∧ W.cell? (((⟨b, off, none⟩ : Addr).add (i * 4)).add 2) = some (.int .i64 (f i).lo) ∧ W.cell? (((⟨b, off, none⟩ : Addr).add (i * 4)).add 3) = some (.int .i64 (f i).hi) := by
        refine ⟨fun i => if h : i < len then Classical.choose (each i h) else ⟨0, 0, 0, 0⟩, fun i hi => ?_⟩
        simp only [hi, dif_pos]
        exact Classical.choose_spec (each i hi)
      refine .inr ⟨b, off, (List.range len).map f, rfl, hbl, by simp, fun i hi => ?_⟩
      simp only [List.length_map, List.length_range] at hi
      have hn : nth ((List.range len).map f) i = f i := by simp [nth, hi]
      have := hf i hi
      rw [addr_add, addr_add, addr_add, addr_add] at this
      rw [hn]; exact this
end Go.Proofs.Ytpaelakaolggmaa.rank
