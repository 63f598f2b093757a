/-
  What the row's reading tells of rows that came in.
-/
import Derived.Test.YtfchpcmiipnbjaaDoorTableOpen
import Derived.Lib.SmallJoins
namespace Go.Proofs.YtfchpcmiipnbjaaDoor.table
open Go.ChangeShapes Go.WideShapes Go.ChangeAt Go.RowKit Go.Deep Go.Joins
open Go.Proofs.YtfchpcmiipnbjaaDoor.dims (nth Ints cell_lt Nums nums_open addr_add)
open Go.Proofs.YtfchpcmiipnbjaaDoor.cell (C4 mrg all one zero)
set_option linter.unusedVariables false
set_option maxRecDepth 100000

set_option maxRecDepth 100000 in
theorem rows_open {H : Type} {enc : TypeId × Value → H} {W : World} {base : Nat} {spare : Nat → Bool} {held : Bool} {fuel : Nat} {a : Option Addr} {len cap : Nat} {x : DataW H × List MemPlace}
    (h : DataW.trod enc Tryd.prog W base spare held fuel 22 [.slice a len cap] = some x) : ∃ fs, RowsIn W a fs ∧ (fs.length = len ∧ len ≤ cap ∧ cap ≤ maxLen) ∧ (Reach 22 x.1 → ∀ f ∈ fs, f.k.length ≤ 17592186044416) := by
  rcases open_slice Tryd.underlying22 h with ⟨h0, _⟩ | ⟨a', len', cap', m, n, D, Pl, hcs, hb, hl, hm, hmm, hxe, hx⟩
  · simp at h0
    obtain ⟨rfl, rfl, rfl⟩ := h0
    exact ⟨[], .inl rfl, ⟨rfl, Nat.le_refl _, Nat.zero_le _⟩, fun _ f hf => by simp at hf⟩
  · simp at hcs
    obtain ⟨rfl, rfl, rfl⟩ := hcs
    by_cases hz : len = 0
    · subst hz; exact ⟨[], .inl rfl, ⟨rfl, hl, hm⟩, fun _ f hf => by simp at hf⟩
    · have hlm : len ≤ m := by rw [hmm]; split <;> omega
      have n5 : Tryd.prog.cellsOf 57 = 5 := by kernel_rfl
      have nk : Tryd.prog.cellsOf 38 = 1 := by kernel_rfl
      have nc : Tryd.prog.cellsOf 55 = 4 := by kernel_rfl
      have nv : Tryd.prog.cellsOf 2 = 1 := by kernel_rfl
      have each : ∀ i, i < len → ∃ f : Rw, W.cell? (a'.add (i * 5)) = some (.slice f.a f.k.length f.cap) ∧ W.cell? ((a'.add (i * 5)).add 1) = some (.int .i64 f.c.n) ∧ W.cell? ((a'.add (i * 5)).add 2) = some (.int .i64 f.c.s) ∧ W.cell? ((a'.add (i * 5)).add 3) = some (.int .i64 f.c.lo) ∧ W.cell? ((a'.add (i * 5)).add 4) = some (.int .i64 f.c.hi) ∧ KeyOk W f.a f.k.length f.cap f.k ∧ (Reach 22 x.1 → f.k.length ≤ 17592186044416) := by
        intro i hi
        obtain ⟨cs', h1, h2⟩ := hx i (by omega)
        rw [n5] at h1
        obtain ⟨_, hlen, hget⟩ := World.cells?_some h1
        obtain ⟨y0, y1, n', hagg, _, g0, g1⟩ := trod_struct2 Tryd.underlying57 h2
        match cs', hlen with
        | [c0, c1, c2, c3, c4], _ =>
          obtain ⟨ka, kc, kl, e0, hk, hkr⟩ := key_cell (c := c0) (by simpa [nk] using g0)
          have g1' : DataW.trod enc Tryd.prog W base spare held n' 55 [c1, c2, c3, c4] = some y1 := by simpa [nc] using g1
          obtain ⟨z0, z1, z2, z3, n2, _, _, f0, f1, f2, f3⟩ := trod_struct4 Tryd.underlying55 g1'
          obtain ⟨v0, q0, _, _⟩ := DataW.trod_int Tryd.underlying2 (show DataW.trod enc Tryd.prog W base spare held n2 2 [c1] = some z0 by simpa [nv] using f0)
          obtain ⟨v1, q1, _, _⟩ := DataW.trod_int Tryd.underlying2 (show DataW.trod enc Tryd.prog W base spare held n2 2 [c2] = some z1 by simpa [nv] using f1)
          obtain ⟨v2, q2, _, _⟩ := DataW.trod_int Tryd.underlying2 (show DataW.trod enc Tryd.prog W base spare held n2 2 [c3] = some z2 by simpa [nv] using f2)
          obtain ⟨v3, q3, _, _⟩ := DataW.trod_int Tryd.underlying2 (show DataW.trod enc Tryd.prog W base spare held n2 2 [c4] = some z3 by simpa [nv] using f3)
          simp only [List.cons.injEq, and_true] at q0 q1 q2 q3
          refine ⟨⟨ka, kc, kl, ⟨v0, v1, v2, v3⟩⟩, ?_, ?_, ?_, ?_, ?_, hk, fun hr => hkr fun m hm2 => hr m ?_⟩
          · rw [← e0]
            have := hget 0 (by omega)
            simpa [Addr.add] using this
          · rw [← q0]; exact hget 1 (by omega)
          · rw [← q1]; exact hget 2 (by omega)
          · rw [← q2]; exact hget 3 (by omega)
          · rw [← q3]; exact hget 4 (by omega)
          · rw [hxe]
            simp only [DataW.weights, Tryd.underlying22, List.mem_cons, List.mem_append]
            refine Or.inr (Or.inl (weightsAll_in (List.mem_map.2 ⟨i, List.mem_range.2 hi, rfl⟩) m ?_))
            have eD : D i = .agg [y0.1, y1.1] := congrArg Prod.fst hagg
            rw [eD]
            simp only [DataW.weights, Tryd.underlying57, List.map_cons, List.map_nil, DataW.weightsEach, List.mem_append]
            exact Or.inl hm2
      obtain ⟨d0, hc0, _⟩ := each 0 (by omega)
      obtain ⟨b, off, spot⟩ := a'
      have hspot : spot = none := by
        have := World.cell?_spot hc0
        simpa [Addr.add] using this
      subst hspot
      obtain ⟨f, hf⟩ : ∃ f : Nat → Rw, ∀ i, i < len → W.cell? ((⟨b, off, none⟩ : Addr).add (i * 5)) = some (.slice (f i).a (f i).k.length (f i).cap) ∧ W.cell? (((⟨b, off, none⟩ : Addr).add (i * 5)).add 1) = some (.int .i64 (f i).c.n) ∧ W.cell? (((⟨b, off, none⟩ : Addr).add (i * 5)).add 2) = some (.int .i64 (f i).c.s) ∧ W.cell? (((⟨b, off, none⟩ : Addr).add (i * 5)).add 3) = some (.int .i64 (f i).c.lo) ∧ W.cell? (((⟨b, off, none⟩ : Addr).add (i * 5)).add 4) = some (.int .i64 (f i).c.hi) ∧ KeyOk W (f i).a (f i).k.length (f i).cap (f i).k ∧ (Reach 22 x.1 → (f i).k.length ≤ 17592186044416) := by
        refine ⟨fun i => if h : i < len then Classical.choose (each i h) else ⟨none, 0, [], zero⟩, fun i hi => ?_⟩
        simp only [hi, dif_pos]
        exact Classical.choose_spec (each i hi)
      refine ⟨(List.range len).map f, .inr ⟨b, off, rfl, fun i hi => ?_⟩, ⟨by simp, hl, hm⟩, fun hr q hq => by
        obtain ⟨i, hi, rfl⟩ := List.mem_map.1 hq
        exact (hf i (List.mem_range.1 hi)).2.2.2.2.2.2 hr⟩
      simp only [List.length_map, List.length_range] at hi
      have hn : rwn ((List.range len).map f) i = f i := by simp [rwn, hi]
      have := hf i hi
      rw [addr_add, addr_add, addr_add, addr_add, addr_add] at this
      rw [hn]; exact ⟨⟨this.1, this.2.1, this.2.2.1, this.2.2.2.1, this.2.2.2.2.1⟩, this.2.2.2.2.2.1⟩
end Go.Proofs.YtfchpcmiipnbjaaDoor.table
