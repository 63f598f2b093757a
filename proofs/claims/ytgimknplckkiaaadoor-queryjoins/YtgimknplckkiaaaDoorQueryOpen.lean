/-
  What the row's reading tells of lists of rows that came in.
-/
import Derived.Test.YtgimknplckkiaaaDoorQueryJoin
import Derived.Test.YtgimknplckkiaaaDoorTableCK
namespace Go.Proofs.YtgimknplckkiaaaDoor.query
open Go.ChangeShapes Go.WideShapes Go.ChangeAt Go.RowKit Go.Deep Go.Joins
open Go.Proofs.YtgimknplckkiaaaDoor.dims
open Go.Proofs.YtgimknplckkiaaaDoor.table
set_option linter.unusedVariables false
set_option maxRecDepth 100000

theorem slice_cell {H : Type} {enc : TypeId × Value → H} {W : World} {base : Nat} {spare : Nat → Bool} {held : Bool} {n : Nat} {c : Value} {y : DataW H × List MemPlace}
    (h : DataW.trod enc Tryd.prog W base spare held n 24 [c] = some y) : ∃ a len cap, c = .slice a len cap := by
  obtain ⟨a, cap, l, e, -⟩ := key_cell h
  exact ⟨a, l.length, cap, e⟩

set_option maxRecDepth 100000 in
theorem parts_open {H : Type} {enc : TypeId × Value → H} {W : World} {base : Nat} {spare : Nat → Bool} {held : Bool} {fuel : Nat} {a : Option Addr} {len cap : Nat} {x : DataW H × List MemPlace}
    (h : DataW.trod enc Tryd.prog W base spare held fuel 38 [.slice a len cap] = some x) : ∃ ps, PartsIn W a ps ∧ (ps.length = len ∧ len ≤ cap ∧ cap ≤ maxLen) ∧ (∀ p ∈ ps, p.rs.length ≤ 9223372036854775807) ∧ (table.Reach 38 x.1 → ∀ p ∈ ps, ∀ r ∈ p.rs, r.k.length ≤ 17592186044416) := by
  rcases open_slice Tryd.underlying38 h with ⟨h0, _⟩ | ⟨a', len', cap', m, n, D, Pl, hcs, hb, hl, hm, hmm, hxe, hx⟩
  · simp at h0
    obtain ⟨rfl, rfl, rfl⟩ := h0
    exact ⟨[], .inl rfl, ⟨rfl, Nat.le_refl _, Nat.zero_le _⟩, fun p hp => by simp at hp, fun _ p hp => by simp at hp⟩
  · simp at hcs
    obtain ⟨rfl, rfl, rfl⟩ := hcs
    by_cases hz : len = 0
    · subst hz; exact ⟨[], .inl rfl, ⟨rfl, hl, hm⟩, fun p hp => by simp at hp, fun _ p hp => by simp at hp⟩
    · have hlm : len ≤ m := by rw [hmm]; split <;> omega
      have n1 : Tryd.prog.cellsOf 23 = 1 := by kernel_rfl
      have each : ∀ i, i < len → ∃ p : Pt, W.cell? (a'.add i) = some (.slice p.a p.rs.length p.cap) ∧ table.RowsIn W p.a p.rs ∧ p.rs.length ≤ 9223372036854775807 ∧ (table.Reach 38 x.1 → ∀ r ∈ p.rs, r.k.length ≤ 17592186044416) := by
        intro i hi
        obtain ⟨cs', h1, h2⟩ := hx i (by omega)
        rw [n1] at h1
        obtain ⟨_, hlen, hget⟩ := World.cells?_some h1
        match cs', hlen with
        | [c0], _ =>
          have hsl : ∃ a len cap, c0 = .slice a len cap := by
            rcases open_slice Tryd.underlying23 h2 with ⟨hcs, _⟩ | ⟨y, l, c, _, _, _, _, hcs, _⟩
            · simp only [List.cons.injEq, and_true] at hcs; exact ⟨_, _, _, hcs⟩
            · simp only [List.cons.injEq, and_true] at hcs; exact ⟨_, _, _, hcs⟩
          obtain ⟨ka, kl, kc, rfl⟩ := hsl
          obtain ⟨rs, hR, hN, hr⟩ := rows_open h2
          obtain ⟨rfl, hN2, hN3⟩ := hN
          refine ⟨⟨ka, kc, rs⟩, ?_, hR, Nat.le_trans hN2 (Nat.le_trans hN3 maxLen_le2), fun hrr => hr fun m hm2 => hrr m ?_⟩
          · have := hget 0 (by omega)
            simpa [Addr.add] using this
          · rw [hxe]
            simp only [DataW.weights, Tryd.underlying38, List.mem_cons, List.mem_append]
            exact Or.inr (Or.inl (weightsAll_in (List.mem_map.2 ⟨i, List.mem_range.2 hi, rfl⟩) m hm2))
      obtain ⟨d0, hc0, _⟩ := each 0 (by omega)
      obtain ⟨b, off, spot⟩ := a'
      have hspot : spot = none := by
        have := World.cell?_spot hc0
        simpa [Addr.add] using this
      subst hspot
      obtain ⟨f, hf⟩ : ∃ f : Nat → Pt, ∀ i, i < len → W.cell? ((⟨b, off, none⟩ : Addr).add i) = some (.slice (f i).a (f i).rs.length (f i).cap) ∧ table.RowsIn W (f i).a (f i).rs ∧ (f i).rs.length ≤ 9223372036854775807 ∧ (table.Reach 38 x.1 → ∀ r ∈ (f i).rs, r.k.length ≤ 17592186044416) := by
        refine ⟨fun i => if h : i < len then Classical.choose (each i h) else ⟨none, 0, []⟩, fun i hi => ?_⟩
        simp only [hi, dif_pos]
        exact Classical.choose_spec (each i hi)
      refine ⟨(List.range len).map f, .inr ⟨b, off, rfl, fun i hi => ?_⟩, ⟨by simp, hl, hm⟩, fun p hp => ?_, fun hr p hp => ?_⟩
      · simp only [List.length_map, List.length_range] at hi
        have hn : ptn ((List.range len).map f) i = f i := by simp [ptn, hi]
        have := hf i hi
        rw [addr_add] at this
        rw [hn]; exact ⟨this.1, this.2.1⟩
      · obtain ⟨i, hi, rfl⟩ := List.mem_map.1 hp
        exact (hf i (List.mem_range.1 hi)).2.2.1
      · obtain ⟨i, hi, rfl⟩ := List.mem_map.1 hp
        exact (hf i (List.mem_range.1 hi)).2.2.2 hr
end Go.Proofs.YtgimknplckkiaaaDoor.query
