/-
  Lists of numbers of whatever kind that can be read in memory.
  What the row's reading tells of lists of numbers, of dimensions and of choices that came in.
-/
import Derived.Test.YtlokamblbhooaaaDimsLeaf
import Derived.Test.YtlokamblbhooaaaDimsSound
import Derived.Deep.Slices
import Derived.Deep.Fields
import Derived.Lib.SmallJoins
import Derived.ChangeOld
namespace Go.Proofs.Ytlokamblbhooaaa.dims
open Go.ChangeShapes Go.WideShapes Go.ChangeAt Go.RowKit Go.Deep
set_option linter.unusedVariables false
set_option maxRecDepth 100000

/-- small numbers that can be read at an address -/
def Smalls (k : IntKind) (w : World) (a : Option Addr) (l : List Int) : Prop :=
  l = [] ∨ ∃ b off, a = some ⟨b, off, none⟩ ∧ ∀ i, i < l.length → w.cell? ⟨b, off + i, none⟩ = some (.int k (nth l i))

theorem Smalls.ints {w : World} {a : Option Addr} {l : List Int} (h : Smalls .i64 w a l) : Ints w a l := h

theorem Smalls.keep {k : IntKind} {w w1 : World} {a : Option Addr} {l : List Int} (h : Smalls k w a l) (hb : Below w.heap.size w w1) : Smalls k w1 a l := by
  rcases h with h | ⟨b, off, ha, hc⟩
  · exact .inl h
  · exact .inr ⟨b, off, ha, fun i hi => (hb.cell (p := ⟨b, off + i, none⟩) (cell_lt (hc i hi))).trans (hc i hi)⟩

theorem Smalls.get {k : IntKind} {w : World} {a : Option Addr} {l : List Int} (h : Smalls k w a l) {j : Nat} (hj : j < l.length) : ∃ b off, a = some ⟨b, off, none⟩ ∧ ∀ i, i < l.length → w.cell? ⟨b, off + i, none⟩ = some (.int k (nth l i)) := by
  rcases h with rfl | h
  · simp at hj
  · exact h

theorem maxLen_le : maxLen ≤ 9223372036854775807 := by decide
end Go.Proofs.Ytlokamblbhooaaa.dims

namespace Go.Proofs.Ytlokamblbhooaaa.dims
open Go.ChangeShapes Go.WideShapes Go.ChangeAt Go.RowKit Go.Deep Go.Joins
set_option linter.unusedVariables false
set_option maxRecDepth 100000

/-- a slice of numbers that came in -/
structure Nums (k : IntKind) (W : World) (a : Option Addr) (len cap : Nat) (l : List Int) : Prop where
  mem : Smalls k W a l
  eln : l.length = len
  lec : len ≤ cap
  max : cap ≤ maxLen
  wf : ∀ i, i < l.length → (Lit.int k (nth l i)).wf = true

theorem nums_open {H : Type} {enc : TypeId × Value → H} {W : World} {base : Nat} {spare : Nat → Bool} {held : Bool} {fuel : Nat} {t e : TypeId} {k : IntKind} {a : Option Addr} {len cap : Nat} {x : DataW H × List MemPlace}
    (ht : Try.prog.underlying t = some (.slice e)) (he : Try.prog.underlying e = some (.int k)) (hc : Try.prog.cellsOf e = 1)
    (h : DataW.trod enc Try.prog W base spare held fuel t [.slice a len cap] = some x) : ∃ l, Nums k W a len cap l := by
  rcases open_ints ht he hc h with ⟨hcs, _⟩ | ⟨y, l, c, zs, hcs, _, hl, hm, hz, _, hcell, hwz⟩
  · simp at hcs
    obtain ⟨rfl, rfl, rfl⟩ := hcs
    exact ⟨[], ⟨.inl rfl, rfl, Nat.le_refl _, Nat.zero_le _, fun i hi => by simp at hi⟩⟩
  · simp at hcs
    obtain ⟨rfl, rfl, rfl⟩ := hcs
    have hzl : len ≤ zs.length := by rw [hz]; split <;> omega
    have hlen : (zs.take len).length = len := by simp; omega
    refine ⟨zs.take len, ⟨?_, hlen, hl, hm, fun i hi => hwz _ (by
      have hi2 : i < zs.length := by omega
      have hi3 : i < len := by omega
      have e : nth (zs.take len) i = zs[i] := by simp [nth, hi2, hi3]
      rw [e]; exact List.getElem_mem _)⟩⟩
    by_cases h0 : len = 0
    · subst h0; exact .inl (by simp)
    · obtain ⟨b, off, spot⟩ := y
      have hc := hcell 0 (by omega)
      have hspot : spot = none := by simpa [Addr.add] using World.cell?_spot hc
      subst hspot
      refine .inr ⟨b, off, rfl, fun i hi => ?_⟩
      have hi2 : i < len := by omega
      have := hcell i (by omega)
      rw [show (⟨b, off, none⟩ : Addr).add i = ⟨b, off + i, none⟩ by by_cases e : i = 0 <;> simp [Addr.add, e]] at this
      rw [this]
      simp [nth, hi2]

/-- structs of a number and a slice of numbers, at an address -/
def Pairs (k1 k2 : IntKind) (W : World) (a : Option Addr) (ds : List Dm) : Prop :=
  ds = [] ∨ ∃ b off, a = some ⟨b, off, none⟩ ∧ ∀ i, i < ds.length → W.cell? ⟨b, off + i * 2, none⟩ = some (.int k1 (dn ds i).sz) ∧ W.cell? ⟨b, off + i * 2 + 1, none⟩ = some (.slice (dn ds i).a (dn ds i).l.length (dn ds i).cap) ∧ Nums k2 W (dn ds i).a (dn ds i).l.length (dn ds i).cap (dn ds i).l ∧ (Lit.int k1 (dn ds i).sz).wf = true

theorem addr_add (b off i : Nat) : (⟨b, off, none⟩ : Addr).add i = ⟨b, off + i, none⟩ := by by_cases e : i = 0 <;> simp [Addr.add, e]

/-- one such struct, by its two cells -/
theorem pair_open {H : Type} {enc : TypeId × Value → H} {W : World} {base : Nat} {spare : Nat → Bool} {held : Bool} {n : Nat} {t0 t1 g : TypeId} {k1 k2 : IntKind} {c0 c1 : Value} {y0 y1 : DataW H × List MemPlace}
    (ht0 : Try.prog.underlying t0 = some (.int k1)) (ht1 : Try.prog.underlying t1 = some (.slice g)) (hg : Try.prog.underlying g = some (.int k2)) (hc : Try.prog.cellsOf g = 1)
    (h0 : DataW.trod enc Try.prog W base spare held n t0 [c0] = some y0) (h1 : DataW.trod enc Try.prog W base spare held n t1 [c1] = some y1) :
    ∃ d : Dm, c0 = .int k1 d.sz ∧ c1 = .slice d.a d.l.length d.cap ∧ Nums k2 W d.a d.l.length d.cap d.l ∧ (Lit.int k1 d.sz).wf = true := by
  obtain ⟨v, e0, _, hw⟩ := DataW.trod_int ht0 h0
  simp only [List.cons.injEq, and_true] at e0
  subst e0
  have hsl : ∃ a len cap, c1 = .slice a len cap := by
    rcases open_ints ht1 hg hc h1 with ⟨hcs, _⟩ | ⟨y, l, c, zs, hcs, _⟩
    · simp only [List.cons.injEq, and_true] at hcs; exact ⟨_, _, _, hcs⟩
    · simp only [List.cons.injEq, and_true] at hcs; exact ⟨_, _, _, hcs⟩
  obtain ⟨a, len, cap, rfl⟩ := hsl
  obtain ⟨l, hl⟩ := nums_open ht1 hg hc h1
  obtain rfl := hl.eln
  exact ⟨⟨v, a, cap, l⟩, rfl, rfl, hl, hw⟩

set_option maxRecDepth 100000 in
theorem pairs_open {H : Type} {enc : TypeId × Value → H} {W : World} {base : Nat} {spare : Nat → Bool} {held : Bool} {fuel : Nat} {t e g : TypeId} {f0 f1 : Field} {k1 k2 : IntKind} {a : Option Addr} {len cap : Nat} {x : DataW H × List MemPlace}
    (ht : Try.prog.underlying t = some (.slice e)) (hs : Try.prog.underlying e = some (.struct #[f0, f1])) (o0 : f0.offset = 0) (o1 : f1.offset = 1) (n0 : Try.prog.cellsOf f0.type = 1) (n1 : Try.prog.cellsOf f1.type = 1) (n2 : Try.prog.cellsOf e = 2)
    (ht0 : Try.prog.underlying f0.type = some (.int k1)) (ht1 : Try.prog.underlying f1.type = some (.slice g)) (hg : Try.prog.underlying g = some (.int k2)) (hc : Try.prog.cellsOf g = 1)
    (h : DataW.trod enc Try.prog W base spare held fuel t [.slice a len cap] = some x) : ∃ ds, Pairs k1 k2 W a ds ∧ ds.length = len ∧ len ≤ cap ∧ cap ≤ maxLen := by
  rcases open_slice ht h with ⟨h0, _⟩ | ⟨a', len', cap', m, n, D, Pl, hcs, hb, hl, hm, hmm, _, hx⟩
  · simp at h0
    obtain ⟨rfl, rfl, rfl⟩ := h0
    exact ⟨[], .inl rfl, rfl, Nat.le_refl _, Nat.zero_le _⟩
  · simp at hcs
    obtain ⟨rfl, rfl, rfl⟩ := hcs
    by_cases hz : len = 0
    · subst hz; exact ⟨[], .inl rfl, rfl, hl, hm⟩
    · have hlm : len ≤ m := by rw [hmm]; split <;> omega
      have each : ∀ i, i < len → ∃ d : Dm, W.cell? (a'.add (i * 2)) = some (.int k1 d.sz) ∧ W.cell? ((a'.add (i * 2)).add 1) = some (.slice d.a d.l.length d.cap) ∧ Nums k2 W d.a d.l.length d.cap d.l ∧ (Lit.int k1 d.sz).wf = true := by
        intro i hi
        obtain ⟨cs', h1, h2⟩ := hx i (by omega)
        rw [n2] at h1
        obtain ⟨_, hlen, hget⟩ := World.cells?_some h1
        obtain ⟨y0, y1, n', _, _, g0, g1⟩ := trod_struct2 hs h2
        match cs', hlen with
        | [c0, c1], _ =>
          rw [o0, n0] at g0
          rw [o1, n1] at g1
          obtain ⟨d, e0, e1, hd, hw⟩ := pair_open ht0 ht1 hg hc (by simpa using g0) (by simpa using g1)
          refine ⟨d, ?_, ?_, hd, hw⟩
          · rw [← e0]
            have := hget 0 (by omega)
            simpa [Addr.add] using this
          · rw [← e1]; exact hget 1 (by omega)
      obtain ⟨d0, hc0, _⟩ := each 0 (by omega)
      obtain ⟨b, off, spot⟩ := a'
      have hspot : spot = none := by
        have := World.cell?_spot hc0
        simpa [Addr.add] using this
      subst hspot
      obtain ⟨f, hf⟩ : ∃ f : Nat → Dm, ∀ i, i < len → W.cell? ((⟨b, off, none⟩ : Addr).add (i * 2)) = some (.int k1 (f i).sz) ∧ W.cell? (((⟨b, off, none⟩ : Addr).add (i * 2)).add 1) = some (.slice (f i).a (f i).l.length (f i).cap) ∧ Nums k2 W (f i).a (f i).l.length (f i).cap (f i).l ∧ (Lit.int k1 (f i).sz).wf = true := by
        refine ⟨fun i => if h : i < len then Classical.choose (each i h) else ⟨0, none, 0, []⟩, fun i hi => ?_⟩
        simp only [hi, dif_pos]
        exact Classical.choose_spec (each i hi)
      refine ⟨(List.range len).map f, .inr ⟨b, off, rfl, fun i hi => ?_⟩, by simp, hl, hm⟩
      simp only [List.length_map, List.length_range] at hi
      have hn : dn ((List.range len).map f) i = f i := by simp [dn, hi]
      have := hf i hi
      rw [addr_add, addr_add] at this
      rw [hn]; exact this

theorem Nums.ints {W : World} {a : Option Addr} {len cap : Nat} {l : List Int} (h : Nums .i64 W a len cap l) : Ints W a l := h.mem

theorem Pairs.dims {W : World} {a : Option Addr} {ds : List Dm} (h : Pairs .i64 .i64 W a ds) : DimsIn W a ds := by
  rcases h with h | ⟨b, off, ha, hc⟩
  · exact .inl h
  · refine .inr ⟨b, off, ha, fun i hi => ?_⟩
    obtain ⟨h1, h2, h3, _⟩ := hc i hi
    exact ⟨h1, h2, h3.ints, Nat.le_trans h3.lec (Nat.le_trans h3.max maxLen_le)⟩
end Go.Proofs.Ytlokamblbhooaaa.dims
