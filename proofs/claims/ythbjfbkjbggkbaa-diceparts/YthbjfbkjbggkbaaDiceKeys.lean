/-
  What the row's reading tells of lists of lists of small numbers that came in.
-/
import Derived.Test.YthbjfbkjbggkbaaDimsOpen
import Derived.Test.YthbjfbkjbggkbaaDimsOf
namespace Go.Proofs.Ythbjfbkjbggkbaa.dice
open Go.ChangeShapes Go.WideShapes Go.ChangeAt Go.RowKit Go.Deep Go.Joins
open Go.Proofs.Ythbjfbkjbggkbaa.dims
set_option linter.unusedVariables false
set_option maxRecDepth 100000

/-- a list: where it lies, and its numbers -/
structure Kr where
  a : Option Addr
  cap : Nat
  l : List Int
def kn (ks : List Kr) (i : Nat) : Kr := ks.getD i ⟨none, 0, []⟩

/-- lists of numbers at an address -/
def KeysIn (k : IntKind) (W : World) (a : Option Addr) (ks : List Kr) : Prop :=
  ks = [] ∨ ∃ b off, a = some ⟨b, off, none⟩ ∧ ∀ i, i < ks.length → W.cell? ⟨b, off + i, none⟩ = some (.slice (kn ks i).a (kn ks i).l.length (kn ks i).cap) ∧ Nums k W (kn ks i).a (kn ks i).l.length (kn ks i).cap (kn ks i).l
theorem KeysIn.keep {k : IntKind} {w w1 : World} {a : Option Addr} {ks : List Kr} (h : KeysIn k w a ks) (hb : Below w.heap.size w w1) : KeysIn k w1 a ks := by
  rcases h with h | ⟨b, off, ha, hc⟩
  · exact .inl h
  · exact .inr ⟨b, off, ha, fun i hi => ⟨(hb.cell (p := ⟨b, off + i, none⟩) (cell_lt (hc i hi).1)).trans (hc i hi).1, (hc i hi).2.keep hb⟩⟩
theorem KeysIn.get {k : IntKind} {w : World} {a : Option Addr} {ks : List Kr} (h : KeysIn k w a ks) {j : Nat} (hj : j < ks.length) : ∃ b off, a = some ⟨b, off, none⟩ ∧ ∀ i, i < ks.length → w.cell? ⟨b, off + i, none⟩ = some (.slice (kn ks i).a (kn ks i).l.length (kn ks i).cap) ∧ Nums k w (kn ks i).a (kn ks i).l.length (kn ks i).cap (kn ks i).l := by
  rcases h with rfl | h
  · simp at hj
  · exact h

set_option maxRecDepth 100000 in
theorem keys_open {H : Type} {enc : TypeId × Value → H} {W : World} {base : Nat} {spare : Nat → Bool} {held : Bool} {fuel : Nat} {t e g : TypeId} {k : IntKind} {a : Option Addr} {len cap : Nat} {x : DataW H × List MemPlace}
    (ht : Try.prog.underlying t = some (.slice e)) (he : Try.prog.underlying e = some (.slice g)) (hg : Try.prog.underlying g = some (.int k)) (hc : Try.prog.cellsOf g = 1) (n1 : Try.prog.cellsOf e = 1)
    (h : DataW.trod enc Try.prog W base spare held fuel t [.slice a len cap] = some x) : ∃ ks, KeysIn k W a ks ∧ ks.length = len ∧ len ≤ cap ∧ cap ≤ maxLen := by
  rcases open_slice ht h with ⟨h0, _⟩ | ⟨a', len', cap', m, n, D, Pl, hcs, hb, hl, hm, hmm, _, hx⟩
  · simp at h0
    obtain ⟨rfl, rfl, rfl⟩ := h0
    exact ⟨[], .inl rfl, rfl, Nat.le_refl _, Nat.zero_le _⟩
  · simp at hcs
    obtain ⟨rfl, rfl, rfl⟩ := hcs
    by_cases hz : len = 0
    · subst hz; exact ⟨[], .inl rfl, rfl, hl, hm⟩
    · have hlm : len ≤ m := by rw [hmm]; split <;> omega
      have each : ∀ i, i < len → ∃ d : Kr, W.cell? (a'.add i) = some (.slice d.a d.l.length d.cap) ∧ Nums k W d.a d.l.length d.cap d.l := by
        intro i hi
        obtain ⟨cs', h1, h2⟩ := hx i (by omega)
        rw [n1] at h1
        obtain ⟨_, hlen, hget⟩ := World.cells?_some h1
        match cs', hlen with
        | [c0], _ =>
          have hsl : ∃ a len cap, c0 = .slice a len cap := by
            rcases open_ints he hg hc h2 with ⟨hcs, _⟩ | ⟨y, l, c, zs, hcs, _⟩
            · simp only [List.cons.injEq, and_true] at hcs; exact ⟨_, _, _, hcs⟩
            · simp only [List.cons.injEq, and_true] at hcs; exact ⟨_, _, _, hcs⟩
          obtain ⟨ka, kl, kc, rfl⟩ := hsl
          obtain ⟨l, hN⟩ := nums_open he hg hc h2
          obtain rfl := hN.eln
          refine ⟨⟨ka, kc, l⟩, ?_, hN⟩
          have := hget 0 (by omega)
          simpa [Addr.add] using this
      obtain ⟨d0, hc0, _⟩ := each 0 (by omega)
      obtain ⟨b, off, spot⟩ := a'
      have hspot : spot = none := by
        have := World.cell?_spot hc0
        simpa [Addr.add] using this
      subst hspot
      obtain ⟨f, hf⟩ : ∃ f : Nat → Kr, ∀ i, i < len → W.cell? ((⟨b, off, none⟩ : Addr).add i) = some (.slice (f i).a (f i).l.length (f i).cap) ∧ Nums k W (f i).a (f i).l.length (f i).cap (f i).l := by
        refine ⟨fun i => if h : i < len then Classical.choose (each i h) else ⟨none, 0, []⟩, fun i hi => ?_⟩
        simp only [hi, dif_pos]
        exact Classical.choose_spec (each i hi)
      refine ⟨(List.range len).map f, .inr ⟨b, off, rfl, fun i hi => ?_⟩, by simp, hl, hm⟩
      simp only [List.length_map, List.length_range] at hi
      have hn : kn ((List.range len).map f) i = f i := by simp [kn, hi]
      have := hf i hi
      rw [addr_add] at this
      rw [hn]; exact this
end Go.Proofs.Ythbjfbkjbggkbaa.dice
