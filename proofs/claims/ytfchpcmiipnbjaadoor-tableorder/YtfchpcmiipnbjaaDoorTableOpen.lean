/-
  What the row's reading tells of facts and of rows that came in.
-/
import Derived.Test.YtfchpcmiipnbjaaDoorTableApp
import Derived.Test.YtfchpcmiipnbjaaDoorDimsK
import Derived.Deep.Fields
import Derived.SizedLaws
namespace Go.Proofs.YtfchpcmiipnbjaaDoor.table
open Go.ChangeShapes Go.WideShapes Go.ChangeAt Go.RowKit Go.Deep Go.Joins
open Go.Proofs.YtfchpcmiipnbjaaDoor.dims (nth Ints cell_lt Nums nums_open addr_add)
open Go.Proofs.YtfchpcmiipnbjaaDoor.cell (C4 mrg all one zero)
set_option linter.unusedVariables false
set_option maxRecDepth 100000

theorem i64_of_wf2 {n : Int} (h : (Lit.int .i64 n).wf = true) : cell.In64 n := by
  simpa [Lit.wf, IntKind.min, IntKind.max, IntKind.signed, IntKind.bits, cell.In64] using h
theorem key_of_nums {w : World} {a : Option Addr} {n cap : Nat} {l : List Int} (h : Nums .i64 w a n cap l) : KeyOk w a n cap l :=
  ⟨h.mem, h.eln, h.lec, Nat.le_trans h.max maxLen_le2, fun v hv => by
    obtain ⟨i, hi, rfl⟩ := List.mem_iff_getElem.1 hv
    have := i64_of_wf2 (h.wf i hi)
    simpa [nth, hi] using this⟩

theorem weightsAll_in {H : Type} {P : Program} {e : TypeId} : ∀ {l : List (DataW H)} {d : DataW H}, d ∈ l → ∀ n ∈ d.weights P e, n ∈ DataW.weightsAll P e l
  | d' :: r, d, hd, n, hn => by
    simp only [DataW.weightsAll, List.mem_append]
    rcases List.mem_cons.1 hd with rfl | h
    · exact Or.inl hn
    · exact Or.inr (weightsAll_in h n hn)

/-- what is within the form's reach -/
def Reach {H : Type} (t : TypeId) (d : DataW H) : Prop := ∀ n ∈ d.weights Tryd.prog t, n ≤ reachBytes

theorem key_cell {H : Type} {enc : TypeId × Value → H} {W : World} {base : Nat} {spare : Nat → Bool} {held : Bool} {n : Nat} {c : Value} {y : DataW H × List MemPlace}
    (h : DataW.trod enc Tryd.prog W base spare held n 38 [c] = some y) : ∃ a cap l, c = .slice a l.length cap ∧ KeyOk W a l.length cap l ∧ (Reach 38 y.1 → l.length ≤ 17592186044416) := by
  have hsl : ∃ a len cap, c = .slice a len cap ∧ (Reach 38 y.1 → len ≤ 17592186044416) := by
    rcases open_slice Tryd.underlying38 h with ⟨hcs, _⟩ | ⟨a', len, cap, m, n', D, Pl, hcs, _, _, _, _, hy, _⟩
    · simp only [List.cons.injEq, and_true] at hcs; exact ⟨_, _, _, hcs, fun _ => by omega⟩
    · simp only [List.cons.injEq, and_true] at hcs
      refine ⟨_, _, _, hcs, fun hr => ?_⟩
      have e8 : Tryd.prog.bytesOf 3 = 8 := by kernel_rfl
      have := hr ((((List.range len).map D).length + ((List.range (m - len)).map fun j => D (len + j)).length) * Tryd.prog.bytesOf 3) (by rw [hy]; simp [DataW.weights, Tryd.underlying38])
      rw [e8] at this
      simp only [List.length_map, List.length_range, reachBytes] at this
      omega
  obtain ⟨a, len, cap, rfl, hr⟩ := hsl
  obtain ⟨l, hl⟩ := nums_open Tryd.underlying38 Tryd.underlying3 (by kernel_rfl) h
  obtain rfl := hl.eln
  exact ⟨a, cap, l, rfl, key_of_nums hl, hr⟩

set_option maxRecDepth 100000 in
theorem facts_open {H : Type} {enc : TypeId × Value → H} {W : World} {base : Nat} {spare : Nat → Bool} {held : Bool} {fuel : Nat} {a : Option Addr} {len cap : Nat} {x : DataW H × List MemPlace}
    (h : DataW.trod enc Tryd.prog W base spare held fuel 31 [.slice a len cap] = some x) : ∃ fs, FactsIn W a fs ∧ (fs.length = len ∧ len ≤ cap ∧ cap ≤ maxLen) ∧ (Reach 31 x.1 → ∀ f ∈ fs, f.k.length ≤ 17592186044416) := by
  rcases open_slice Tryd.underlying31 h with ⟨h0, _⟩ | ⟨a', len', cap', m, n, D, Pl, hcs, hb, hl, hm, hmm, hxe, hx⟩
  · simp at h0
    obtain ⟨rfl, rfl, rfl⟩ := h0
    exact ⟨[], .inl rfl, ⟨rfl, Nat.le_refl _, Nat.zero_le _⟩, fun _ f hf => by simp at hf⟩
  · simp at hcs
    obtain ⟨rfl, rfl, rfl⟩ := hcs
    by_cases hz : len = 0
    · subst hz; exact ⟨[], .inl rfl, ⟨rfl, hl, hm⟩, fun _ f hf => by simp at hf⟩
    · have hlm : len ≤ m := by rw [hmm]; split <;> omega
      have n2 : Tryd.prog.cellsOf 53 = 2 := by kernel_rfl
      have nk : Tryd.prog.cellsOf 38 = 1 := by kernel_rfl
      have nv : Tryd.prog.cellsOf 2 = 1 := by kernel_rfl
      have each : ∀ i, i < len → ∃ f : Ft, W.cell? (a'.add (i * 2)) = some (.slice f.a f.k.length f.cap) ∧ W.cell? ((a'.add (i * 2)).add 1) = some (.int .i64 f.v) ∧ KeyOk W f.a f.k.length f.cap f.k ∧ (Reach 31 x.1 → f.k.length ≤ 17592186044416) := by
        intro i hi
        obtain ⟨cs', h1, h2⟩ := hx i (by omega)
        rw [n2] at h1
        obtain ⟨_, hlen, hget⟩ := World.cells?_some h1
        obtain ⟨y0, y1, n', hagg, _, g0, g1⟩ := trod_struct2 Tryd.underlying53 h2
        match cs', hlen with
        | [c0, c1], _ =>
          obtain ⟨ka, kc, kl, e0, hk, hkr⟩ := key_cell (c := c0) (by simpa [nk] using g0)
          obtain ⟨v, e1, _, hw⟩ := DataW.trod_int Tryd.underlying2 (show DataW.trod enc Tryd.prog W base spare held _ 2 [c1] = some y1 by simpa [nv] using g1)
          simp only [List.cons.injEq, and_true] at e1
          refine ⟨⟨ka, kc, kl, v⟩, ?_, ?_, hk, fun hr => hkr fun m hm2 => hr m ?_⟩
          rotate_left 2
          · rw [hxe]
            simp only [DataW.weights, Tryd.underlying31, List.mem_cons, List.mem_append]
            refine Or.inr (Or.inl (weightsAll_in (List.mem_map.2 ⟨i, List.mem_range.2 hi, rfl⟩) m ?_))
            have eD : D i = .agg [y0.1, y1.1] := congrArg Prod.fst hagg
            rw [eD]
            simp only [DataW.weights, Tryd.underlying53, List.map_cons, List.map_nil, DataW.weightsEach, List.mem_append]
            exact Or.inl hm2
          · rw [← e0]
            have := hget 0 (by omega)
            simpa [Addr.add] using this
          · rw [← e1]; exact hget 1 (by omega)
      obtain ⟨d0, hc0, _⟩ := each 0 (by omega)
      obtain ⟨b, off, spot⟩ := a'
      have hspot : spot = none := by
        have := World.cell?_spot hc0
        simpa [Addr.add] using this
      subst hspot
      obtain ⟨f, hf⟩ : ∃ f : Nat → Ft, ∀ i, i < len → W.cell? ((⟨b, off, none⟩ : Addr).add (i * 2)) = some (.slice (f i).a (f i).k.length (f i).cap) ∧ W.cell? (((⟨b, off, none⟩ : Addr).add (i * 2)).add 1) = some (.int .i64 (f i).v) ∧ KeyOk W (f i).a (f i).k.length (f i).cap (f i).k ∧ (Reach 31 x.1 → (f i).k.length ≤ 17592186044416) := by
        refine ⟨fun i => if h : i < len then Classical.choose (each i h) else ⟨none, 0, [], 0⟩, fun i hi => ?_⟩
        simp only [hi, dif_pos]
        exact Classical.choose_spec (each i hi)
      refine ⟨(List.range len).map f, .inr ⟨b, off, rfl, fun i hi => ?_⟩, ⟨by simp, hl, hm⟩, fun hr q hq => by
        obtain ⟨i, hi, rfl⟩ := List.mem_map.1 hq
        exact (hf i (List.mem_range.1 hi)).2.2.2 hr⟩
      simp only [List.length_map, List.length_range] at hi
      have hn : ftn ((List.range len).map f) i = f i := by simp [ftn, hi]
      have := hf i hi
      rw [addr_add, addr_add] at this
      rw [hn]; exact ⟨this.1, this.2.1, this.2.2.1⟩
end Go.Proofs.YtfchpcmiipnbjaaDoor.table
