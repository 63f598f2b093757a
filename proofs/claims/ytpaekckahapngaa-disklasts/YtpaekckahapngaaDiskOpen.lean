/-
  What the row's reading tells of calls and of lists of bytes that came in, within its reach.
-/
import Derived.Test.YtpaekckahapngaaDiskLaw
import Derived.Deep.Strs
namespace Go.Proofs.Ytpaekckahapngaa.disk
open Go.ChangeShapes Go.WideShapes Go.ChangeAt Go.RowKit Go.Deep Go.Joins
open Go.Proofs.Ytpaekckahapngaa.bytes
set_option linter.unusedVariables false
set_option maxRecDepth 100000
set_option linter.unusedSimpArgs false

theorem weightsAll_in {H : Type} {P : Program} {e : TypeId} : ∀ {l : List (DataW H)} {d : DataW H}, d ∈ l → ∀ n ∈ d.weights P e, n ∈ DataW.weightsAll P e l
  | d' :: r, d, hd, n, hn => by
    simp only [DataW.weightsAll, List.mem_append]
    rcases List.mem_cons.1 hd with rfl | h
    · exact Or.inl hn
    · exact Or.inr (weightsAll_in h n hn)
/-- what is within the form's reach -/
def Reach {H : Type} (t : TypeId) (d : DataW H) : Prop := ∀ n ∈ d.weights Try.prog t, n ≤ reachBytes

theorem bytes_cell {H : Type} {enc : TypeId × Value → H} {W : World} {base : Nat} {spare : Nat → Bool} {held : Bool} {n : Nat} {c : Value} {y : DataW H × List MemPlace}
    (h : DataW.trod enc Try.prog W base spare held n 29 [c] = some y) : ∃ a cap l, c = .slice a l.length cap ∧ Sl W a l.length cap l ∧ (Reach 29 y.1 → l.length ≤ 140737488355328) := by
  have hsl : ∃ a len cap, c = .slice a len cap ∧ (Reach 29 y.1 → len ≤ 140737488355328) := by
    rcases open_slice Try.underlying29 h with ⟨hcs, _⟩ | ⟨a', len, cap, m, n', D, Pl, hcs, _, _, _, _, hy, _⟩
    · simp only [List.cons.injEq, and_true] at hcs; exact ⟨_, _, _, hcs, fun _ => by omega⟩
    · simp only [List.cons.injEq, and_true] at hcs
      refine ⟨_, _, _, hcs, fun hr => ?_⟩
      have e8 : Try.prog.bytesOf 5 = 1 := by kernel_rfl
      have := hr ((((List.range len).map D).length + ((List.range (m - len)).map fun j => D (len + j)).length) * Try.prog.bytesOf 5) (by rw [hy]; simp [DataW.weights, Try.underlying29])
      rw [e8] at this
      simp only [List.length_map, List.length_range, reachBytes] at this
      omega
  obtain ⟨a, len, cap, rfl, hr⟩ := hsl
  obtain ⟨l, hl⟩ := nums_open Try.underlying29 Try.underlying5 (by kernel_rfl) h
  have hb := sl_of_nums hl
  obtain rfl := hb.at_.len
  exact ⟨a, cap, bytesOf l, rfl, hb, hr⟩

set_option maxRecDepth 100000 in
theorem ops_open {H : Type} {enc : TypeId × Value → H} {W : World} {base : Nat} {spare : Nat → Bool} {held : Bool} {fuel : Nat} {a : Option Addr} {len cap : Nat} {x : DataW H × List MemPlace}
    (h : DataW.trod enc Try.prog W base spare held fuel 32 [.slice a len cap] = some x) (hr : Reach 32 x.1) : ∃ os, OpsIn W a os ∧ os.length = len ∧ len ≤ cap ∧ cap ≤ maxLen := by
  rcases open_slice Try.underlying32 h with ⟨h0, _⟩ | ⟨a', len', cap', m, n, D, Pl, hcs, hb, hl, hm, hmm, hxe, hx⟩
  · simp at h0
    obtain ⟨rfl, rfl, rfl⟩ := h0
    exact ⟨[], .inl rfl, rfl, Nat.le_refl _, Nat.zero_le _⟩
  · simp at hcs
    obtain ⟨rfl, rfl, rfl⟩ := hcs
    by_cases hz : len = 0
    · subst hz; exact ⟨[], .inl rfl, rfl, hl, hm⟩
    · have hlm : len ≤ m := by rw [hmm]; split <;> omega
      have n3 : Try.prog.cellsOf 38 = 3 := by kernel_rfl
      have nk : Try.prog.cellsOf 5 = 1 := by kernel_rfl
      have nb : Try.prog.cellsOf 29 = 1 := by kernel_rfl
      have nn : Try.prog.cellsOf 3 = 1 := by kernel_rfl
      have each : ∀ i, i < len → ∃ o : Oq, W.cell? (a'.add (i * 3)) = some (.int .u8 (o.q : Nat)) ∧ W.cell? ((a'.add (i * 3)).add 1) = some (.slice o.a o.l.length o.c) ∧ W.cell? ((a'.add (i * 3)).add 2) = some (.int .i64 o.n) ∧ OqOk W o := by
        intro i hi
        obtain ⟨cs', h1, h2⟩ := hx i (by omega)
        rw [n3] at h1
        obtain ⟨_, hlen, hget⟩ := World.cells?_some h1
        obtain ⟨y0, y1, y2, n', hagg, _, g0, g1, g2⟩ := trod_struct3 Try.underlying38 h2
        match cs', hlen with
        | [c0, c1, c2], _ =>
          obtain ⟨k, e0, _, hk⟩ := DataW.trod_int Try.underlying5 (show DataW.trod enc Try.prog W base spare held _ 5 [c0] = some y0 by simpa [nk] using g0)
          obtain ⟨ka, kc, kl, e1, hs, hkr⟩ := bytes_cell (c := c1) (by simpa [nb] using g1)
          obtain ⟨v, e2, _, hw⟩ := DataW.trod_int Try.underlying3 (show DataW.trod enc Try.prog W base spare held _ 3 [c2] = some y2 by simpa [nn] using g2)
          simp only [List.cons.injEq, and_true] at e0 e2
          have hk2 : 0 ≤ k ∧ k ≤ 255 := by simpa [Lit.wf, IntKind.min, IntKind.max, IntKind.signed, IntKind.bits] using hk
          have hw2 : -9223372036854775808 ≤ v ∧ v ≤ 9223372036854775807 := by simpa [Lit.wf, IntKind.min, IntKind.max, IntKind.signed, IntKind.bits] using hw
          have hkn : ((k.toNat : Nat) : Int) = k := by omega
          refine ⟨⟨k.toNat, ka, kc, kl, v⟩, ?_, ?_, ?_, ⟨by show k.toNat < 256; omega, hs, hkr fun m hm2 => hr m ?_, hw2⟩⟩
          · show _ = some (Value.int .u8 ((k.toNat : Nat) : Int))
            rw [hkn, ← e0]
            have := hget 0 (by omega)
            simpa [Addr.add] using this
          · show _ = some (Value.slice ka kl.length kc)
            rw [← e1]; exact hget 1 (by omega)
          · show _ = some (Value.int .i64 v)
            rw [← e2]; exact hget 2 (by omega)
          · rw [hxe]
            simp only [DataW.weights, Try.underlying32, List.mem_cons, List.mem_append]
            refine Or.inr (Or.inl (weightsAll_in (List.mem_map.2 ⟨i, List.mem_range.2 hi, rfl⟩) m ?_))
            have eD : D i = .agg [y0.1, y1.1, y2.1] := congrArg Prod.fst hagg
            rw [eD]
            simp only [DataW.weights, Try.underlying38, List.map_cons, List.map_nil, DataW.weightsEach, List.mem_append]
            exact Or.inr (Or.inl hm2)
      obtain ⟨d0, hc0, _⟩ := each 0 (by omega)
      obtain ⟨b, off, spot⟩ := a'
      have hspot : spot = none := by
        have := World.cell?_spot hc0
        simpa [Addr.add] using this
      subst hspot
      obtain ⟨f, hf⟩ : ∃ f : Nat → Oq, ∀ i, i < len → W.cell? ((⟨b, off, none⟩ : Addr).add (i * 3)) = some (.int .u8 ((f i).q : Nat)) ∧ W.cell? (((⟨b, off, none⟩ : Addr).add (i * 3)).add 1) = some (.slice (f i).a (f i).l.length (f i).c) ∧ W.cell? (((⟨b, off, none⟩ : Addr).add (i * 3)).add 2) = some (.int .i64 (f i).n) ∧ OqOk W (f i) := by
        refine ⟨fun i => if h : i < len then Classical.choose (each i h) else ⟨0, none, 0, [], 0⟩, fun i hi => ?_⟩
        simp only [hi, dif_pos]
        exact Classical.choose_spec (each i hi)
      refine ⟨(List.range len).map f, .inr ⟨b, off, rfl, fun i hi => ?_⟩, by simp, hl, hm⟩
      simp only [List.length_map, List.length_range] at hi
      have hn : oqn ((List.range len).map f) i = f i := by simp [oqn, hi]
      have := hf i hi
      rw [addr_add, addr_add, addr_add] at this
      rw [hn]; exact ⟨⟨this.1, this.2.1, this.2.2.1⟩, this.2.2.2⟩
/-! lists of bytes that came in, each within reach -/
set_option maxRecDepth 100000 in
theorem lists_open {H : Type} {enc : TypeId × Value → H} {W : World} {base : Nat} {spare : Nat → Bool} {held : Bool} {fuel : Nat} {a : Option Addr} {len cap : Nat} {x : DataW H × List MemPlace}
    (h : DataW.trod enc Try.prog W base spare held fuel 42 [.slice a len cap] = some x) (hr : Reach 42 x.1) : ∃ ls : List Lr, ListsIn W a ls ∧ (∀ i, i < ls.length → Sl W (ln ls i).a (ln ls i).l.length (ln ls i).cap (ln ls i).l ∧ (ln ls i).l.length ≤ 140737488355328) ∧ ls.length = len ∧ len ≤ cap ∧ cap ≤ maxLen := by
  have n1 : Try.prog.cellsOf 29 = 1 := by kernel_rfl
  rcases open_slice Try.underlying42 h with ⟨h0, _⟩ | ⟨a', len', cap', m, n, D, Pl, hcs, hb, hl, hm, hmm, hxe, hx⟩
  · simp at h0
    obtain ⟨rfl, rfl, rfl⟩ := h0
    exact ⟨[], .inl rfl, fun i hi => (by simp at hi), rfl, Nat.le_refl _, Nat.zero_le _⟩
  · simp at hcs
    obtain ⟨rfl, rfl, rfl⟩ := hcs
    by_cases hz : len = 0
    · subst hz; exact ⟨[], .inl rfl, fun i hi => (by simp at hi), rfl, hl, hm⟩
    · have hlm : len ≤ m := by rw [hmm]; split <;> omega
      have each : ∀ i, i < len → ∃ d : Lr, W.cell? (a'.add i) = some (.slice d.a d.l.length d.cap) ∧ Sl W d.a d.l.length d.cap d.l ∧ d.l.length ≤ 140737488355328 := by
        intro i hi
        obtain ⟨cs', h1, h2⟩ := hx i (by omega)
        rw [n1] at h1
        obtain ⟨_, hlen, hget⟩ := World.cells?_some h1
        match cs', hlen with
        | [c0], _ =>
          obtain ⟨ka, kc, kl, e0, hs, hkr⟩ := bytes_cell (c := c0) h2
          refine ⟨⟨ka, kc, kl⟩, ?_, hs, hkr fun m hm2 => hr m ?_⟩
          · show _ = some (Value.slice ka kl.length kc)
            rw [← e0]
            have := hget 0 (by omega)
            simpa [Addr.add] using this
          · rw [hxe]
            simp only [DataW.weights, Try.underlying42, List.mem_cons, List.mem_append]
            exact Or.inr (Or.inl (weightsAll_in (List.mem_map.2 ⟨i, List.mem_range.2 hi, rfl⟩) m hm2))
      obtain ⟨d0, hc0, _⟩ := each 0 (by omega)
      obtain ⟨b, off, spot⟩ := a'
      have hspot : spot = none := by
        have := World.cell?_spot hc0
        simpa [Addr.add] using this
      subst hspot
      obtain ⟨f, hf⟩ : ∃ f : Nat → Lr, ∀ i, i < len → W.cell? ((⟨b, off, none⟩ : Addr).add i) = some (.slice (f i).a (f i).l.length (f i).cap) ∧ Sl W (f i).a (f i).l.length (f i).cap (f i).l ∧ (f i).l.length ≤ 140737488355328 := by
        refine ⟨fun i => if h : i < len then Classical.choose (each i h) else ⟨none, 0, []⟩, fun i hi => ?_⟩
        simp only [hi, dif_pos]
        exact Classical.choose_spec (each i hi)
      have hk : ∀ i, i < len → ln ((List.range len).map f) i = f i := fun i hi => by simp [ln, hi]
      refine ⟨(List.range len).map f, .inr ⟨b, off, rfl, fun i hi => ?_⟩, fun i hi => ?_, by simp, hl, hm⟩
      · simp only [List.length_map, List.length_range] at hi
        have := hf i hi
        rw [addr_add] at this
        rw [hk i hi]; exact ⟨this.1, this.2.1.at_.mem⟩
      · simp only [List.length_map, List.length_range] at hi
        rw [hk i hi]; exact (hf i hi).2
end Go.Proofs.Ytpaekckahapngaa.disk
