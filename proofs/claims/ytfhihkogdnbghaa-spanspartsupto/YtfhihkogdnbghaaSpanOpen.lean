/-
  What the row's reading tells of maps, of facts and of choices that came in.
-/
import Derived.Test.YtfhihkogdnbghaaSpanFacts
import Derived.Deep.Fields
import Derived.SizedLaws
import Derived.Lib.SmallJoins
namespace Go.Proofs.Ytfhihkogdnbghaa.spans
open Go.ChangeShapes Go.WideShapes Go.ChangeAt Go.RowKit Go.Deep Go.Joins
open Go.Proofs.Ytfhihkogdnbghaa.bytes (ret_bool hid nth addr_add cell_lt own_below own_mono Nums nums_open)
set_option linter.unusedVariables false
set_option maxRecDepth 100000
set_option linter.unusedSimpArgs false

theorem weightsAll_in {H : Type} {P : Program} {e : TypeId} : ∀ {l : List (DataW H)} {d : DataW H}, d ∈ l → ∀ n ∈ d.weights P e, n ∈ DataW.weightsAll P e l
  | d' :: r, d, hd, n, hn => by
    simp only [DataW.weightsAll, List.mem_append]
    rcases List.mem_cons.1 hd with rfl | h
    · exact Or.inl hn
    · exact Or.inr (weightsAll_in h n hn)

/-- what is within the form's reach -/
def Reach {H : Type} (t : TypeId) (d : DataW H) : Prop := ∀ n ∈ d.weights Try.prog t, n ≤ reachBytes

theorem key_cell {H : Type} {enc : TypeId × Value → H} {W : World} {base : Nat} {spare : Nat → Bool} {held : Bool} {n : Nat} {c : Value} {y : DataW H × List MemPlace}
    (h : DataW.trod enc Try.prog W base spare held n 31 [c] = some y) : ∃ a cap l, c = .slice a l.length cap ∧ (Ints W a l ∧ l.length ≤ cap) ∧ (Reach 31 y.1 → l.length ≤ 17592186044416) := by
  have hsl : ∃ a len cap, c = .slice a len cap ∧ (Reach 31 y.1 → len ≤ 17592186044416) := by
    rcases open_slice Try.underlying31 h with ⟨hcs, _⟩ | ⟨a', len, cap, m, n', D, Pl, hcs, _, _, _, _, hy, _⟩
    · simp only [List.cons.injEq, and_true] at hcs; exact ⟨_, _, _, hcs, fun _ => by omega⟩
    · simp only [List.cons.injEq, and_true] at hcs
      refine ⟨_, _, _, hcs, fun hr => ?_⟩
      have e8 : Try.prog.bytesOf 3 = 8 := by kernel_rfl
      have := hr ((((List.range len).map D).length + ((List.range (m - len)).map fun j => D (len + j)).length) * Try.prog.bytesOf 3) (by rw [hy]; simp [DataW.weights, Try.underlying31])
      rw [e8] at this
      simp only [List.length_map, List.length_range, reachBytes] at this
      omega
  obtain ⟨a, len, cap, rfl, hr⟩ := hsl
  obtain ⟨l, hl⟩ := nums_open Try.underlying31 Try.underlying3 (by kernel_rfl) h
  obtain rfl := hl.eln
  exact ⟨a, cap, l, rfl, ⟨hl.mem, hl.lec⟩, hr⟩

set_option maxRecDepth 100000 in
theorem facts_open {H : Type} {enc : TypeId × Value → H} {W : World} {base : Nat} {spare : Nat → Bool} {held : Bool} {fuel : Nat} {a : Option Addr} {len cap : Nat} {x : DataW H × List MemPlace}
    (h : DataW.trod enc Try.prog W base spare held fuel 46 [.slice a len cap] = some x) (hr : Reach 46 x.1) : ∃ fs, FactsIn W a fs ∧ fs.length = len ∧ len ≤ cap ∧ cap ≤ maxLen := by
  rcases open_slice Try.underlying46 h with ⟨h0, _⟩ | ⟨a', len', cap', m, n, D, Pl, hcs, hb, hl, hm, hmm, hxe, hx⟩
  · simp at h0
    obtain ⟨rfl, rfl, rfl⟩ := h0
    exact ⟨[], .inl rfl, rfl, Nat.le_refl _, Nat.zero_le _⟩
  · simp at hcs
    obtain ⟨rfl, rfl, rfl⟩ := hcs
    by_cases hz : len = 0
    · subst hz; exact ⟨[], .inl rfl, rfl, hl, hm⟩
    · have hlm : len ≤ m := by rw [hmm]; split <;> omega
      have n2 : Try.prog.cellsOf 56 = 2 := by kernel_rfl
      have nk : Try.prog.cellsOf 31 = 1 := by kernel_rfl
      have nv : Try.prog.cellsOf 2 = 1 := by kernel_rfl
      have each : ∀ i, i < len → ∃ f : Ft, W.cell? (a'.add (i * 2)) = some (.slice f.a f.k.length f.cap) ∧ W.cell? ((a'.add (i * 2)).add 1) = some (.int .i64 f.v) ∧ FtOk W f := by
        intro i hi
        obtain ⟨cs', h1, h2⟩ := hx i (by omega)
        rw [n2] at h1
        obtain ⟨_, hlen, hget⟩ := World.cells?_some h1
        obtain ⟨y0, y1, n', hagg, _, g0, g1⟩ := trod_struct2 Try.underlying56 h2
        match cs', hlen with
        | [c0, c1], _ =>
          obtain ⟨ka, kc, kl, e0, hk, hkr⟩ := key_cell (c := c0) (by simpa [nk] using g0)
          obtain ⟨v, e1, _, hw⟩ := DataW.trod_int Try.underlying2 (show DataW.trod enc Try.prog W base spare held _ 2 [c1] = some y1 by simpa [nv] using g1)
          simp only [List.cons.injEq, and_true] at e1
          have h17 : kl.length ≤ 17592186044416 := hkr fun m hm2 => hr m ?_
          refine ⟨⟨ka, kc, kl, v⟩, ?_, ?_, ⟨hk.1, by show kl.length * 8 ≤ _; omega, hk.2⟩⟩
          rotate_left 2
          · rw [hxe]
            simp only [DataW.weights, Try.underlying46, List.mem_cons, List.mem_append]
            refine Or.inr (Or.inl (weightsAll_in (List.mem_map.2 ⟨i, List.mem_range.2 hi, rfl⟩) m ?_))
            have eD : D i = .agg [y0.1, y1.1] := congrArg Prod.fst hagg
            rw [eD]
            simp only [DataW.weights, Try.underlying56, List.map_cons, List.map_nil, DataW.weightsEach, List.mem_append]
            exact Or.inl hm2
          · rw [← e0]
            have := hget 0 (by omega)
            simpa [Addr.add] using this
          · rw [← e1]; exact hget 1 (by omega)
      obtain ⟨d0, hc0, _⟩ := each 0 (by omega)
      obtain ⟨b, off, spot⟩ := a'
      have hspot : spot = none := by
        have := World.cell?_spot hc0
        simpa [Addr.add] using this
      subst hspot
      obtain ⟨f, hf⟩ : ∃ f : Nat → Ft, ∀ i, i < len → W.cell? ((⟨b, off, none⟩ : Addr).add (i * 2)) = some (.slice (f i).a (f i).k.length (f i).cap) ∧ W.cell? (((⟨b, off, none⟩ : Addr).add (i * 2)).add 1) = some (.int .i64 (f i).v) ∧ FtOk W (f i) := by
        refine ⟨fun i => if h : i < len then Classical.choose (each i h) else ⟨none, 0, [], 0⟩, fun i hi => ?_⟩
        simp only [hi, dif_pos]
        exact Classical.choose_spec (each i hi)
      refine ⟨(List.range len).map f, .inr ⟨b, off, rfl, fun i hi => ?_⟩, by simp, hl, hm⟩
      simp only [List.length_map, List.length_range] at hi
      have hn : ftn ((List.range len).map f) i = f i := by simp [ftn, hi]
      have := hf i hi
      rw [addr_add, addr_add] at this
      rw [hn]; exact ⟨this.1, this.2.1, this.2.2⟩
section
variable {H : Type} {enc : TypeId × Value → H} {W : World} {base : Nat} {spare : Nat → Bool} {held : Bool}

theorem sl_form {t e : TypeId} {n : Nat} {c : Value} {y : DataW H × List MemPlace} (ht : Try.prog.underlying t = some (.slice e)) (h : DataW.trod enc Try.prog W base spare held n t [c] = some y) : ∃ a len cap, c = .slice a len cap := by
  rcases open_slice ht h with ⟨hcs, _⟩ | ⟨a', len, cap, m, n', D, Pl, hcs, _⟩
  · simp only [List.cons.injEq, and_true] at hcs; exact ⟨_, _, _, hcs⟩
  · simp only [List.cons.injEq, and_true] at hcs; exact ⟨_, _, _, hcs⟩

set_option maxRecDepth 100000 in
theorem two_open {α : Type} [Inhabited α] {t e : TypeId} {f0 f1 : Field} {fuel : Nat} {a : Option Addr} {len cap : Nat} {x : DataW H × List MemPlace} (Q : Value → Value → α → Prop)
    (ht : Try.prog.underlying t = some (.slice e)) (hs : Try.prog.underlying e = some (.struct #[f0, f1])) (o0 : f0.offset = 0) (o1 : f1.offset = 1) (n0 : Try.prog.cellsOf f0.type = 1) (n1 : Try.prog.cellsOf f1.type = 1) (n2 : Try.prog.cellsOf e = 2)
    (hQ : ∀ n c0 c1 y0 y1, DataW.trod enc Try.prog W base spare held n f0.type [c0] = some y0 → DataW.trod enc Try.prog W base spare held n f1.type [c1] = some y1 → ∃ z : α, Q c0 c1 z)
    (h : DataW.trod enc Try.prog W base spare held fuel t [.slice a len cap] = some x) : ∃ xs : List α, xs.length = len ∧ len ≤ cap ∧ cap ≤ maxLen ∧ (xs = [] ∨ ∃ b off, a = some ⟨b, off, none⟩ ∧ ∀ i, i < xs.length → ∃ c0 c1, W.cell? ⟨b, off + i * 2, none⟩ = some c0 ∧ W.cell? ⟨b, off + i * 2 + 1, none⟩ = some c1 ∧ Q c0 c1 (xs.getD i default)) := by
  rcases open_slice ht h with ⟨h0, _⟩ | ⟨a', len', cap', m, n, D, Pl, hcs, hb, hl, hm, hmm, _, hx⟩
  · simp at h0
    obtain ⟨rfl, rfl, rfl⟩ := h0
    exact ⟨[], rfl, Nat.le_refl _, Nat.zero_le _, .inl rfl⟩
  · simp at hcs
    obtain ⟨rfl, rfl, rfl⟩ := hcs
    by_cases hz : len = 0
    · subst hz; exact ⟨[], rfl, hl, hm, .inl rfl⟩
    · have hlm : len ≤ m := by rw [hmm]; split <;> omega
      have each : ∀ i, i < len → ∃ (z : α) (c0 c1 : Value), W.cell? (a'.add (i * 2)) = some c0 ∧ W.cell? ((a'.add (i * 2)).add 1) = some c1 ∧ Q c0 c1 z := by
        intro i hi
        obtain ⟨cs', h1, h2⟩ := hx i (by omega)
        rw [n2] at h1
        obtain ⟨_, hlen, hget⟩ := World.cells?_some h1
        obtain ⟨y0, y1, n', _, _, g0, g1⟩ := trod_struct2 hs h2
        match cs', hlen with
        | [c0, c1], _ =>
          rw [o0, n0] at g0
          rw [o1, n1] at g1
          obtain ⟨z, hz⟩ := hQ _ _ _ _ _ (by simpa using g0) (by simpa using g1)
          refine ⟨z, c0, c1, ?_, ?_, hz⟩
          · have := hget 0 (by omega)
            simpa [Addr.add] using this
          · exact hget 1 (by omega)
      obtain ⟨d0, _, _, hc0, _⟩ := each 0 (by omega)
      obtain ⟨b, off, spot⟩ := a'
      have hspot : spot = none := by
        have := World.cell?_spot hc0
        simpa [Addr.add] using this
      subst hspot
      obtain ⟨f, hf⟩ : ∃ f : Nat → α, ∀ i, i < len → ∃ (c0 c1 : Value), W.cell? ((⟨b, off, none⟩ : Addr).add (i * 2)) = some c0 ∧ W.cell? (((⟨b, off, none⟩ : Addr).add (i * 2)).add 1) = some c1 ∧ Q c0 c1 (f i) := by
        refine ⟨fun i => if h : i < len then Classical.choose (each i h) else default, fun i hi => ?_⟩
        simp only [hi, dif_pos]
        exact Classical.choose_spec (each i hi)
      refine ⟨(List.range len).map f, by simp, hl, hm, .inr ⟨b, off, rfl, fun i hi => ?_⟩⟩
      simp only [List.length_map, List.length_range] at hi
      have hn : ((List.range len).map f).getD i default = f i := by simp [hi]
      obtain ⟨c0, c1, h1, h2, h3⟩ := hf i hi
      rw [addr_add, addr_add] at h2
      rw [addr_add] at h1
      rw [hn]; exact ⟨c0, c1, h1, h2, h3⟩

theorem i64_wf {n : Int} (h : (Lit.int .i64 n).wf = true) : I64 n := by
  simpa [Lit.wf, IntKind.min, IntKind.max, IntKind.signed, IntKind.bits, I64] using h
theorem u32_wf {n : Int} (h : (Lit.int .u32 n).wf = true) : U32 n := by
  simpa [Lit.wf, IntKind.min, IntKind.max, IntKind.signed, IntKind.bits, U32] using h
theorem u8_wf {n : Int} (h : (Lit.int .u8 n).wf = true) : 0 ≤ n ∧ n ≤ 255 := by
  simpa [Lit.wf, IntKind.min, IntKind.max, IntKind.signed, IntKind.bits] using h

theorem spans_open {fuel : Nat} {a : Option Addr} {len cap : Nat} {x : DataW H × List MemPlace} (h : DataW.trod enc Try.prog W base spare held fuel 27 [.slice a len cap] = some x) : ∃ l, Sps W a len cap l ∧ len ≤ maxLen := by
  letI : Inhabited Sp := ⟨(0, 0)⟩
  obtain ⟨xs, hx1, hx2, hx3, hx4⟩ := two_open (α := Sp) (fun c0 c1 f => c0 = .int .i64 f.1 ∧ c1 = .int .i64 f.2 ∧ I64 f.1 ∧ I64 f.2) Try.underlying27 Try.underlying38 rfl rfl (by kernel_rfl) (by kernel_rfl) (by kernel_rfl) (fun n c0 c1 y0 y1 g0 g1 => by
    obtain ⟨u, e0, _, hu⟩ := DataW.trod_int Try.underlying3 g0
    obtain ⟨v, e1, _, hw⟩ := DataW.trod_int Try.underlying3 g1
    simp only [List.cons.injEq, and_true] at e0 e1
    exact ⟨(u, v), e0, e1, i64_wf hu, i64_wf hw⟩) h
  refine ⟨xs, ⟨?_, hx1, hx2, hx3⟩, Nat.le_trans hx2 hx3⟩
  rcases hx4 with h0 | ⟨b, off, ha, hc⟩
  · exact .inl h0
  · refine .inr ⟨b, off, ha, fun i hi => ?_⟩
    obtain ⟨c0, c1, h1, h2, h3, h4, h5⟩ := hc i hi
    have e : xs.getD i default = spn xs i := by simp [spn, hi]
    rw [e] at h3 h4 h5
    exact ⟨by rw [h1, h3], by rw [h2, h4], h5⟩
/-- a map that came in -/
theorem map_open {n0 n1 : Nat} {c0 c1 : Value} {y0 y1 : DataW H × List MemPlace} (h0 : DataW.trod enc Try.prog W base spare held n0 26 [c0] = some y0) (h1 : DataW.trod enc Try.prog W base spare held n1 27 [c1] = some y1) :
    ∃ ep a len cap l, c0 = .int .u32 ep ∧ c1 = .slice a len cap ∧ U32 ep ∧ Sps W a len cap l ∧ len ≤ maxLen := by
  obtain ⟨ep, e0, _, hu⟩ := DataW.trod_int Try.underlying26 h0
  simp only [List.cons.injEq, and_true] at e0
  obtain ⟨a, len, cap, rfl⟩ := sl_form Try.underlying27 h1
  obtain ⟨l, hl, hm⟩ := spans_open h1
  exact ⟨ep, a, len, cap, l, e0, rfl, u32_wf hu, hl, hm⟩
end
end Go.Proofs.Ytfhihkogdnbghaa.spans
