/-
 Bytes that came in.
 Records that came in: what the row's reading tells of them.
-/
import Derived.Test.YtlcjllgfpfldlaaGreatCodeKnown
import Derived.Test.YtlcjllgfpfldlaaGreatDimsOpen
set_option linter.unusedVariables false
set_option maxRecDepth 100000
namespace Go.Proofs.YtlcjllgfpfldlaaGreat
namespace code
open Go.ChangeShapes Go.WideShapes Go.ChangeAt Go.RowKit Go.Deep
open dims (nth Ints)
end code
namespace code
open Go.ChangeShapes Go.WideShapes Go.ChangeAt Go.RowKit Go.Deep Go.Joins
open dims (nth Ints nums_open addr_add)
set_option linter.unusedSimpArgs false
section
variable {H : Type} {enc : TypeId × Value → H} {W : World} {base : Nat} {spare : Nat → Bool} {held : Bool}

theorem sl_form {t e : TypeId} {n : Nat} {c : Value} {y : DataW H × List MemPlace} (ht : Tryz.prog.underlying t = some (.slice e)) (h : DataW.trod enc Tryz.prog W base spare held n t [c] = some y) : ∃ a len cap, c = .slice a len cap := by
 rcases open_slice ht h with ⟨hcs, _⟩ | ⟨a', len, cap, m, n', D, Pl, hcs, _⟩
 ·simp only [List.cons.injEq, and_true] at hcs; exact ⟨_, _, _, hcs⟩
 ·simp only [List.cons.injEq, and_true] at hcs; exact ⟨_, _, _, hcs⟩
set_option maxRecDepth 100000 in
theorem two_open {α : Type} [Inhabited α] {t e : TypeId} {f0 f1 : Field} {fuel : Nat} {a : Option Addr} {len cap : Nat} {x : DataW H × List MemPlace} (Q : Value → Value → α → Prop)
  (ht : Tryz.prog.underlying t = some (.slice e)) (hs : Tryz.prog.underlying e = some (.struct #[f0, f1])) (o0 : f0.offset = 0) (o1 : f1.offset = 1) (n0 : Tryz.prog.cellsOf f0.type = 1) (n1 : Tryz.prog.cellsOf f1.type = 1) (n2 : Tryz.prog.cellsOf e = 2)
  (hQ : ∀ n c0 c1 y0 y1, DataW.trod enc Tryz.prog W base spare held n f0.type [c0] = some y0 → DataW.trod enc Tryz.prog W base spare held n f1.type [c1] = some y1 → ∃ z : α, Q c0 c1 z)
  (h : DataW.trod enc Tryz.prog W base spare held fuel t [.slice a len cap] = some x) : ∃ xs : List α, xs.length = len ∧ len ≤ cap ∧ cap ≤ maxLen ∧ (xs = [] ∨ ∃ b off, a = some ⟨b, off, none⟩ ∧ ∀ i, i < xs.length → ∃ c0 c1, W.cell? ⟨b, off + i * 2, none⟩ = some c0 ∧ W.cell? ⟨b, off + i * 2 + 1, none⟩ = some c1 ∧ Q c0 c1 (xs.getD i default)) := by
 rcases open_slice ht h with ⟨h0, _⟩ | ⟨a', len', cap', m, n, D, Pl, hcs, hb, hl, hm, hmm, _, hx⟩
 ·simp at h0
  obtain ⟨rfl, rfl, rfl⟩ := h0
  exact ⟨[], rfl, nrQ _, Nat.zero_le _, .inl rfl⟩
 ·simp at hcs
  obtain ⟨rfl, rfl, rfl⟩ := hcs
  by_cases hz : len = 0
  ·subst hz; exact ⟨[], rfl, hl, hm, .inl rfl⟩
  ·have hlm : len ≤ m := by rw [hmm]; split <;> omega
   have each : ∀ i, i < len → ∃ (z : α) (c0 c1 : Value), W.cell? (a'.add (i * 2)) = some c0 ∧ W.cell? ((a'.add (i * 2)).add 1) = some c1 ∧ Q c0 c1 z := by
    intro i hi
    obtain ⟨cs', h1, h2⟩ := hx i (by omega)
    rw [n2] at h1
    obtain ⟨_, hlen, hget⟩ := World.cells?_some h1
    obtain ⟨y0, y1, n', _, _, g0, g1⟩ := trod_struct2 hs h2
    match cs', hlen with
    | [c0, c1], _ =>
     rw [o0, n0] at g0
     rw [o1, n1] at g1
     obtain ⟨z, hz⟩ := hQ _ _ _ _ _ (by simpa using g0) (by simpa using g1)
     refine ⟨z, c0, c1, ?_, ?_, hz⟩
     ·have := hget 0 (by omega)
      simpa [Addr.add] using this
     ·exact hget 1 (by omega)
   obtain ⟨d0, _, _, hc0, _⟩ := each 0 (by omega)
   obtain ⟨b, off, spot⟩ := a'
   have hspot : spot = none := by
    have := World.cell?_spot hc0
    simpa [Addr.add] using this
   subst hspot
   obtain ⟨f, hf⟩ : ∃ f : Nat → α, ∀ i, i < len → ∃ (c0 c1 : Value), W.cell? ((⟨b, off, none⟩ : Addr).add (i * 2)) = some c0 ∧ W.cell? (((⟨b, off, none⟩ : Addr).add (i * 2)).add 1) = some c1 ∧ Q c0 c1 (f i) := by
    refine ⟨fun i => if h : i < len then Classical.choose (each i h) else default, fun i hi => ?_⟩
    simp only [hi, dif_pos]
    exact Classical.choose_spec (each i hi)
   refine ⟨(List.range len).map f, by simp, hl, hm, .inr ⟨b, off, rfl, fun i hi => ?_⟩⟩
   simp only [List.length_map, List.length_range] at hi
   have hn : ((List.range len).map f).getD i default = f i := by simp [hi]
   obtain ⟨c0, c1, h1, h2, h3⟩ := hf i hi
   rw [addr_add, addr_add] at h2
   rw [addr_add] at h1
   rw [hn]; exact ⟨c0, c1, h1, h2, h3⟩

theorem i64_wf {n : Int} (h : (Lit.int .i64 n).wf = true) : I64 n := by
 simpa [Lit.wf, IntKind.min, IntKind.max, IntKind.signed, IntKind.bits, I64] using h
theorem u32_wf {n : Int} (h : (Lit.int .u32 n).wf = true) : U32 n := by
 simpa [Lit.wf, IntKind.min, IntKind.max, IntKind.signed, IntKind.bits, U32] using h
theorem u8_wf {n : Int} (h : (Lit.int .u8 n).wf = true) : 0 ≤ n ∧ n ≤ 255 := by
 simpa [Lit.wf, IntKind.min, IntKind.max, IntKind.signed, IntKind.bits] using h
theorem maxLen_9 : maxLen = 9223372036854775807 := rfl

theorem ints_cell {n : Nat} {c : Value} {y : DataW H × List MemPlace} (h : DataW.trod enc Tryz.prog W base spare held n 39 [c] = some y) : ∃ a cap l, c = .slice a l.length cap ∧ Ints W a l ∧ l.length ≤ 9223372036854775807 ∧ ∀ v ∈ l, I64 v := by
 obtain ⟨a, len, cap, rfl⟩ := sl_form Tryz.underlying39 h
 obtain ⟨l, hl⟩ := nums_open Tryz.underlying39 Tryz.underlying3 (by kernel_rfl) h
 obtain rfl := hl.eln
 refine ⟨a, cap, l, rfl, hl.mem, by have h1 := hl.lec; have h2 := hl.max; rw [maxLen_9] at h2; omega, fun v hv => ?_⟩
 obtain ⟨i, hi, rfl⟩ := List.mem_iff_getElem.1 hv
 have := i64_wf (hl.wf i hi)
 simpa [nth, hi] using this

theorem facts_cell {n : Nat} {c : Value} {y : DataW H × List MemPlace} (h : DataW.trod enc Tryz.prog W base spare held n 40 [c] = some y) : ∃ a cap l, c = .slice a l.length cap ∧ FactsIn W a l ∧ l.length ≤ 9223372036854775807 := by
 obtain ⟨a, len, cap, rfl⟩ := sl_form Tryz.underlying40 h
 letI : Inhabited Ft := ⟨⟨none, 0, [], 0⟩⟩
 obtain ⟨xs, hx1, hx2, hx3, hx4⟩ := two_open (α := Ft) (fun c0 c1 f => c0 = .slice f.a f.k.length f.cap ∧ c1 = .int .i64 f.v ∧ FtOk W f) Tryz.underlying40 Tryz.underlying124 rfl rfl (by kernel_rfl) (by kernel_rfl) (by kernel_rfl) (fun n c0 c1 y0 y1 g0 g1 => by
  obtain ⟨ka, kc, kl, e0, h1, h2, h3⟩ := ints_cell g0
  obtain ⟨v, e1, _, hw⟩ := DataW.trod_int Tryz.underlying2 g1
  simp only [List.cons.injEq, and_true] at e1
  exact ⟨⟨ka, kc, kl, v⟩, e0, e1, h1, h2, h3, i64_wf hw⟩) h
 obtain rfl := hx1
 refine ⟨a, cap, xs, rfl, ?_, by rw [maxLen_9] at hx3; omega⟩
 rcases hx4 with h0 | ⟨b, off, ha, hc⟩
 ·exact .inl h0
 ·refine .inr ⟨b, off, ha, fun i hi => ?_⟩
  obtain ⟨c0, c1, h1, h2, h3, h4, h5⟩ := hc i hi
  have e : xs.getD i default = ftn xs i := by simp [ftn, hi]
  rw [e] at h3 h4 h5
  exact ⟨by rw [h1, h3], by rw [h2, h4], h5⟩

theorem spans_cell {n : Nat} {c : Value} {y : DataW H × List MemPlace} (h : DataW.trod enc Tryz.prog W base spare held n 41 [c] = some y) : ∃ a cap l, c = .slice a l.length cap ∧ SpansIn W a l ∧ l.length ≤ 9223372036854775807 := by
 obtain ⟨a, len, cap, rfl⟩ := sl_form Tryz.underlying41 h
 letI : Inhabited PSpan := ⟨(0, 0)⟩
 obtain ⟨xs, hx1, hx2, hx3, hx4⟩ := two_open (α := PSpan) (fun c0 c1 f => c0 = .int .i64 f.1 ∧ c1 = .int .i64 f.2 ∧ I64 f.1 ∧ I64 f.2) Tryz.underlying41 Tryz.underlying109 rfl rfl (by kernel_rfl) (by kernel_rfl) (by kernel_rfl) (fun n c0 c1 y0 y1 g0 g1 => by
  obtain ⟨u, e0, _, hu⟩ := DataW.trod_int Tryz.underlying3 g0
  obtain ⟨v, e1, _, hw⟩ := DataW.trod_int Tryz.underlying3 g1
  simp only [List.cons.injEq, and_true] at e0 e1
  exact ⟨(u, v), e0, e1, i64_wf hu, i64_wf hw⟩) h
 obtain rfl := hx1
 refine ⟨a, cap, xs, rfl, ?_, by rw [maxLen_9] at hx3; omega⟩
 rcases hx4 with h0 | ⟨b, off, ha, hc⟩
 ·exact .inl h0
 ·refine .inr ⟨b, off, ha, fun i hi => ?_⟩
  obtain ⟨c0, c1, h1, h2, h3, h4, h5⟩ := hc i hi
  have e : xs.getD i default = spn xs i := by simp [spn, hi]
  rw [e] at h3 h4 h5
  exact ⟨by rw [h1, h3], by rw [h2, h4], h5⟩

theorem ents_cell {n : Nat} {c : Value} {y : DataW H × List MemPlace} (h : DataW.trod enc Tryz.prog W base spare held n 44 [c] = some y) : ∃ a cap l, c = .slice a l.length cap ∧ EntsIn W a l ∧ l.length ≤ 9223372036854775807 := by
 obtain ⟨a, len, cap, rfl⟩ := sl_form Tryz.underlying44 h
 letI : Inhabited Et := ⟨⟨0, none, 0, []⟩⟩
 obtain ⟨xs, hx1, hx2, hx3, hx4⟩ := two_open (α := Et) (fun c0 c1 f => c0 = .int .u32 f.t ∧ c1 = .slice f.a f.fs.length f.cap ∧ EtOk W f) Tryz.underlying44 Tryz.underlying94 rfl rfl (by kernel_rfl) (by kernel_rfl) (by kernel_rfl) (fun n c0 c1 y0 y1 g0 g1 => by
  obtain ⟨v, e0, _, hw⟩ := DataW.trod_int Tryz.underlying38 g0
  simp only [List.cons.injEq, and_true] at e0
  obtain ⟨ka, kc, kl, e1, h1, h2⟩ := facts_cell g1
  exact ⟨⟨v, ka, kc, kl⟩, e0, e1, h1, h2, u32_wf hw⟩) h
 obtain rfl := hx1
 refine ⟨a, cap, xs, rfl, ?_, by rw [maxLen_9] at hx3; omega⟩
 rcases hx4 with h0 | ⟨b, off, ha, hc⟩
 ·exact .inl h0
 ·refine .inr ⟨b, off, ha, fun i hi => ?_⟩
  obtain ⟨c0, c1, h1, h2, h3, h4, h5⟩ := hc i hi
  have e : xs.getD i default = etn xs i := by simp [etn, hi]
  rw [e] at h3 h4 h5
  exact ⟨by rw [h1, h3], by rw [h2, h4], h5⟩

end
end code
end Go.Proofs.YtlcjllgfpfldlaaGreat
