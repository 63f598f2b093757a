/-
  Choices that came in; the maps that they make, as lists.
-/
import Derived.Test.YtfhihkogdnbghaaSpanOpen
namespace Go.Proofs.Ytfhihkogdnbghaa.spans
open Go.ChangeShapes Go.WideShapes Go.ChangeAt Go.RowKit Go.Deep Go.Joins
open Go.Proofs.Ytfhihkogdnbghaa.bytes (ret_bool hid nth addr_add cell_lt own_below own_mono)
set_option linter.unusedVariables false
set_option maxRecDepth 100000
set_option linter.unusedSimpArgs false

/-- a choice: from, to, node -/
abbrev Ct := Int × Int × Int
def ctn (l : List Ct) (i : Nat) : Ct := l.getD i (0, 0, 0)
theorem ctn_eq {l : List Ct} {i : Nat} (h : i < l.length) : ctn l i = l[i] := by simp [ctn, h]
theorem take_ctn {l : List Ct} {k : Nat} (h : k < l.length) : l.take (k + 1) = l.take k ++ [ctn l k] := by rw [List.take_succ_eq_append_getElem h, ctn_eq h]
def CtOk (c : Ct) : Prop := (0 ≤ c.1 ∧ c.1 ≤ 65535) ∧ (0 ≤ c.2.1 ∧ c.2.1 ≤ 65535) ∧ 0 ≤ c.2.2 ∧ c.2.2 ≤ 255
def CutsIn (w : World) (a : Option Addr) (cs : List Ct) : Prop :=
  cs = [] ∨ ∃ b off, a = some ⟨b, off, none⟩ ∧ ∀ i, i < cs.length → w.cell? ⟨b, off + i * 3, none⟩ = some (.int .u16 (ctn cs i).1) ∧ w.cell? ⟨b, off + i * 3 + 1, none⟩ = some (.int .u16 (ctn cs i).2.1) ∧ w.cell? ⟨b, off + i * 3 + 2, none⟩ = some (.int .u8 (ctn cs i).2.2) ∧ CtOk (ctn cs i)
theorem CutsIn.keep {w w1 : World} {a : Option Addr} {cs : List Ct} (h : CutsIn w a cs) (hb : Below w.heap.size w w1) : CutsIn w1 a cs := by
  rcases h with h | ⟨b, off, ha, hc⟩
  · exact .inl h
  · refine .inr ⟨b, off, ha, fun i hi => ?_⟩
    obtain ⟨h1, h2, h3, h4⟩ := hc i hi
    exact ⟨(hb.cell (p := ⟨b, off + i * 3, none⟩) (cell_lt h1)).trans h1, (hb.cell (p := ⟨b, off + i * 3 + 1, none⟩) (cell_lt h2)).trans h2, (hb.cell (p := ⟨b, off + i * 3 + 2, none⟩) (cell_lt h3)).trans h3, h4⟩
theorem CutsIn.get {w : World} {a : Option Addr} {cs : List Ct} (h : CutsIn w a cs) {k : Nat} (hk : k < cs.length) : ∃ b off, a = some ⟨b, off, none⟩ ∧ ∀ i, i < cs.length → w.cell? ⟨b, off + i * 3, none⟩ = some (.int .u16 (ctn cs i).1) ∧ w.cell? ⟨b, off + i * 3 + 1, none⟩ = some (.int .u16 (ctn cs i).2.1) ∧ w.cell? ⟨b, off + i * 3 + 2, none⟩ = some (.int .u8 (ctn cs i).2.2) ∧ CtOk (ctn cs i) := by
  rcases h with rfl | h
  · simp at hk
  · exact h
theorem u16_wf {n : Int} (h : (Lit.int .u16 n).wf = true) : 0 ≤ n ∧ n ≤ 65535 := by
  simpa [Lit.wf, IntKind.min, IntKind.max, IntKind.signed, IntKind.bits] using h

set_option maxRecDepth 100000 in
theorem cuts_open {H : Type} {enc : TypeId × Value → H} {W : World} {base : Nat} {spare : Nat → Bool} {held : Bool} {fuel : Nat} {a : Option Addr} {len cap : Nat} {x : DataW H × List MemPlace}
    (h : DataW.trod enc Try.prog W base spare held fuel 22 [.slice a len cap] = some x) : ∃ cs, CutsIn W a cs ∧ cs.length = len ∧ len ≤ cap ∧ cap ≤ maxLen := by
  rcases open_slice Try.underlying22 h with ⟨h0, _⟩ | ⟨a', len', cap', m, n, D, Pl, hcs, hb, hl, hm, hmm, hxe, hx⟩
  · simp at h0
    obtain ⟨rfl, rfl, rfl⟩ := h0
    exact ⟨[], .inl rfl, rfl, Nat.le_refl _, Nat.zero_le _⟩
  · simp at hcs
    obtain ⟨rfl, rfl, rfl⟩ := hcs
    by_cases hz : len = 0
    · subst hz; exact ⟨[], .inl rfl, rfl, hl, hm⟩
    · have hlm : len ≤ m := by rw [hmm]; split <;> omega
      have n3 : Try.prog.cellsOf 25 = 3 := by kernel_rfl
      have n16 : Try.prog.cellsOf 23 = 1 := by kernel_rfl
      have n8 : Try.prog.cellsOf 5 = 1 := by kernel_rfl
      have each : ∀ i, i < len → ∃ o : Ct, W.cell? (a'.add (i * 3)) = some (.int .u16 o.1) ∧ W.cell? ((a'.add (i * 3)).add 1) = some (.int .u16 o.2.1) ∧ W.cell? ((a'.add (i * 3)).add 2) = some (.int .u8 o.2.2) ∧ CtOk o := by
        intro i hi
        obtain ⟨cs', h1, h2⟩ := hx i (by omega)
        rw [n3] at h1
        obtain ⟨_, hlen, hget⟩ := World.cells?_some h1
        obtain ⟨y0, y1, y2, n', hagg, _, g0, g1, g2⟩ := trod_struct3 Try.underlying25 h2
        match cs', hlen with
        | [c0, c1, c2], _ =>
          obtain ⟨k, e0, _, hk⟩ := DataW.trod_int Try.underlying23 (show DataW.trod enc Try.prog W base spare held _ 23 [c0] = some y0 by simpa [n16] using g0)
          obtain ⟨v, e1, _, hv⟩ := DataW.trod_int Try.underlying23 (show DataW.trod enc Try.prog W base spare held _ 23 [c1] = some y1 by simpa [n16] using g1)
          obtain ⟨u, e2, _, hu⟩ := DataW.trod_int Try.underlying5 (show DataW.trod enc Try.prog W base spare held _ 5 [c2] = some y2 by simpa [n8] using g2)
          simp only [List.cons.injEq, and_true] at e0 e1 e2
          refine ⟨(k, v, u), ?_, ?_, ?_, ⟨u16_wf hk, u16_wf hv, u8_wf hu⟩⟩
          · rw [← e0]
            have := hget 0 (by omega)
            simpa [Addr.add] using this
          · rw [← e1]; exact hget 1 (by omega)
          · rw [← e2]; exact hget 2 (by omega)
      obtain ⟨d0, hc0, _⟩ := each 0 (by omega)
      obtain ⟨b, off, spot⟩ := a'
      have hspot : spot = none := by
        have := World.cell?_spot hc0
        simpa [Addr.add] using this
      subst hspot
      obtain ⟨f, hf⟩ : ∃ f : Nat → Ct, ∀ i, i < len → W.cell? ((⟨b, off, none⟩ : Addr).add (i * 3)) = some (.int .u16 (f i).1) ∧ W.cell? (((⟨b, off, none⟩ : Addr).add (i * 3)).add 1) = some (.int .u16 (f i).2.1) ∧ W.cell? (((⟨b, off, none⟩ : Addr).add (i * 3)).add 2) = some (.int .u8 (f i).2.2) ∧ CtOk (f i) := by
        refine ⟨fun i => if h : i < len then Classical.choose (each i h) else (0, 0, 0), fun i hi => ?_⟩
        simp only [hi, dif_pos]
        exact Classical.choose_spec (each i hi)
      refine ⟨(List.range len).map f, .inr ⟨b, off, rfl, fun i hi => ?_⟩, by simp, hl, hm⟩
      simp only [List.length_map, List.length_range] at hi
      have hn : ctn ((List.range len).map f) i = f i := by simp [ctn, hi]
      have := hf i hi
      rw [addr_add, addr_add, addr_add] at this
      rw [hn]; exact ⟨this.1, this.2.1, this.2.2.1, this.2.2.2⟩

/-! ### what choices make -/
abbrev Mp := Int × List Sp
def rng (s : Int) (c : Ct) : Int × Int := (c.1 % s, c.1 % s + 1 + c.2.1 % (s - c.1 % s))
def stepM (s n : Int) (m : Mp) (c : Ct) : Mp :=
  if (splitE m.1 m.2 s n (rng s c).1 (rng s c).2 (c.2.2 % n)).2.2 = 0 then ((splitE m.1 m.2 s n (rng s c).1 (rng s c).2 (c.2.2 % n)).1, (splitE m.1 m.2 s n (rng s c).1 (rng s c).2 (c.2.2 % n)).2.1) else m
def ofM (s n : Int) (l : List Ct) : Mp := l.foldl (stepM s n) (1, [(0, 0)])
theorem ofM_snoc (s n : Int) (l : List Ct) (c : Ct) : ofM s n (l ++ [c]) = stepM s n (ofM s n l) c := by
  unfold ofM; rw [List.foldl_append]; rfl
/-- what a split answers is a map, where it answers well -/
theorem splitE_cases (ep : Int) (l : List Sp) (s n frm till node : Int) :
    (splitE ep l s n frm till node = (0, [], 120) ∧ mayB l s n frm till node = false) ∨
    (mayB l s n frm till node = true ∧ splitE ep l s n frm till node = (0, [], 3) ∧ 40 < (given l s frm till node).length) ∨
    (mayB l s n frm till node = true ∧ splitE ep l s n frm till node = ((ep + 1) % 4294967296, given l s frm till node, 0) ∧ (given l s frm till node).length ≤ 40) := by
  unfold splitE
  by_cases h : mayB l s n frm till node = true
  · rw [if_pos h]
    by_cases h4 : 40 < (given l s frm till node).length
    · exact .inr (.inl ⟨h, by rw [if_pos h4], h4⟩)
    · exact .inr (.inr ⟨h, by rw [if_neg h4], by omega⟩)
  · rw [if_neg h]
    exact .inl ⟨rfl, by simpa using h⟩
theorem given_snd {l : List Sp} {s n frm till node : Int} (h : May l s n frm till node) (h4 : (given l s frm till node).length ≤ 40) : Snd s n (given l s frm till node) := by
  obtain ⟨c1, c2, c3, _⟩ := given_all h.snd h.low h.lt h.le h.isn
  exact ⟨c1, c3, h4, c2⟩
structure MOk (s n : Int) (m : Mp) : Prop where
  snd : Snd s n m.2
  ep : U32 m.1
theorem stepM_ok {s n : Int} {m : Mp} (h : MOk s n m) (c : Ct) : MOk s n (stepM s n m c) := by
  unfold stepM
  rcases splitE_cases m.1 m.2 s n (rng s c).1 (rng s c).2 (c.2.2 % n) with ⟨e, _⟩ | ⟨_, e, _⟩ | ⟨hm, e, h4⟩
  · rw [e, if_neg (by simp)]; exact h
  · rw [e, if_neg (by simp)]; exact h
  · rw [e, if_pos rfl]
    exact ⟨given_snd (mayB_iff.1 hm) h4, by show U32 ((m.1 + 1) % 4294967296); unfold U32; omega⟩
theorem new_ok {s n : Int} (hs : 1 ≤ s) (hn : 1 ≤ n) : MOk s n (1, [(0, 0)]) :=
  ⟨⟨Can.snoc [] (0, 0) Can.nil (by simp) (fun _ => rfl) (fun t ht => by cases ht) (by decide), by simp, by simp, fun t ht => by
    rw [List.mem_singleton.1 ht]; simp; omega⟩, by show U32 1; unfold U32; omega⟩
theorem ofM_ok {s n : Int} (hs : 1 ≤ s) (hn : 1 ≤ n) (l : List Ct) : MOk s n (ofM s n l) := by
  have : ∀ (l : List Ct) (m : Mp), MOk s n m → MOk s n (l.foldl (stepM s n) m) := by
    intro l
    induction l with
    | nil => intro m h; exact h
    | cons c r ih => intro m h; exact ih _ (stepM_ok h c)
  exact this l _ (new_ok hs hn)
end Go.Proofs.Ytfhihkogdnbghaa.spans
