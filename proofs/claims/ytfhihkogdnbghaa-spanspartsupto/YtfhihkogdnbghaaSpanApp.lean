/-
  'append(a, b...)' of spans, of numbers and of facts, b empty or not: one law each.
-/
import Derived.Test.YtfhihkogdnbghaaSpanMem
import Derived.Deep.AppendLies
import Derived.Laws.AppendOwnNone
import Derived.Test.YtfhihkogdnbghaaByteGrow
namespace Go.Proofs.Ytfhihkogdnbghaa.spans
open Go.ChangeShapes Go.WideShapes Go.ChangeAt Go.RowKit Go.Deep
open Go.Proofs.Ytfhihkogdnbghaa.bytes (ret_bool hid nth addr_add cell_lt own_below own_mono wpList_append_zero)
set_option linter.unusedVariables false
set_option maxRecDepth 100000
set_option linter.unusedSimpArgs false

/-- new numbers of a call's own -/
def IntsOwn (B : Nat) (w : World) (v : Value) (l : List Int) : Prop := w.ownsRow B 3 1 v l.length (vals l)
theorem IntsOwn.nil (B : Nat) (w : World) : IntsOwn B w (.slice none 0 0) [] := World.ownsRow_nil _ _ _ _
theorem IntsOwn.keep {B : Nat} {w w' : World} {v : Value} {l : List Int} (h : IntsOwn B w v l) (hb : Below w.heap.size w w') : IntsOwn B w' v l := own_below h hb
theorem IntsOwn.mono {B B' : Nat} {w : World} {v : Value} {l : List Int} (h : IntsOwn B w v l) (hb : B' ≤ B) : IntsOwn B' w v l := own_mono h hb
theorem own_form {w : World} {B : Nat} {t : TypeId} {k n : Nat} {v : Value} {cs : List Value} (h : w.ownsRow B t k v n cs) : ∃ a c, v = .slice a n c := by
  rcases h.2 with ⟨hv, h0⟩ | ⟨g, cap, cur, hv, _⟩
  · exact ⟨none, 0, by rw [hv, h0]⟩
  · exact ⟨_, _, hv⟩
/-- what a growing row leaves below its base -/
theorem own_bel {w w' : World} {B B0 : Nat} {t : TypeId} {k n : Nat} {v : Value} {cs : List Value} (h : w.ownsRow B t k v n cs) (hg : w.grownBy w' v.ownBlock) (hB : B0 ≤ B) (hB2 : B0 ≤ w.heap.size) : Below B0 w w' :=
  (Below.refl _ w).grown hg hB2 fun q hq => Nat.le_trans hB (h.lt q hq).1

theorem news_span {w : World} {b off : Nat} {y : List Sp} (hc : ∀ i, i < y.length → w.cell? ⟨b, off + i * 2, none⟩ = some (.int .i64 (spn y i).1) ∧ w.cell? ⟨b, off + i * 2 + 1, none⟩ = some (.int .i64 (spn y i).2) ∧ I64 (spn y i).1 ∧ I64 (spn y i).2) :
    ∀ j u, (flatS y)[j]? = some u → w.cell? ((⟨b, off, none⟩ : Addr).add j) = some u := fun j u hj => by
  have hjl : j < y.length * 2 := by rw [← flatS_len]; exact (List.getElem?_eq_some_iff.1 hj).1
  obtain ⟨i, hi⟩ : ∃ i, i = j / 2 := ⟨_, rfl⟩
  have hil : i < y.length := by omega
  obtain ⟨h1, h2, -, -⟩ := hc i hil
  obtain ⟨e1, e2⟩ := flatS_get y i hil
  rw [addr_add]
  by_cases h0 : j = i * 2
  · rw [h0] at hj ⊢
    rw [e1] at hj
    rw [← hj]; exact h1
  · have h3 : j = i * 2 + 1 := by omega
    rw [h3] at hj ⊢
    rw [e2] at hj
    rw [← hj]; exact h2
theorem wpList_spans {w : World} {ops : Array Oper} {rest : List Oper} {o : Oper} {a : Act} {Q : Exit → Act → World → Prop} (hgd : o.guard = none) (s x : Operand)
    (ho : o.op = .call { callee := .builtin .append, args := #[s, x], argTypes := #[27, 27] })
    (B : Nat) (v : Value) (l : List Sp) (hs : a.eval s = v) (hown : So B w v l) (ad : Option Addr) (m c : Nat) (y : List Sp) (hx : a.eval x = .slice ad m c) (hS : SpansIn w ad y) (hym : y.length = m) (q : Nat) (hq : l.length + m = q) (hlen : q ≤ 100000000) (hB : B ≤ w.heap.size)
    (h : ∀ a' c' w', So B w' (.slice a' q c') (l ++ y) → w.grownBy w' v.ownBlock → wpList Try.prog ops Q rest (a.put o.dst (.slice a' q c')) w') : wpList Try.prog ops Q (o :: rest) a w := by
  obtain ⟨i0, hi, hz0, hz1, hz2⟩ := info_parts info_span
  subst hq
  by_cases h0 : m = 0
  · subst h0
    have hy : y = [] := List.eq_nil_of_length_eq_zero hym
    subst hy
    rw [List.append_nil] at h
    refine wpList_append_zero hgd s x 27 ho B 38 i0 2 Try.underlying27 hi v l.length _ hs hown ad c hx ?_
    obtain ⟨a', c', rfl⟩ := own_form hown
    exact h a' c' w hown (World.grownBy.refl _ _)
  · obtain ⟨b, off, rfl, hc⟩ := hS.get (k := 0) (by omega)
    refine wpList_append_lies w hgd s x 27 ho B 38 i0 _ 2 16 Try.underlying27 hi hz0 hz1 hz2 rfl (by decide) v l.length _ hs hown ⟨b, off, none⟩ m c (flatS y) hx (by rw [flatS_len, hym]) (news_span hc) (flatS_one y) (by omega) (by unfold maxLen; omega) (by omega) hB _ rfl ?_
    intro g cap w3 hown3 hg3 _ _
    refine h (some ⟨g, 0, none⟩) cap w3 ?_ hg3
    unfold So
    rw [flatS_app, List.length_append, hym]
    exact hown3

theorem wpList_ints {w : World} {ops : Array Oper} {rest : List Oper} {o : Oper} {a : Act} {Q : Exit → Act → World → Prop} (hgd : o.guard = none) (s x : Operand)
    (ho : o.op = .call { callee := .builtin .append, args := #[s, x], argTypes := #[31, 31] })
    (B : Nat) (v : Value) (l : List Int) (hs : a.eval s = v) (hown : IntsOwn B w v l) (ad : Option Addr) (m c : Nat) (y : List Int) (hx : a.eval x = .slice ad m c) (hS : Ints w ad y) (hym : y.length = m) (q : Nat) (hq : l.length + m = q) (hlen : q * 8 ≤ 140737488355328) (hB : B ≤ w.heap.size)
    (h : ∀ a' c' w', IntsOwn B w' (.slice a' q c') (l ++ y) → w.grownBy w' v.ownBlock → wpList Try.prog ops Q rest (a.put o.dst (.slice a' q c')) w') : wpList Try.prog ops Q (o :: rest) a w := by
  obtain ⟨i0, hi, hz0, hz1, hz2⟩ := info_parts info_int
  subst hq
  by_cases h0 : m = 0
  · subst h0
    have hy : y = [] := List.eq_nil_of_length_eq_zero hym
    subst hy
    rw [List.append_nil] at h
    refine wpList_append_zero hgd s x 31 ho B 3 i0 1 Try.underlying31 hi v l.length _ hs hown ad c hx ?_
    obtain ⟨a', c', rfl⟩ := own_form hown
    exact h a' c' w hown (World.grownBy.refl _ _)
  · obtain ⟨b, off, rfl, hc⟩ := hS.get (k := 0) (by omega)
    refine wpList_append_lies w hgd s x 31 ho B 3 i0 _ 1 8 Try.underlying31 hi hz0 hz1 hz2 rfl (by decide) v l.length _ hs hown ⟨b, off, none⟩ m c (vals y) hx (by rw [vals_len, hym]; omega) (fun j u hj => by
      have hjl : j < y.length := by rw [← vals_len]; exact (List.getElem?_eq_some_iff.1 hj).1
      rw [vals_get hjl] at hj
      rw [addr_add, ← hj]; exact hc j hjl) (vals_one y) (by omega) (by unfold maxLen; omega) (by omega) hB _ rfl ?_
    intro g cap w3 hown3 hg3 _ _
    refine h (some ⟨g, 0, none⟩) cap w3 ?_ hg3
    unfold IntsOwn
    rw [List.length_append, hym, show vals (l ++ y) = vals l ++ vals y by simp [vals]]
    exact hown3

/-! ### facts of a call's own -/
def flatF (fs : List Ft) : List Value := fs.flatMap fun f => [.slice f.a f.k.length f.cap, .int .i64 f.v]
theorem flatF_app (l m : List Ft) : flatF (l ++ m) = flatF l ++ flatF m := by simp [flatF]
theorem flatF_len (l : List Ft) : (flatF l).length = l.length * 2 := by
  induction l with
  | nil => rfl
  | cons s r ih =>
    have : flatF (s :: r) = [.slice s.a s.k.length s.cap, .int .i64 s.v] ++ flatF r := rfl
    rw [this, List.length_append, ih, List.length_cons]; simp; omega
theorem flatF_get : ∀ (l : List Ft) (i : Nat), i < l.length → (flatF l)[i * 2]? = some (.slice (ftn l i).a (ftn l i).k.length (ftn l i).cap) ∧ (flatF l)[i * 2 + 1]? = some (.int .i64 (ftn l i).v)
  | [], i, h => by simp at h
  | s :: r, 0, _ => ⟨rfl, rfl⟩
  | s :: r, i + 1, h => by
    have ih := flatF_get r i (by simpa using h)
    have e : flatF (s :: r) = .slice s.a s.k.length s.cap :: .int .i64 s.v :: flatF r := rfl
    rw [show (i + 1) * 2 = i * 2 + 1 + 1 by omega, e]
    exact ih
theorem flatF_one (l : List Ft) : ∀ u ∈ flatF l, u.oneCell' = true := by
  intro u hu
  obtain ⟨s, _, hs⟩ := List.mem_flatMap.1 hu
  simp at hs
  rcases hs with rfl | rfl <;> rfl
def Fo (B : Nat) (w : World) (v : Value) (l : List Ft) : Prop := w.ownsRow B 56 2 v l.length (flatF l)
theorem Fo.nil (B : Nat) (w : World) : Fo B w (.slice none 0 0) [] := World.ownsRow_nil _ _ _ _
theorem Fo.keep {B : Nat} {w w' : World} {v : Value} {l : List Ft} (h : Fo B w v l) (hb : Below w.heap.size w w') : Fo B w' v l := own_below h hb
theorem Fo.mono {B B' : Nat} {w : World} {v : Value} {l : List Ft} (h : Fo B w v l) (hb : B' ≤ B) : Fo B' w v l := own_mono h hb
theorem Fo.out {B : Nat} {w : World} {v : Value} {l : List Ft} (h : Fo B w v l) (ht : ∀ f ∈ l, FtOk w f) : ∃ a c, v = .slice a l.length c ∧ FactsIn w a l ∧ l.length ≤ c ∧ c ≤ maxLen := by
  rcases h.2 with ⟨hv, h0⟩ | ⟨g, cap, cur, hv, _, hgb, hc, hcm, _⟩
  · have : l = [] := List.eq_nil_of_length_eq_zero h0
    subst this
    exact ⟨none, 0, hv, .inl rfl, Nat.le_refl _, by unfold maxLen; omega⟩
  · refine ⟨_, cap, hv, .inr ⟨g, 0, rfl, fun i hi => ?_⟩, hc, hcm⟩
    have hx := World.ownsRow.cells h (g := g) (by rw [hv]; rfl)
    obtain ⟨e1, e2⟩ := flatF_get l i hi
    have h1 := hx (i * 2) _ e1
    have h2 := hx (i * 2 + 1) _ e2
    rw [addr_add] at h1 h2
    exact ⟨h1, by rw [show 0 + i * 2 + 1 = 0 + (i * 2 + 1) by omega]; exact h2, ht _ (ftn_mem hi)⟩
theorem news_fact {w : World} {b off : Nat} {y : List Ft} (hc : ∀ i, i < y.length → w.cell? ⟨b, off + i * 2, none⟩ = some (.slice (ftn y i).a (ftn y i).k.length (ftn y i).cap) ∧ w.cell? ⟨b, off + i * 2 + 1, none⟩ = some (.int .i64 (ftn y i).v)) :
    ∀ j u, (flatF y)[j]? = some u → w.cell? ((⟨b, off, none⟩ : Addr).add j) = some u := fun j u hj => by
  have hjl : j < y.length * 2 := by rw [← flatF_len]; exact (List.getElem?_eq_some_iff.1 hj).1
  obtain ⟨i, hi⟩ : ∃ i, i = j / 2 := ⟨_, rfl⟩
  have hil : i < y.length := by omega
  obtain ⟨h1, h2⟩ := hc i hil
  obtain ⟨e1, e2⟩ := flatF_get y i hil
  rw [addr_add]
  by_cases h0 : j = i * 2
  · rw [h0] at hj ⊢
    rw [e1] at hj
    rw [← hj]; exact h1
  · have h3 : j = i * 2 + 1 := by omega
    rw [h3] at hj ⊢
    rw [e2] at hj
    rw [← hj]; exact h2
/-- one fact more -/
theorem wpList_fact {w : World} {ops : Array Oper} {rest : List Oper} {o : Oper} {a : Act} {Q : Exit → Act → World → Prop} (hgd : o.guard = none) (s x : Operand)
    (ho : o.op = .call { callee := .builtin .append, args := #[s, x], argTypes := #[46, 46] })
    (B : Nat) (v : Value) (l : List Ft) (hs : a.eval s = v) (hown : Fo B w v l) (b : Nat) (f : Ft) (hx : a.eval x = .slice (some ⟨b, 0, none⟩) 1 1) (hc0 : w.cell? ⟨b, 0, none⟩ = some (.slice f.a f.k.length f.cap)) (hc1 : w.cell? ⟨b, 1, none⟩ = some (.int .i64 f.v)) (q : Nat) (hq : l.length + 1 = q) (hlen : q ≤ 100000000) (hB : B ≤ w.heap.size)
    (h : ∀ a' c' w', Fo B w' (.slice a' q c') (l ++ [f]) → w.grownBy w' v.ownBlock → wpList Try.prog ops Q rest (a.put o.dst (.slice a' q c')) w') : wpList Try.prog ops Q (o :: rest) a w := by
  obtain ⟨i0, hi, hz0, hz1, hz2⟩ := info_parts info_fact
  subst hq
  refine wpList_append_lies w hgd s x 46 ho B 56 i0 _ 2 32 Try.underlying46 hi hz0 hz1 hz2 rfl (by decide) v l.length _ hs hown ⟨b, 0, none⟩ 1 1 (flatF [f]) hx rfl (news_fact fun i hi => ?_) (flatF_one _) (by omega) (by unfold maxLen; omega) (by omega) hB _ rfl ?_
  · obtain rfl : i = 0 := by simpa using hi
    exact ⟨hc0, hc1⟩
  · intro g cap w3 hown3 hg3 _ _
    refine h (some ⟨g, 0, none⟩) cap w3 ?_ hg3
    unfold Fo
    rw [flatF_app, List.length_append]
    exact hown3
end Go.Proofs.Ytfhihkogdnbghaa.spans
