/-
  What was read can be read: a record of a call's own, as a record in memory.
-/
import Derived.Test.YtlokamblbhooaaaCodeReadRec
namespace Go.Proofs.Ytlokamblbhooaaa.code
open Go.ChangeShapes Go.WideShapes Go.ChangeAt Go.RowKit Go.Deep
open Go.Proofs.Ytlokamblbhooaaa.dims (nth Ints cell_lt vals vals_len vals_get vals_one vals_app own_below own_mono own_out own_apart RowOut ret_bool ret_int)
set_option linter.unusedVariables false
set_option maxRecDepth 100000

theorem flat_two {α : Type} {f : α → List Value} (hf : ∀ x, (f x).length = 2) : ∀ (l : List α) (i j : Nat) (hi : i < l.length), j < 2 → (l.flatMap f)[i * 2 + j]? = (f (l[i]))[j]?
  | [], i, j, hi, _ => by simp at hi
  | x :: l, 0, j, hi, hj => by
    rw [List.flatMap_cons, List.getElem?_append_left (by rw [hf]; omega)]
    simp
  | x :: l, i + 1, j, hi, hj => by
    rw [List.flatMap_cons, List.getElem?_append_right (by rw [hf]; omega), hf]
    rw [show (i + 1) * 2 + j - 2 = i * 2 + j by omega, flat_two hf l i j (by simpa using hi) hj]
    simp
theorem row_two {α : Type} {f : α → List Value} (hf : ∀ x, (f x).length = 2) {W : World} {B : Nat} {e : TypeId} {a : Option Addr} {c : Nat} {l : List α} (h : W.ownsRow B e 2 (.slice a l.length c) l.length (l.flatMap f)) :
    l = [] ∨ ∃ b, a = some ⟨b, 0, none⟩ ∧ ∀ i (hi : i < l.length), W.cell? ⟨b, i * 2, none⟩ = (f (l[i]))[0]? ∧ W.cell? ⟨b, i * 2 + 1, none⟩ = (f (l[i]))[1]? := by
  rcases h.2 with ⟨_, h0⟩ | ⟨g, cap, cur, hv, _, _, hc, hm, _⟩
  · exact .inl (List.eq_nil_of_length_eq_zero h0)
  · simp only [Value.slice.injEq] at hv
    obtain ⟨rfl, -, rfl⟩ := hv
    refine .inr ⟨g, rfl, fun i hi => ⟨?_, ?_⟩⟩
    · have := World.ownsRow.cellAt h (i * 2) (by omega)
      rw [this]
      exact flat_two hf l i 0 hi (by omega)
    · have := World.ownsRow.cellAt h (i * 2 + 1) (by omega)
      rw [this]
      exact flat_two hf l i 1 hi (by omega)
theorem own_len {W : World} {B s n c : Nat} {e : TypeId} {a : Option Addr} {xs : List Value} (h : W.ownsRow B e s (.slice a n c) n xs) : n ≤ 9223372036854775807 := by
  rcases h.2 with ⟨_, h0⟩ | ⟨g, cap, cur, hv, _, _, hc, hm, _⟩
  · omega
  · have : maxLen ≤ 9223372036854775807 := by unfold maxLen; omega
    omega
theorem NsOwn.ints {B c : Nat} {W : World} {a : Option Addr} {l : List Int} (h : NsOwn B W (.slice a l.length c) l) : Ints W a l := by
  obtain ⟨a2, cap, e, hI, -⟩ := (own_out h.own).1
  simp only [Value.slice.injEq] at e
  rw [e.1]; exact hI
theorem FtOwn.ok {B : Nat} {W : World} {f : Ft} (h : FtOwn B W f) : FtOk W f := ⟨NsOwn.ints (B := B) (c := f.cap) ⟨h.own, h.key⟩, own_len h.own, h.key, h.num⟩
theorem FsOwn.facts {B c : Nat} {W : World} {a : Option Addr} {fs : List Ft} (h : FsOwn B W (.slice a fs.length c) fs) : FactsIn W a fs := by
  rcases row_two (f := factC) (fun _ => rfl) h.own with h0 | ⟨b, ha, hc⟩
  · exact .inl h0
  · refine .inr ⟨b, 0, ha, fun i hi => ?_⟩
    obtain ⟨c1, c2⟩ := hc i hi
    rw [Nat.zero_add, ftn_eq hi]
    exact ⟨c1, c2, (h.all _ (List.getElem_mem hi)).ok⟩
theorem EtOwn.ok {B : Nat} {W : World} {e : Et} (h : EtOwn B W e) : EtOk W e := ⟨h.own.facts, own_len h.own.own, h.num⟩
theorem EsOwn.ents {B c : Nat} {W : World} {a : Option Addr} {es : List Et} (h : EsOwn B W (.slice a es.length c) es) : EntsIn W a es := by
  rcases row_two (f := entC) (fun _ => rfl) h.own with h0 | ⟨b, ha, hc⟩
  · exact .inl h0
  · refine .inr ⟨b, 0, ha, fun i hi => ?_⟩
    obtain ⟨c1, c2⟩ := hc i hi
    rw [Nat.zero_add, etn_eq hi]
    exact ⟨c1, c2, (h.all _ (List.getElem_mem hi)).ok⟩
theorem SsOwn.spans {B c : Nat} {W : World} {a : Option Addr} {ss : List PSpan} (h : SsOwn B W (.slice a ss.length c) ss) : SpansIn W a ss := by
  rcases row_two (f := spanC) (fun _ => rfl) h.own with h0 | ⟨b, ha, hc⟩
  · exact .inl h0
  · refine .inr ⟨b, 0, ha, fun i hi => ?_⟩
    obtain ⟨c1, c2⟩ := hc i hi
    rw [Nat.zero_add, spn_eq hi]
    exact ⟨c1, c2, h.all _ (List.getElem_mem hi)⟩
theorem RcOwn.recIn {B : Nat} {W : World} {r : Rc} (h : RcOwn B W r) : RecIn W r :=
  ⟨h.kind, h.id, h.at_, h.nodes.ints, own_len h.nodes.own, h.nodes.all, h.facts.facts, own_len h.facts.own, h.epoch, h.spans.spans, own_len h.spans.own, h.frm, h.til, h.ents.ents, own_len h.ents.own⟩
end Go.Proofs.Ytlokamblbhooaaa.code
