/-
  Facts, entries, spans and records that can be read in memory.
-/
import Derived.Test.YtlokamblbhooaaaCodeMem
namespace Go.Proofs.Ytlokamblbhooaaa.code
open Go.ChangeShapes Go.WideShapes Go.ChangeAt Go.RowKit Go.Deep
open Go.Proofs.Ytlokamblbhooaaa.dims (nth Ints cell_lt vals vals_len vals_get vals_one vals_app own_below own_mono own_out own_apart RowOut ret_bool ret_int)
set_option linter.unusedVariables false
set_option maxRecDepth 100000

/-- a fact: where its key lies, the key, its number -/
structure Ft where
  a : Option Addr
  cap : Nat
  k : List Int
  v : Int
def ftn (fs : List Ft) (i : Nat) : Ft := fs.getD i ⟨none, 0, [], 0⟩
theorem ftn_mem {fs : List Ft} {i : Nat} (h : i < fs.length) : ftn fs i ∈ fs := by simp [ftn, h]
theorem ftn_eq {fs : List Ft} {i : Nat} (h : i < fs.length) : ftn fs i = fs[i] := by simp [ftn, h]
def pf (f : Ft) : PFact := (f.k, f.v)
def ftV (f : Ft) : Value := .agg #[.slice f.a f.k.length f.cap, .int .i64 f.v]
structure FtOk (w : World) (f : Ft) : Prop where
  mem : Ints w f.a f.k
  len : f.k.length ≤ 9223372036854775807
  key : ∀ x ∈ f.k, I64 x
  num : I64 f.v
theorem FtOk.keep {w w1 : World} {f : Ft} (h : FtOk w f) (hb : Below w.heap.size w w1) : FtOk w1 f := ⟨h.mem.keep hb, h.len, h.key, h.num⟩
def FactsIn (w : World) (a : Option Addr) (fs : List Ft) : Prop :=
  fs = [] ∨ ∃ b off, a = some ⟨b, off, none⟩ ∧ ∀ i, i < fs.length → w.cell? ⟨b, off + i * 2, none⟩ = some (.slice (ftn fs i).a (ftn fs i).k.length (ftn fs i).cap) ∧ w.cell? ⟨b, off + i * 2 + 1, none⟩ = some (.int .i64 (ftn fs i).v) ∧ FtOk w (ftn fs i)
theorem FactsIn.keep {w w1 : World} {a : Option Addr} {fs : List Ft} (h : FactsIn w a fs) (hb : Below w.heap.size w w1) : FactsIn w1 a fs := by
  rcases h with h | ⟨b, off, ha, hc⟩
  · exact .inl h
  · refine .inr ⟨b, off, ha, fun i hi => ?_⟩
    obtain ⟨h1, h2, h3⟩ := hc i hi
    exact ⟨(hb.cell (p := ⟨b, off + i * 2, none⟩) (cell_lt h1)).trans h1, (hb.cell (p := ⟨b, off + i * 2 + 1, none⟩) (cell_lt h2)).trans h2, h3.keep hb⟩
theorem FactsIn.get {w : World} {a : Option Addr} {fs : List Ft} (h : FactsIn w a fs) {k : Nat} (hk : k < fs.length) : ∃ b off, a = some ⟨b, off, none⟩ ∧ ∀ i, i < fs.length → w.cell? ⟨b, off + i * 2, none⟩ = some (.slice (ftn fs i).a (ftn fs i).k.length (ftn fs i).cap) ∧ w.cell? ⟨b, off + i * 2 + 1, none⟩ = some (.int .i64 (ftn fs i).v) ∧ FtOk w (ftn fs i) := by
  rcases h with rfl | h
  · simp at hk
  · exact h
theorem FactsIn.ok {w : World} {a : Option Addr} {fs : List Ft} (h : FactsIn w a fs) : ∀ f ∈ fs, FtOk w f := fun f hf => by
  obtain ⟨i, hi, rfl⟩ := List.mem_iff_getElem.1 hf
  obtain ⟨b, off, -, hc⟩ := h.get hi
  rw [← ftn_eq hi]; exact (hc i hi).2.2

/-- an entry: its time, where its facts lie, the facts -/
structure Et where
  t : Int
  a : Option Addr
  cap : Nat
  fs : List Ft
def etn (es : List Et) (i : Nat) : Et := es.getD i ⟨0, none, 0, []⟩
theorem etn_mem {es : List Et} {i : Nat} (h : i < es.length) : etn es i ∈ es := by simp [etn, h]
theorem etn_eq {es : List Et} {i : Nat} (h : i < es.length) : etn es i = es[i] := by simp [etn, h]
def pe (e : Et) : PEnt := (e.t, e.fs.map pf)
def etV (e : Et) : Value := .agg #[.int .u32 e.t, .slice e.a e.fs.length e.cap]
structure EtOk (w : World) (e : Et) : Prop where
  mem : FactsIn w e.a e.fs
  len : e.fs.length ≤ 9223372036854775807
  num : U32 e.t
theorem EtOk.keep {w w1 : World} {f : Et} (h : EtOk w f) (hb : Below w.heap.size w w1) : EtOk w1 f := ⟨h.mem.keep hb, h.len, h.num⟩
def EntsIn (w : World) (a : Option Addr) (es : List Et) : Prop :=
  es = [] ∨ ∃ b off, a = some ⟨b, off, none⟩ ∧ ∀ i, i < es.length → w.cell? ⟨b, off + i * 2, none⟩ = some (.int .u32 (etn es i).t) ∧ w.cell? ⟨b, off + i * 2 + 1, none⟩ = some (.slice (etn es i).a (etn es i).fs.length (etn es i).cap) ∧ EtOk w (etn es i)
theorem EntsIn.keep {w w1 : World} {a : Option Addr} {es : List Et} (h : EntsIn w a es) (hb : Below w.heap.size w w1) : EntsIn w1 a es := by
  rcases h with h | ⟨b, off, ha, hc⟩
  · exact .inl h
  · refine .inr ⟨b, off, ha, fun i hi => ?_⟩
    obtain ⟨h1, h2, h3⟩ := hc i hi
    exact ⟨(hb.cell (p := ⟨b, off + i * 2, none⟩) (cell_lt h1)).trans h1, (hb.cell (p := ⟨b, off + i * 2 + 1, none⟩) (cell_lt h2)).trans h2, h3.keep hb⟩
theorem EntsIn.get {w : World} {a : Option Addr} {es : List Et} (h : EntsIn w a es) {k : Nat} (hk : k < es.length) : ∃ b off, a = some ⟨b, off, none⟩ ∧ ∀ i, i < es.length → w.cell? ⟨b, off + i * 2, none⟩ = some (.int .u32 (etn es i).t) ∧ w.cell? ⟨b, off + i * 2 + 1, none⟩ = some (.slice (etn es i).a (etn es i).fs.length (etn es i).cap) ∧ EtOk w (etn es i) := by
  rcases h with rfl | h
  · simp at hk
  · exact h
theorem EntsIn.ok {w : World} {a : Option Addr} {es : List Et} (h : EntsIn w a es) : ∀ f ∈ es, EtOk w f := fun f hf => by
  obtain ⟨i, hi, rfl⟩ := List.mem_iff_getElem.1 hf
  obtain ⟨b, off, -, hc⟩ := h.get hi
  rw [← etn_eq hi]; exact (hc i hi).2.2

def spn (ss : List PSpan) (i : Nat) : PSpan := ss.getD i (0, 0)
theorem spn_mem {ss : List PSpan} {i : Nat} (h : i < ss.length) : spn ss i ∈ ss := by simp [spn, h]
theorem spn_eq {ss : List PSpan} {i : Nat} (h : i < ss.length) : spn ss i = ss[i] := by simp [spn, h]
def spV (s : PSpan) : Value := .agg #[.int .i64 s.1, .int .i64 s.2]
def SpansIn (w : World) (a : Option Addr) (ss : List PSpan) : Prop :=
  ss = [] ∨ ∃ b off, a = some ⟨b, off, none⟩ ∧ ∀ i, i < ss.length → w.cell? ⟨b, off + i * 2, none⟩ = some (.int .i64 (spn ss i).1) ∧ w.cell? ⟨b, off + i * 2 + 1, none⟩ = some (.int .i64 (spn ss i).2) ∧ I64 (spn ss i).1 ∧ I64 (spn ss i).2
theorem SpansIn.keep {w w1 : World} {a : Option Addr} {ss : List PSpan} (h : SpansIn w a ss) (hb : Below w.heap.size w w1) : SpansIn w1 a ss := by
  rcases h with h | ⟨b, off, ha, hc⟩
  · exact .inl h
  · refine .inr ⟨b, off, ha, fun i hi => ?_⟩
    obtain ⟨h1, h2, h3⟩ := hc i hi
    exact ⟨(hb.cell (p := ⟨b, off + i * 2, none⟩) (cell_lt h1)).trans h1, (hb.cell (p := ⟨b, off + i * 2 + 1, none⟩) (cell_lt h2)).trans h2, h3⟩
theorem SpansIn.get {w : World} {a : Option Addr} {ss : List PSpan} (h : SpansIn w a ss) {k : Nat} (hk : k < ss.length) : ∃ b off, a = some ⟨b, off, none⟩ ∧ ∀ i, i < ss.length → w.cell? ⟨b, off + i * 2, none⟩ = some (.int .i64 (spn ss i).1) ∧ w.cell? ⟨b, off + i * 2 + 1, none⟩ = some (.int .i64 (spn ss i).2) ∧ I64 (spn ss i).1 ∧ I64 (spn ss i).2 := by
  rcases h with rfl | h
  · simp at hk
  · exact h

/-- a record: its numbers, and where its lists lie -/
structure Rc where
  kind : Int
  id : Int
  at_ : Int
  na : Option Addr
  nc : Nat
  nodes : List Int
  fa : Option Addr
  fc : Nat
  facts : List Ft
  epoch : Int
  sa : Option Addr
  sc : Nat
  spans : List PSpan
  frm : Int
  til : Int
  ea : Option Addr
  ec : Nat
  ents : List Et
def rcC (r : Rc) : Array Value := #[.int .u8 r.kind, .int .u32 r.id, .int .u32 r.at_, .slice r.na r.nodes.length r.nc, .slice r.fa r.facts.length r.fc, .int .u32 r.epoch, .slice r.sa r.spans.length r.sc, .int .i64 r.frm, .int .i64 r.til, .slice r.ea r.ents.length r.ec]
def rcV (r : Rc) : Value := .agg (rcC r)
def pr (r : Rc) : PRec := ⟨r.kind, r.id, r.at_, r.nodes, r.facts.map pf, r.epoch, r.spans, r.frm, r.til, r.ents.map pe⟩
structure RecIn (w : World) (r : Rc) : Prop where
  kind : 0 ≤ r.kind ∧ r.kind ≤ 255
  id : U32 r.id
  at_ : U32 r.at_
  nodes : Ints w r.na r.nodes
  nlen : r.nodes.length ≤ 9223372036854775807
  nok : ∀ x ∈ r.nodes, I64 x
  facts : FactsIn w r.fa r.facts
  flen : r.facts.length ≤ 9223372036854775807
  epoch : U32 r.epoch
  spans : SpansIn w r.sa r.spans
  slen : r.spans.length ≤ 9223372036854775807
  frm : I64 r.frm
  til : I64 r.til
  ents : EntsIn w r.ea r.ents
  elen : r.ents.length ≤ 9223372036854775807
theorem RecIn.keep {w w1 : World} {r : Rc} (h : RecIn w r) (hb : Below w.heap.size w w1) : RecIn w1 r :=
  ⟨h.kind, h.id, h.at_, h.nodes.keep hb, h.nlen, h.nok, h.facts.keep hb, h.flen, h.epoch, h.spans.keep hb, h.slen, h.frm, h.til, h.ents.keep hb, h.elen⟩
theorem RecIn.typed {w : World} {r : Rc} (h : RecIn w r) : Typed (pr r) := by
  refine ⟨h.kind, h.id, h.at_, h.epoch, fun f hf => ?_, fun e he => ?_⟩
  · obtain ⟨f', hf', rfl⟩ := List.mem_map.1 hf
    exact (h.facts.ok f' hf').num
  · obtain ⟨e', he', rfl⟩ := List.mem_map.1 he
    refine ⟨(h.ents.ok e' he').num, fun f hf => ?_⟩
    obtain ⟨f', hf', rfl⟩ := List.mem_map.1 hf
    exact ((h.ents.ok e' he').mem.ok f' hf').num
theorem nth_mem {l : List Int} {i : Nat} (h : i < l.length) : nth l i ∈ l := by simp [nth, h]
theorem nth_eq {l : List Int} {i : Nat} (h : i < l.length) : nth l i = l[i] := by simp [nth, h]
theorem take_nth (l : List Int) (k : Nat) (h : k < l.length) : l.take (k + 1) = l.take k ++ [nth l k] := by rw [List.take_succ_eq_append_getElem h, nth_eq h]
theorem take_ftn (l : List Ft) (k : Nat) (h : k < l.length) : l.take (k + 1) = l.take k ++ [ftn l k] := by rw [List.take_succ_eq_append_getElem h, ftn_eq h]
theorem take_etn (l : List Et) (k : Nat) (h : k < l.length) : l.take (k + 1) = l.take k ++ [etn l k] := by rw [List.take_succ_eq_append_getElem h, etn_eq h]
theorem take_spn (l : List PSpan) (k : Nat) (h : k < l.length) : l.take (k + 1) = l.take k ++ [spn l k] := by rw [List.take_succ_eq_append_getElem h, spn_eq h]
theorem flat_take {α : Type} (enc : α → List UInt8) (l : List α) (k : Nat) : ((l.take k).flatMap enc).length ≤ (l.flatMap enc).length := by
  conv => rhs; rw [← List.take_append_drop k l, List.flatMap_append, List.length_append]
  omega
end Go.Proofs.Ytlokamblbhooaaa.code
