/-
 Bytes of a call's own; facts, entries, spans and records in memory.
 Facts, entries, spans and records that can be read in memory.
 The program's reader: what it holds; its take.
 Numbers read: the program's read at each of its types.
 What a reader has read: lists in memory of the call's own.
 The function that Decode defers.
-/
import Derived.Test.YtlcjllgfpfldlaaDimsRows
import Derived.Test.YtlcjllgfpfldlaaWalJ15K
import Derived.Laws.IdiomStrings
import Derived.Lib.SmallJoins
import Derived.Deep.AppendLies
import Derived.Laws.Bits64b
import Derived.Defers
import Derived.Recover
namespace Go.Proofs.Ytlcjllgfpfldlaa.code
open Go.ChangeShapes Go.WideShapes Go.ChangeAt Go.RowKit Go.Deep
open Go.Proofs.Ytlcjllgfpfldlaa.dims (nth Ints cell_lt vals vals_len vals_get own_below own_mono own_out RowOut ret_bool)
set_option linter.unusedVariables false
set_option maxRecDepth 100000

/-- bytes of a call's own -/
def Bs (B : Nat) (w : World) (v : Value) (l : List UInt8) : Prop := w.ownsRow B 5 1 v l.length (Lib.byteCells l)
/-- nothing but the row and new memory has changed; the row is where it was, or in new memory -/
structure Gr (w : World) (v : Value) (w' : World) (v' : Value) : Prop where
 grown : w.grownBy w' v.ownBlock
 row : ∀ g, v'.ownBlock = some g → v.ownBlock = some g ∨ w.heap.size ≤ g
theorem Gr.refl (w : World) (v : Value) : Gr w v w v := ⟨⟨rfl, rfl, rfl, Nat.le_refl _, fun _ _ _ => rfl⟩, fun g h => .inl h⟩
theorem Gr.trans {w w1 w2 : World} {v v1 v2 : Value} (h : Gr w v w1 v1) (k : Gr w1 v1 w2 v2) : Gr w v w2 v2 := by
 refine ⟨⟨k.grown.os.trans h.grown.os, k.grown.tape.trans h.grown.tape, k.grown.output.trans h.grown.output, Nat.le_trans h.grown.size k.grown.size, fun g hg hne => ?_⟩, fun g hg => ?_⟩
 ·rw [k.grown.block g (Nat.lt_of_lt_of_le hg h.grown.size) ?_, h.grown.block g hg hne]
  intro e
  rcases h.row g e.symm with h1 | h1
  ·exact hne h1.symm
  ·omega
 ·rcases k.row g hg with h1 | h1
  ·exact h.row g h1
  ·exact .inr (Nat.le_trans h.grown.size h1)
theorem Gr.of_below {w w' : World} (v : Value) (hb : Below w.heap.size w w') : Gr w v w' v := ⟨⟨hb.os, hb.tape, hb.output, hb.size, fun i hi _ => hb.block i hi⟩, fun g h => .inl h⟩
theorem Gr.alloc (w : World) (v : Value) (o : Obj) : Gr w v (w.alloc o) v := ⟨World.grownBy_alloc w o _, fun g h => .inl h⟩
theorem Gr.cell {w w' : World} {v v' : Value} (h : Gr w v w' v') {b o : Nat} {x : Value} (hc : w.cell? ⟨b, o, none⟩ = some x) (hne : some b ≠ v.ownBlock) : w'.cell? ⟨b, o, none⟩ = some x := h.grown.cell (a := ⟨b, o, none⟩) hc hne
theorem Gr.below {B : Nat} {w w' : World} {v v' : Value} {l : List UInt8} (h : Gr w v w' v') (ho : Bs B w v l) (hB : B ≤ w.heap.size) : Below B w w' := (Below.refl _ _).grown h.grown hB fun q hq => (ho.lt q hq).1
theorem Bs.nil (B : Nat) (w : World) : Bs B w (.slice none 0 0) [] := World.ownsRow_nil _ _ _ _
theorem Bs.alloc {B : Nat} {w : World} {v : Value} {l : List UInt8} (h : Bs B w v l) (o : Obj) : Bs B (w.alloc o) v l := World.ownsRow.alloc h o
theorem Bs.keep {B : Nat} {w w' : World} {v : Value} {l : List UInt8} (h : Bs B w v l) (hb : Below w.heap.size w w') : Bs B w' v l := own_below h hb
theorem Bs.form {B : Nat} {w : World} {v : Value} {l : List UInt8} (h : Bs B w v l) : ∃ a c, v = .slice a l.length c := by
 rcases h.2 with ⟨h1, h2⟩ | ⟨g, cap, cur, h1, _⟩
 ·rw [h1, h2]; exact ⟨_, _, rfl⟩
 ·exact ⟨_, _, h1⟩
theorem hid {p : Prop} (h : p) : Hid p := h
theorem info_u8 : (Try.prog.info? 5).map (fun i => (i.zero, i.size, i.bytes)) = some (some (.int .u8 0), 1, 1) := by kernel_rfl
theorem cell_one_new (w : World) (v : Value) (t : TypeId) : ∀ j u, [v][j]? = some u → (w.alloc (.cells #[v] t)).cell? ((⟨w.heap.size, 0, none⟩ : Addr).add j) = some u := by
 intro j u hj
 match j, hj with
 | 0, hj => simp at hj; subst hj; simp [Addr.add, go_sem]
 | j + 1, hj => simp at hj
theorem byteCells_snoc (l : List UInt8) (x : Nat) : Lib.byteCells (l ++ [UInt8.ofNat x]) = Lib.byteCells l ++ [Value.int .u8 ((x % 256 : Nat) : Int)] := by simp [Lib.byteCells]

/-- one byte more: behind the append -/
theorem Bs.push {B n : Nat} {w w3 : World} {v : Value} {l : List UInt8} {x : Nat} {g c : Nat} {y : Int} {o : Obj} (hn : l.length = n) (hy : y = ((x % 256 : Nat) : Int))
  (hown : w3.ownsRow B 5 1 (.slice (some ⟨g, 0, none⟩) (n + 1) c) (n + 1) (Lib.byteCells l ++ [Value.int .u8 y])) (hg : (w.alloc o).grownBy w3 v.ownBlock) (hat : v.ownBlock = some g ∨ g = w.heap.size + 1) :
  Bs B w3 (.slice (some ⟨g, 0, none⟩) (n + 1) c) (l ++ [UInt8.ofNat x]) ∧ Gr w v w3 (.slice (some ⟨g, 0, none⟩) (n + 1) c) := by
 subst hn hy
 refine ⟨?_, (Gr.alloc w v o).trans ⟨hg, fun q hq => ?_⟩⟩
 ·unfold Bs
  rw [byteCells_snoc]
  simpa using hown
 ·simp only [Value.ownBlock, Option.some.injEq] at hq
  subst hq
  rcases hat with h | h
  ·exact .inl h
  ·right; simp; omega
end Go.Proofs.Ytlcjllgfpfldlaa.code

namespace Go.Proofs.Ytlcjllgfpfldlaa.code
open Go.ChangeShapes Go.WideShapes Go.ChangeAt Go.RowKit Go.Deep
open Go.Proofs.Ytlcjllgfpfldlaa.dims (nth Ints cell_lt vals vals_len vals_get own_below own_mono own_out RowOut ret_bool)
set_option linter.unusedVariables false
set_option maxRecDepth 100000

/-- a fact: where its key lies, the key, its number -/
structure Ft where
 a : Option Addr
 cap : Nat
 k : List Int
 v : Int
def ftn (fs : List Ft) (i : Nat) : Ft := fs.getD i ⟨none, 0, [], 0⟩
theorem ftn_mem {fs : List Ft} {i : Nat} (h : i < fs.length) : ftn fs i ∈ fs := by simp [ftn, h]
theorem ftn_eq {fs : List Ft} {i : Nat} (h : i < fs.length) : ftn fs i = fs[i] := by simp [ftn, h]
def pf (f : Ft) : PFact := (f.k, f.v)
def ftV (f : Ft) : Value := .agg #[.slice f.a f.k.length f.cap, .int .i64 f.v]
structure FtOk (w : World) (f : Ft) : Prop where
 mem : Ints w f.a f.k
 len : f.k.length ≤ 9223372036854775807
 key : ∀ x ∈ f.k, I64 x
 num : I64 f.v
theorem FtOk.keep {w w1 : World} {f : Ft} (h : FtOk w f) (hb : Below w.heap.size w w1) : FtOk w1 f := ⟨h.mem.keep hb, h.len, h.key, h.num⟩
def FactsIn (w : World) (a : Option Addr) (fs : List Ft) : Prop :=
 fs = [] ∨ ∃ b off, a = some ⟨b, off, none⟩ ∧ ∀ i, i < fs.length → w.cell? ⟨b, off + i * 2, none⟩ = some (.slice (ftn fs i).a (ftn fs i).k.length (ftn fs i).cap) ∧ w.cell? ⟨b, off + i * 2 + 1, none⟩ = some (.int .i64 (ftn fs i).v) ∧ FtOk w (ftn fs i)
theorem FactsIn.keep {w w1 : World} {a : Option Addr} {fs : List Ft} (h : FactsIn w a fs) (hb : Below w.heap.size w w1) : FactsIn w1 a fs := by
 rcases h with h | ⟨b, off, ha, hc⟩
 ·exact .inl h
 ·refine .inr ⟨b, off, ha, fun i hi => ?_⟩
  obtain ⟨h1, h2, h3⟩ := hc i hi
  exact ⟨(hb.cell (p := ⟨b, off + i * 2, none⟩) (cell_lt h1)).trans h1, (hb.cell (p := ⟨b, off + i * 2 + 1, none⟩) (cell_lt h2)).trans h2, h3.keep hb⟩
theorem FactsIn.get {w : World} {a : Option Addr} {fs : List Ft} (h : FactsIn w a fs) {k : Nat} (hk : k < fs.length) : ∃ b off, a = some ⟨b, off, none⟩ ∧ ∀ i, i < fs.length → w.cell? ⟨b, off + i * 2, none⟩ = some (.slice (ftn fs i).a (ftn fs i).k.length (ftn fs i).cap) ∧ w.cell? ⟨b, off + i * 2 + 1, none⟩ = some (.int .i64 (ftn fs i).v) ∧ FtOk w (ftn fs i) := by
 rcases h with rfl | h
 ·simp at hk
 ·exact h
theorem FactsIn.ok {w : World} {a : Option Addr} {fs : List Ft} (h : FactsIn w a fs) : ∀ f ∈ fs, FtOk w f := fun f hf => by
 obtain ⟨i, hi, rfl⟩ := List.mem_iff_getElem.1 hf
 obtain ⟨b, off, -, hc⟩ := h.get hi
 rw [← ftn_eq hi]; exact (hc i hi).2.2

/-- an entry: its time, where its facts lie, the facts -/
structure Et where
 t : Int
 a : Option Addr
 cap : Nat
 fs : List Ft
def etn (es : List Et) (i : Nat) : Et := es.getD i ⟨0, none, 0, []⟩
theorem etn_mem {es : List Et} {i : Nat} (h : i < es.length) : etn es i ∈ es := by simp [etn, h]
theorem etn_eq {es : List Et} {i : Nat} (h : i < es.length) : etn es i = es[i] := by simp [etn, h]
def pe (e : Et) : PEnt := (e.t, e.fs.map pf)
def etV (e : Et) : Value := .agg #[.int .u32 e.t, .slice e.a e.fs.length e.cap]
structure EtOk (w : World) (e : Et) : Prop where
 mem : FactsIn w e.a e.fs
 len : e.fs.length ≤ 9223372036854775807
 num : U32 e.t
theorem EtOk.keep {w w1 : World} {f : Et} (h : EtOk w f) (hb : Below w.heap.size w w1) : EtOk w1 f := ⟨h.mem.keep hb, h.len, h.num⟩
def EntsIn (w : World) (a : Option Addr) (es : List Et) : Prop :=
 es = [] ∨ ∃ b off, a = some ⟨b, off, none⟩ ∧ ∀ i, i < es.length → w.cell? ⟨b, off + i * 2, none⟩ = some (.int .u32 (etn es i).t) ∧ w.cell? ⟨b, off + i * 2 + 1, none⟩ = some (.slice (etn es i).a (etn es i).fs.length (etn es i).cap) ∧ EtOk w (etn es i)
theorem EntsIn.keep {w w1 : World} {a : Option Addr} {es : List Et} (h : EntsIn w a es) (hb : Below w.heap.size w w1) : EntsIn w1 a es := by
 rcases h with h | ⟨b, off, ha, hc⟩
 ·exact .inl h
 ·refine .inr ⟨b, off, ha, fun i hi => ?_⟩
  obtain ⟨h1, h2, h3⟩ := hc i hi
  exact ⟨(hb.cell (p := ⟨b, off + i * 2, none⟩) (cell_lt h1)).trans h1, (hb.cell (p := ⟨b, off + i * 2 + 1, none⟩) (cell_lt h2)).trans h2, h3.keep hb⟩
theorem EntsIn.get {w : World} {a : Option Addr} {es : List Et} (h : EntsIn w a es) {k : Nat} (hk : k < es.length) : ∃ b off, a = some ⟨b, off, none⟩ ∧ ∀ i, i < es.length → w.cell? ⟨b, off + i * 2, none⟩ = some (.int .u32 (etn es i).t) ∧ w.cell? ⟨b, off + i * 2 + 1, none⟩ = some (.slice (etn es i).a (etn es i).fs.length (etn es i).cap) ∧ EtOk w (etn es i) := by
 rcases h with rfl | h
 ·simp at hk
 ·exact h
theorem EntsIn.ok {w : World} {a : Option Addr} {es : List Et} (h : EntsIn w a es) : ∀ f ∈ es, EtOk w f := fun f hf => by
 obtain ⟨i, hi, rfl⟩ := List.mem_iff_getElem.1 hf
 obtain ⟨b, off, -, hc⟩ := h.get hi
 rw [← etn_eq hi]; exact (hc i hi).2.2

def spn (ss : List PSpan) (i : Nat) : PSpan := ss.getD i (0, 0)
theorem spn_mem {ss : List PSpan} {i : Nat} (h : i < ss.length) : spn ss i ∈ ss := by simp [spn, h]
theorem spn_eq {ss : List PSpan} {i : Nat} (h : i < ss.length) : spn ss i = ss[i] := by simp [spn, h]
def spV (s : PSpan) : Value := .agg #[.int .i64 s.1, .int .i64 s.2]
def SpansIn (w : World) (a : Option Addr) (ss : List PSpan) : Prop :=
 ss = [] ∨ ∃ b off, a = some ⟨b, off, none⟩ ∧ ∀ i, i < ss.length → w.cell? ⟨b, off + i * 2, none⟩ = some (.int .i64 (spn ss i).1) ∧ w.cell? ⟨b, off + i * 2 + 1, none⟩ = some (.int .i64 (spn ss i).2) ∧ I64 (spn ss i).1 ∧ I64 (spn ss i).2
theorem SpansIn.keep {w w1 : World} {a : Option Addr} {ss : List PSpan} (h : SpansIn w a ss) (hb : Below w.heap.size w w1) : SpansIn w1 a ss := by
 rcases h with h | ⟨b, off, ha, hc⟩
 ·exact .inl h
 ·refine .inr ⟨b, off, ha, fun i hi => ?_⟩
  obtain ⟨h1, h2, h3⟩ := hc i hi
  exact ⟨(hb.cell (p := ⟨b, off + i * 2, none⟩) (cell_lt h1)).trans h1, (hb.cell (p := ⟨b, off + i * 2 + 1, none⟩) (cell_lt h2)).trans h2, h3⟩
theorem SpansIn.get {w : World} {a : Option Addr} {ss : List PSpan} (h : SpansIn w a ss) {k : Nat} (hk : k < ss.length) : ∃ b off, a = some ⟨b, off, none⟩ ∧ ∀ i, i < ss.length → w.cell? ⟨b, off + i * 2, none⟩ = some (.int .i64 (spn ss i).1) ∧ w.cell? ⟨b, off + i * 2 + 1, none⟩ = some (.int .i64 (spn ss i).2) ∧ I64 (spn ss i).1 ∧ I64 (spn ss i).2 := by
 rcases h with rfl | h
 ·simp at hk
 ·exact h

/-- a record: its numbers, and where its lists lie -/
structure Rc where
 kind : Int
 id : Int
 at_ : Int
 na : Option Addr
 nc : Nat
 nodes : List Int
 fa : Option Addr
 fc : Nat
 facts : List Ft
 epoch : Int
 sa : Option Addr
 sc : Nat
 spans : List PSpan
 frm : Int
 til : Int
 ea : Option Addr
 ec : Nat
 ents : List Et
def rcC (r : Rc) : Array Value := #[.int .u8 r.kind, .int .u32 r.id, .int .u32 r.at_, .slice r.na r.nodes.length r.nc, .slice r.fa r.facts.length r.fc, .int .u32 r.epoch, .slice r.sa r.spans.length r.sc, .int .i64 r.frm, .int .i64 r.til, .slice r.ea r.ents.length r.ec]
def rcV (r : Rc) : Value := .agg (rcC r)
def pr (r : Rc) : PRec := ⟨r.kind, r.id, r.at_, r.nodes, r.facts.map pf, r.epoch, r.spans, r.frm, r.til, r.ents.map pe⟩
structure RecIn (w : World) (r : Rc) : Prop where
 kind : 0 ≤ r.kind ∧ r.kind ≤ 255
 id : U32 r.id
 at_ : U32 r.at_
 nodes : Ints w r.na r.nodes
 nlen : r.nodes.length ≤ 9223372036854775807
 nok : ∀ x ∈ r.nodes, I64 x
 facts : FactsIn w r.fa r.facts
 flen : r.facts.length ≤ 9223372036854775807
 epoch : U32 r.epoch
 spans : SpansIn w r.sa r.spans
 slen : r.spans.length ≤ 9223372036854775807
 frm : I64 r.frm
 til : I64 r.til
 ents : EntsIn w r.ea r.ents
 elen : r.ents.length ≤ 9223372036854775807
theorem RecIn.keep {w w1 : World} {r : Rc} (h : RecIn w r) (hb : Below w.heap.size w w1) : RecIn w1 r :=
 ⟨h.kind, h.id, h.at_, h.nodes.keep hb, h.nlen, h.nok, h.facts.keep hb, h.flen, h.epoch, h.spans.keep hb, h.slen, h.frm, h.til, h.ents.keep hb, h.elen⟩
theorem RecIn.typed {w : World} {r : Rc} (h : RecIn w r) : Typed (pr r) := by
 refine ⟨h.kind, h.id, h.at_, h.epoch, fun f hf => ?_, fun e he => ?_⟩
 ·obtain ⟨f', hf', rfl⟩ := List.mem_map.1 hf
  exact (h.facts.ok f' hf').num
 ·obtain ⟨e', he', rfl⟩ := List.mem_map.1 he
  refine ⟨(h.ents.ok e' he').num, fun f hf => ?_⟩
  obtain ⟨f', hf', rfl⟩ := List.mem_map.1 hf
  exact ((h.ents.ok e' he').mem.ok f' hf').num
theorem nth_mem {l : List Int} {i : Nat} (h : i < l.length) : nth l i ∈ l := by simp [nth, h]
theorem nth_eq {l : List Int} {i : Nat} (h : i < l.length) : nth l i = l[i] := by simp [nth, h]
theorem take_nth (l : List Int) (k : Nat) (h : k < l.length) : l.take (k + 1) = l.take k ++ [nth l k] := by rw [List.take_succ_eq_append_getElem h, nth_eq h]
theorem take_ftn (l : List Ft) (k : Nat) (h : k < l.length) : l.take (k + 1) = l.take k ++ [ftn l k] := by rw [List.take_succ_eq_append_getElem h, ftn_eq h]
theorem take_etn (l : List Et) (k : Nat) (h : k < l.length) : l.take (k + 1) = l.take k ++ [etn l k] := by rw [List.take_succ_eq_append_getElem h, etn_eq h]
theorem take_spn (l : List PSpan) (k : Nat) (h : k < l.length) : l.take (k + 1) = l.take k ++ [spn l k] := by rw [List.take_succ_eq_append_getElem h, spn_eq h]
theorem flat_take {α : Type} (enc : α → List UInt8) (l : List α) (k : Nat) : ((l.take k).flatMap enc).length ≤ (l.flatMap enc).length := by
 conv => rhs; rw [← List.take_append_drop k l, List.flatMap_append, List.length_append]
 omega
end Go.Proofs.Ytlcjllgfpfldlaa.code

namespace Go.Proofs.Ytlcjllgfpfldlaa.code
open Go.ChangeShapes Go.WideShapes Go.ChangeAt Go.RowKit Go.Deep
open Go.Proofs.Ytlcjllgfpfldlaa.dims (nth Ints cell_lt vals vals_len vals_get own_below own_mono own_out RowOut ret_bool)
set_option linter.unusedVariables false
set_option maxRecDepth 100000

def bth (l : List UInt8) (i : Nat) : Int := ((l.getD i 0).toNat : Int)
theorem bth_drop (l : List UInt8) (k i : Nat) : bth (l.drop k) i = bth l (k + i) := by simp [bth]
/-- bytes that can be read at an address -/
def ByIn (w : World) (a : Option Addr) (l : List UInt8) : Prop :=
 l = [] ∨ ∃ b off, a = some ⟨b, off, none⟩ ∧ ∀ i, i < l.length → w.cell? ⟨b, off + i, none⟩ = some (.int .u8 (bth l i))
theorem ByIn.keep {w w1 : World} {a : Option Addr} {l : List UInt8} (h : ByIn w a l) (hb : Below w.heap.size w w1) : ByIn w1 a l := by
 rcases h with h | ⟨b, off, ha, hc⟩
 ·exact .inl h
 ·exact .inr ⟨b, off, ha, fun i hi => (hb.cell (p := ⟨b, off + i, none⟩) (cell_lt (hc i hi))).trans (hc i hi)⟩
theorem ByIn.get {w : World} {a : Option Addr} {l : List UInt8} (h : ByIn w a l) (hk : 0 < l.length) : ∃ b off, a = some ⟨b, off, none⟩ ∧ ∀ i, i < l.length → w.cell? ⟨b, off + i, none⟩ = some (.int .u8 (bth l i)) := by
 rcases h with rfl | h
 ·simp at hk
 ·exact h
/-- a reader's box, and what is left -/
structure Rdr (R : Nat) (w : World) (a : Option Addr) (n c : Nat) (l : List UInt8) : Prop where
 box : w.heap[R]? = some (.cells #[.slice a n c] 104 (0, 0))
 len : l.length = n
 cap : n ≤ c
 low : l ≠ [] → ∀ p, a = some p → p.block < R
 mem : ByIn w a l
theorem Rdr.cell {R n c : Nat} {w : World} {a : Option Addr} {l : List UInt8} (h : Rdr R w a n c l) : w.cell? ⟨R, 0, none⟩ = some (.slice a n c) := by
 have := cell_of_row w R 0 _ _ _ h.box
 simpa using this
theorem Rdr.frz {R n c : Nat} {w : World} {a : Option Addr} {l : List UInt8} (h : Rdr R w a n c l) : w.frozen? ⟨R, 0, none⟩ = false := by
 simp [World.frozen?, h.box]
theorem Rdr.keep {R n c : Nat} {w w' : World} {a : Option Addr} {l : List UInt8} (h : Rdr R w a n c l) (hb : Below w.heap.size w w') : Rdr R w' a n c l :=
 ⟨(hb.block R (cell_lt h.cell)).trans h.box, h.len, h.cap, h.low, h.mem.keep hb⟩
/-- behind a step: the front is gone -/
theorem Rdr.step {R n c k : Nat} {w : World} {a a' : Option Addr} {l : List UInt8} (h : Rdr R w a n c l) (hk : k ≤ n) (hlow : ∀ p, a' = some p → p.block < R) (hm : ByIn w a' (l.drop k)) :
  Rdr R (w.setCell ⟨R, 0, none⟩ (.slice a' (n - k) (c - k))) a' (n - k) (c - k) (l.drop k) := by
 refine ⟨?_, by rw [List.length_drop, h.len], by have := h.cap; omega, fun _ => hlow, ?_⟩
 ·simp [World.setCell, Array.getElem?_modify, h.box]
 ·rcases hm with h0 | ⟨b, off, ha, hc⟩
  ·exact .inl h0
  ·refine .inr ⟨b, off, ha, fun i hi => ?_⟩
   have hb : b < R := hlow _ ha
   rw [World.cell?_setCell_other _ _ _ _ (by intro e; injection e with e1 e2; omega)]
   exact hc i hi

set_option maxHeartbeats 4000000 in
theorem take_bad (R n c k : Nat) (w : World) (a : Option Addr) (l : List UInt8) (h : Rdr R w a n c l) (hk : n < k) (h8 : k ≤ 8) :
  Calls Try.prog 81 #[.pointer (some ⟨R, 0, none⟩), .int .i64 k] w fun e w' => (∃ m, e = .panicked [{ v := .iface 101 (.int .i64 m), recovered := false }]) ∧ w' = w := by
 have r0 := h.cell
 have hkz : (n : Int) < (k : Int) := by omega
 clear h
 go_enter Try.func81, Try.ntmps81
 go_wp2
 exact ⟨rfl, ⟨_, rfl⟩, rfl⟩

/-- what is left behind a read; nothing but the reader's box and new memory has changed -/
structure Went (R : Nat) (w w' : World) (l : List UInt8) : Prop where
 rdr : ∃ a n c, Rdr R w' a n c l
 grown : w.grownBy w' (some R)
theorem grown_set (w : World) (R : Nat) (v : Value) : w.grownBy (w.setCell ⟨R, 0, none⟩ v) (some R) :=
 ⟨rfl, rfl, rfl, by simp [World.setCell], fun k hk hne => by
  have : R ≠ k := fun e => hne (by rw [e])
  simp [World.setCell, Array.getElem?_modify, this]⟩

set_option maxHeartbeats 4000000 in
theorem take_ok (R n c k : Nat) (w : World) (a : Option Addr) (l : List UInt8) (h : Rdr R w a n c l) (hk : k ≤ n) (h1 : 1 ≤ k) :
  Calls Try.prog 81 #[.pointer (some ⟨R, 0, none⟩), .int .i64 k] w fun e w' => e = .returned (.slice a k c) ∧ Went R w w' (l.drop k) := by
 have r0 := h.cell
 have f0 := h.frz
 have hkz : ¬ (n : Int) < (k : Int) := by omega
 have hl := h.len
 have hc := h.cap
 obtain ⟨b, off, ha, hcc⟩ := h.mem.get (by omega)
 subst ha
 have H : Aside (Rdr R w (some ⟨b, off, none⟩) n c l) := h
 clear h
 have hlow : b < R := H.out.low (by rintro rfl; simp at hl; omega) _ rfl
 clear hcc
 by_cases hck : c = k
 ·have S : Aside (ByIn w (some ⟨b, off, none⟩) (l.drop k)) := .inl (by rw [List.drop_eq_nil_iff]; omega)
  go_enter Try.func81, Try.ntmps81
  go_wp2
  go_ret
  refine ⟨rfl, ⟨some ⟨b, off, none⟩, n - k, 0, ?_⟩, grown_set _ _ _⟩
  ·have := H.out.step hk (a' := some ⟨b, off, none⟩) (fun p hp => by injection hp with hp; rw [← hp]; exact hlow) S.out
   rw [hck, Nat.sub_self] at this
   exact this
 ·have S : Aside (ByIn w (some ⟨b, off + k, none⟩) (l.drop k)) := by
   by_cases hnk : k = n
   ·exact .inl (by rw [List.drop_eq_nil_iff]; omega)
   ·refine .inr ⟨b, off + k, rfl, fun i hi => ?_⟩
    rw [List.length_drop] at hi
    obtain ⟨b2, off2, ha2, hc2⟩ := H.out.mem.get (by omega)
    simp only [Option.some.injEq, Addr.mk.injEq, and_true] at ha2
    obtain ⟨rfl, rfl⟩ := ha2
    rw [bth_drop, Nat.add_assoc]
    exact hc2 (k + i) (by omega)
  go_enter Try.func81, Try.ntmps81
  go_wp2
  go_ret
  exact ⟨rfl, ⟨some ⟨b, off + k, none⟩, _, _, H.out.step hk (a' := some ⟨b, off + k, none⟩) (fun p hp => by injection hp with hp; rw [← hp]; exact hlow) S.out⟩, grown_set _ _ _⟩
theorem byte_or (v x : Nat) (hx : x < 256) (hv : v * 256 + x < 18446744073709551616) : bits .or .u64 (IntKind.u64.wrap ((v : Int) * 256)) (IntKind.u64.wrap (x : Int)) = ((v * 256 + x : Nat) : Int) := by
 rw [IntKind.wrap_u64, IntKind.wrap_u64]
 have e1 : ((v : Int) * 256 % 18446744073709551616) = ((v * 256 : Nat) : Int) := by omega
 have e2 : ((x : Int) % 18446744073709551616) = ((x : Nat) : Int) := by omega
 rw [e1, e2, bits_or_u64_nat _ _ (by omega) (by omega)]
 have := Nat.two_pow_add_eq_or_of_lt (i := 8) (b := x) (by simpa using hx) v
 rw [show 2 ^ 8 * v = v * 256 by omega] at this
 rw [this]
theorem byte_or2 (v x : Nat) (hx : x < 256) (hv : v * 256 + x < 18446744073709551616) : bits .or .u64 ((v : Int) * 256) (x : Int) = ((v * 256 + x : Nat) : Int) := by
 have e1 : ((v : Int) * 256) = ((v * 256 : Nat) : Int) := by omega
 rw [e1, bits_or_u64_nat _ _ (by omega) (by omega)]
 have := Nat.two_pow_add_eq_or_of_lt (i := 8) (b := x) (by simpa using hx) v
 rw [show 2 ^ 8 * v = v * 256 by omega] at this
 rw [this]
theorem wrap_asI64 {v : Nat} (h : v < 18446744073709551616) : wrap64 (v : Int) = asI64 v := by
 unfold wrap64 asI64
 split <;> omega
theorem valB_take {l : List UInt8} {i : Nat} (h : i < l.length) : valB (l.take (i + 1)) = valB (l.take i) * 256 + (l.getD i 0).toNat := by
 rw [List.take_succ_eq_append_getElem h]
 unfold valB
 rw [List.foldl_append]
 simp [h]
end Go.Proofs.Ytlcjllgfpfldlaa.code

namespace Go.Proofs.Ytlcjllgfpfldlaa.code
open Go.ChangeShapes Go.WideShapes Go.ChangeAt Go.RowKit Go.Deep
open Go.Proofs.Ytlcjllgfpfldlaa.dims (nth Ints cell_lt vals vals_len vals_get own_below own_mono own_out RowOut ret_bool)
set_option linter.unusedVariables false
set_option maxRecDepth 100000

set_option maxHeartbeats 4000000 in
theorem read_u8 (R n c : Nat) (w : World) (a : Option Addr) (l : List UInt8) (h : Rdr R w a n c l) (k : Nat) (h1 : 1 ≤ k) (h8 : k ≤ 1) (hk : k ≤ n) :
  Calls Try.prog 58 #[.pointer (some ⟨R, 0, none⟩), .int .i64 k] w fun e w' => e = .returned (.int .u8 ((valB (l.take k) : Nat) : Int)) ∧ Went R w w' (l.drop k) := by
 have hT := take_ok R n c k w a l h hk h1
 have hl := h.len
 obtain ⟨b, off, ha, hcc⟩ := h.mem.get (by omega)
 subst ha
 have hlow : b < R := h.low (by rintro rfl; simp at hl; omega) _ rfl
 have HLEN : Hid (l.length = n) := hl
 go_enter Try.func58, Try.ntmps58
 go_wp2_with (go_at_call 81; refine hT.mono ?_; rintro e w1 ⟨rfl, hR1⟩; refine Hid.out ?_)
 refine hid ?_
 have HC : Aside (∀ i, i < k → w1.cell? ⟨b, off + i, none⟩ = some (.int .u8 (bth l i))) := fun i hi => by
  exact hR1.grown.cell (a := ⟨b, off + i, none⟩) (hcc i (by omega)) (by simp only [ne_eq, Option.some.injEq]; omega)
 have HG : Aside (Went R w w1 (l.drop k)) := hR1
 clear hT hcc hR1 h hl
 go_wp2_with fail
 go_loopg [5, 12] k (fun g1 vv vi wr => ∃ (i v : Nat), vi = .int .i64 i ∧ i ≤ k ∧ k - i ≤ g1 ∧ Aside (wr = w1) ∧ vv = .int .u64 (v : Nat) ∧ Aside (v = valB (l.take i)))
 case atStart => exact ⟨0, 0, rfl, Nat.zero_le _, Nat.le_refl _, rfl, rfl, rfl⟩
 case round =>
  obtain ⟨i, v, rfl, hi, hg1, HW, rfl, HV⟩ := hrel
  have hww := HW.out
  subst hww
  have hbnd : Aside (v < 256 ^ i) := by
   have h2 := valB_lt (l.take i)
   rw [List.length_take, Nat.min_eq_left (by have := HLEN.out; omega), ← HV.out] at h2
   exact h2
  by_cases hlt : i < k
  ·have hltz : (i : Int) < (k : Int) := by omega
   have r0 := HC.out i hlt
   obtain ⟨x, hx⟩ : ∃ x : Nat, (l.getD i 0).toNat = x := ⟨_, rfl⟩
   have hx2 : x < 256 := by rw [← hx]; exact UInt8.toNat_lt _
   have HX : Hid ((l.getD i 0).toNat = x) := hx
   unfold bth at r0
   rw [hx] at r0
   have hv2 : v * 256 + x < 18446744073709551616 := by
    have h3 : 256 ^ i ≤ 256 ^ 7 := Nat.pow_le_pow_right (by omega) (by omega)
    have h4 : (256 : Nat) ^ 7 = 72057594037927936 := by decide
    have := hbnd.out
    omega
   have hor := byte_or v x hx2 hv2
   have hor2 := byte_or2 v x hx2 hv2
   clear hx
   go_wp2
   go_roundg (k - (i + 1))
   case measure => omega
   case rel =>
    refine ⟨i + 1, v * 256 + x, by go_num, by omega, by omega, rfl, ?_, ?_⟩
    ·first | rfl | (rw [hor]) | (rw [hor2]) | (congr 1; omega) | (simp; omega)
    ·show _ = _
     rw [valB_take (by have := HLEN.out; omega), ← HV.out, HX.out]
  ·have hltz : ¬ (i : Int) < (k : Int) := by omega
   obtain rfl : i = k := by omega
   have hbv : v < 256 ^ 1 := Nat.lt_of_lt_of_le hbnd.out (Nat.pow_le_pow_right (by omega) h8)
   go_wp2
   go_ret
   refine ⟨?_, HG.out⟩
   rw [← HV.out]
   have e : (v : Int) % 256 = v := by omega
   first | rfl | (rw [e]) | (simp [IntKind.wrap, IntKind.signed, IntKind.bits]; omega)

set_option maxHeartbeats 4000000 in
theorem read_u32 (R n c : Nat) (w : World) (a : Option Addr) (l : List UInt8) (h : Rdr R w a n c l) (k : Nat) (h1 : 1 ≤ k) (h8 : k ≤ 4) (hk : k ≤ n) :
  Calls Try.prog 59 #[.pointer (some ⟨R, 0, none⟩), .int .i64 k] w fun e w' => e = .returned (.int .u32 ((valB (l.take k) : Nat) : Int)) ∧ Went R w w' (l.drop k) := by
 have hT := take_ok R n c k w a l h hk h1
 have hl := h.len
 obtain ⟨b, off, ha, hcc⟩ := h.mem.get (by omega)
 subst ha
 have hlow : b < R := h.low (by rintro rfl; simp at hl; omega) _ rfl
 have HLEN : Hid (l.length = n) := hl
 go_enter Try.func59, Try.ntmps59
 go_wp2_with (go_at_call 81; refine hT.mono ?_; rintro e w1 ⟨rfl, hR1⟩; refine Hid.out ?_)
 refine hid ?_
 have HC : Aside (∀ i, i < k → w1.cell? ⟨b, off + i, none⟩ = some (.int .u8 (bth l i))) := fun i hi => by
  exact hR1.grown.cell (a := ⟨b, off + i, none⟩) (hcc i (by omega)) (by simp only [ne_eq, Option.some.injEq]; omega)
 have HG : Aside (Went R w w1 (l.drop k)) := hR1
 clear hT hcc hR1 h hl
 go_wp2_with fail
 go_loopg [5, 12] k (fun g1 vv vi wr => ∃ (i v : Nat), vi = .int .i64 i ∧ i ≤ k ∧ k - i ≤ g1 ∧ Aside (wr = w1) ∧ vv = .int .u64 (v : Nat) ∧ Aside (v = valB (l.take i)))
 case atStart => exact ⟨0, 0, rfl, Nat.zero_le _, Nat.le_refl _, rfl, rfl, rfl⟩
 case round =>
  obtain ⟨i, v, rfl, hi, hg1, HW, rfl, HV⟩ := hrel
  have hww := HW.out
  subst hww
  have hbnd : Aside (v < 256 ^ i) := by
   have h2 := valB_lt (l.take i)
   rw [List.length_take, Nat.min_eq_left (by have := HLEN.out; omega), ← HV.out] at h2
   exact h2
  by_cases hlt : i < k
  ·have hltz : (i : Int) < (k : Int) := by omega
   have r0 := HC.out i hlt
   obtain ⟨x, hx⟩ : ∃ x : Nat, (l.getD i 0).toNat = x := ⟨_, rfl⟩
   have hx2 : x < 256 := by rw [← hx]; exact UInt8.toNat_lt _
   have HX : Hid ((l.getD i 0).toNat = x) := hx
   unfold bth at r0
   rw [hx] at r0
   have hv2 : v * 256 + x < 18446744073709551616 := by
    have h3 : 256 ^ i ≤ 256 ^ 7 := Nat.pow_le_pow_right (by omega) (by omega)
    have h4 : (256 : Nat) ^ 7 = 72057594037927936 := by decide
    have := hbnd.out
    omega
   have hor := byte_or v x hx2 hv2
   have hor2 := byte_or2 v x hx2 hv2
   clear hx
   go_wp2
   go_roundg (k - (i + 1))
   case measure => omega
   case rel =>
    refine ⟨i + 1, v * 256 + x, by go_num, by omega, by omega, rfl, ?_, ?_⟩
    ·first | rfl | (rw [hor]) | (rw [hor2]) | (congr 1; omega) | (simp; omega)
    ·show _ = _
     rw [valB_take (by have := HLEN.out; omega), ← HV.out, HX.out]
  ·have hltz : ¬ (i : Int) < (k : Int) := by omega
   obtain rfl : i = k := by omega
   have hbv : v < 256 ^ 4 := Nat.lt_of_lt_of_le hbnd.out (Nat.pow_le_pow_right (by omega) h8)
   go_wp2
   go_ret
   refine ⟨?_, HG.out⟩
   rw [← HV.out]
   have e : (v : Int) % 4294967296 = v := by omega
   first | rfl | (rw [e]) | (simp [IntKind.wrap, IntKind.signed, IntKind.bits]; omega)

set_option maxHeartbeats 4000000 in
theorem read_int (R n c : Nat) (w : World) (a : Option Addr) (l : List UInt8) (h : Rdr R w a n c l) (k : Nat) (h1 : 1 ≤ k) (h8 : k ≤ 4) (hk : k ≤ n) :
  Calls Try.prog 66 #[.pointer (some ⟨R, 0, none⟩), .int .i64 k] w fun e w' => e = .returned (.int .i64 ((valB (l.take k) : Nat) : Int)) ∧ Went R w w' (l.drop k) := by
 have hT := take_ok R n c k w a l h hk h1
 have hl := h.len
 obtain ⟨b, off, ha, hcc⟩ := h.mem.get (by omega)
 subst ha
 have hlow : b < R := h.low (by rintro rfl; simp at hl; omega) _ rfl
 have HLEN : Hid (l.length = n) := hl
 go_enter Try.func66, Try.ntmps66
 go_wp2_with (go_at_call 81; refine hT.mono ?_; rintro e w1 ⟨rfl, hR1⟩; refine Hid.out ?_)
 refine hid ?_
 have HC : Aside (∀ i, i < k → w1.cell? ⟨b, off + i, none⟩ = some (.int .u8 (bth l i))) := fun i hi => by
  exact hR1.grown.cell (a := ⟨b, off + i, none⟩) (hcc i (by omega)) (by simp only [ne_eq, Option.some.injEq]; omega)
 have HG : Aside (Went R w w1 (l.drop k)) := hR1
 clear hT hcc hR1 h hl
 go_wp2_with fail
 go_loopg [5, 12] k (fun g1 vv vi wr => ∃ (i v : Nat), vi = .int .i64 i ∧ i ≤ k ∧ k - i ≤ g1 ∧ Aside (wr = w1) ∧ vv = .int .u64 (v : Nat) ∧ Aside (v = valB (l.take i)))
 case atStart => exact ⟨0, 0, rfl, Nat.zero_le _, Nat.le_refl _, rfl, rfl, rfl⟩
 case round =>
  obtain ⟨i, v, rfl, hi, hg1, HW, rfl, HV⟩ := hrel
  have hww := HW.out
  subst hww
  have hbnd : Aside (v < 256 ^ i) := by
   have h2 := valB_lt (l.take i)
   rw [List.length_take, Nat.min_eq_left (by have := HLEN.out; omega), ← HV.out] at h2
   exact h2
  by_cases hlt : i < k
  ·have hltz : (i : Int) < (k : Int) := by omega
   have r0 := HC.out i hlt
   obtain ⟨x, hx⟩ : ∃ x : Nat, (l.getD i 0).toNat = x := ⟨_, rfl⟩
   have hx2 : x < 256 := by rw [← hx]; exact UInt8.toNat_lt _
   have HX : Hid ((l.getD i 0).toNat = x) := hx
   unfold bth at r0
   rw [hx] at r0
   have hv2 : v * 256 + x < 18446744073709551616 := by
    have h3 : 256 ^ i ≤ 256 ^ 7 := Nat.pow_le_pow_right (by omega) (by omega)
    have h4 : (256 : Nat) ^ 7 = 72057594037927936 := by decide
    have := hbnd.out
    omega
   have hor := byte_or v x hx2 hv2
   have hor2 := byte_or2 v x hx2 hv2
   clear hx
   go_wp2
   go_roundg (k - (i + 1))
   case measure => omega
   case rel =>
    refine ⟨i + 1, v * 256 + x, by go_num, by omega, by omega, rfl, ?_, ?_⟩
    ·first | rfl | (rw [hor]) | (rw [hor2]) | (congr 1; omega) | (simp; omega)
    ·show _ = _
     rw [valB_take (by have := HLEN.out; omega), ← HV.out, HX.out]
  ·have hltz : ¬ (i : Int) < (k : Int) := by omega
   obtain rfl : i = k := by omega
   have hbv : v < 256 ^ 4 := Nat.lt_of_lt_of_le hbnd.out (Nat.pow_le_pow_right (by omega) h8)
   go_wp2
   go_ret
   refine ⟨?_, HG.out⟩
   rw [← HV.out]
   first | rfl | (simp [IntKind.wrap, IntKind.signed, IntKind.bits]; omega) | (congr 2; unfold wrap64; omega) | (congr 2; rw [IntKind.wrap_i64]; omega)

set_option maxHeartbeats 4000000 in
theorem read_int64 (R n c : Nat) (w : World) (a : Option Addr) (l : List UInt8) (h : Rdr R w a n c l) (k : Nat) (h1 : 1 ≤ k) (h8 : k ≤ 8) (hk : k ≤ n) :
  Calls Try.prog 83 #[.pointer (some ⟨R, 0, none⟩), .int .i64 k] w fun e w' => e = .returned (.int .i64 (asI64 (valB (l.take k)))) ∧ Went R w w' (l.drop k) := by
 have hT := take_ok R n c k w a l h hk h1
 have hl := h.len
 obtain ⟨b, off, ha, hcc⟩ := h.mem.get (by omega)
 subst ha
 have hlow : b < R := h.low (by rintro rfl; simp at hl; omega) _ rfl
 have HLEN : Hid (l.length = n) := hl
 go_enter Try.func83, Try.ntmps83
 go_wp2_with (go_at_call 81; refine hT.mono ?_; rintro e w1 ⟨rfl, hR1⟩; refine Hid.out ?_)
 refine hid ?_
 have HC : Aside (∀ i, i < k → w1.cell? ⟨b, off + i, none⟩ = some (.int .u8 (bth l i))) := fun i hi => by
  exact hR1.grown.cell (a := ⟨b, off + i, none⟩) (hcc i (by omega)) (by simp only [ne_eq, Option.some.injEq]; omega)
 have HG : Aside (Went R w w1 (l.drop k)) := hR1
 clear hT hcc hR1 h hl
 go_wp2_with fail
 go_loopg [5, 12] k (fun g1 vv vi wr => ∃ (i v : Nat), vi = .int .i64 i ∧ i ≤ k ∧ k - i ≤ g1 ∧ Aside (wr = w1) ∧ vv = .int .u64 (v : Nat) ∧ Aside (v = valB (l.take i)))
 case atStart => exact ⟨0, 0, rfl, Nat.zero_le _, Nat.le_refl _, rfl, rfl, rfl⟩
 case round =>
  obtain ⟨i, v, rfl, hi, hg1, HW, rfl, HV⟩ := hrel
  have hww := HW.out
  subst hww
  have hbnd : Aside (v < 256 ^ i) := by
   have h2 := valB_lt (l.take i)
   rw [List.length_take, Nat.min_eq_left (by have := HLEN.out; omega), ← HV.out] at h2
   exact h2
  by_cases hlt : i < k
  ·have hltz : (i : Int) < (k : Int) := by omega
   have r0 := HC.out i hlt
   obtain ⟨x, hx⟩ : ∃ x : Nat, (l.getD i 0).toNat = x := ⟨_, rfl⟩
   have hx2 : x < 256 := by rw [← hx]; exact UInt8.toNat_lt _
   have HX : Hid ((l.getD i 0).toNat = x) := hx
   unfold bth at r0
   rw [hx] at r0
   have hv2 : v * 256 + x < 18446744073709551616 := by
    have h3 : 256 ^ i ≤ 256 ^ 7 := Nat.pow_le_pow_right (by omega) (by omega)
    have h4 : (256 : Nat) ^ 7 = 72057594037927936 := by decide
    have := hbnd.out
    omega
   have hor := byte_or v x hx2 hv2
   have hor2 := byte_or2 v x hx2 hv2
   clear hx
   go_wp2
   go_roundg (k - (i + 1))
   case measure => omega
   case rel =>
    refine ⟨i + 1, v * 256 + x, by go_num, by omega, by omega, rfl, ?_, ?_⟩
    ·first | rfl | (rw [hor]) | (rw [hor2]) | (congr 1; omega) | (simp; omega)
    ·show _ = _
     rw [valB_take (by have := HLEN.out; omega), ← HV.out, HX.out]
  ·have hltz : ¬ (i : Int) < (k : Int) := by omega
   obtain rfl : i = k := by omega
   have hbv : v < 256 ^ 8 := Nat.lt_of_lt_of_le hbnd.out (Nat.pow_le_pow_right (by omega) h8)
   go_wp2
   go_ret
   refine ⟨?_, HG.out⟩
   rw [← HV.out]
   have e8 : (256 : Nat) ^ 8 = 18446744073709551616 := by decide
   rw [← wrap_asI64 (v := v) (by omega)]
   rfl

set_option maxHeartbeats 4000000 in
theorem miss_u8 (R n c : Nat) (w : World) (a : Option Addr) (l : List UInt8) (h : Rdr R w a n c l) (k : Nat) (h8 : k ≤ 8) (hk : n < k) :
  Calls Try.prog 58 #[.pointer (some ⟨R, 0, none⟩), .int .i64 k] w fun e w' => (∃ m, e = .panicked [{ v := .iface 101 (.int .i64 m), recovered := false }]) ∧ w' = w := by
 have hT := take_bad R n c k w a l h hk h8
 clear h
 go_enter Try.func58, Try.ntmps58
 go_wp2_with (go_at_call 81; refine hT.mono ?_; rintro e w1 ⟨⟨m, rfl⟩, rfl⟩)
 exact ⟨rfl, ⟨_, rfl⟩, rfl⟩

set_option maxHeartbeats 4000000 in
theorem miss_u32 (R n c : Nat) (w : World) (a : Option Addr) (l : List UInt8) (h : Rdr R w a n c l) (k : Nat) (h8 : k ≤ 8) (hk : n < k) :
  Calls Try.prog 59 #[.pointer (some ⟨R, 0, none⟩), .int .i64 k] w fun e w' => (∃ m, e = .panicked [{ v := .iface 101 (.int .i64 m), recovered := false }]) ∧ w' = w := by
 have hT := take_bad R n c k w a l h hk h8
 clear h
 go_enter Try.func59, Try.ntmps59
 go_wp2_with (go_at_call 81; refine hT.mono ?_; rintro e w1 ⟨⟨m, rfl⟩, rfl⟩)
 exact ⟨rfl, ⟨_, rfl⟩, rfl⟩

set_option maxHeartbeats 4000000 in
theorem miss_int (R n c : Nat) (w : World) (a : Option Addr) (l : List UInt8) (h : Rdr R w a n c l) (k : Nat) (h8 : k ≤ 8) (hk : n < k) :
  Calls Try.prog 66 #[.pointer (some ⟨R, 0, none⟩), .int .i64 k] w fun e w' => (∃ m, e = .panicked [{ v := .iface 101 (.int .i64 m), recovered := false }]) ∧ w' = w := by
 have hT := take_bad R n c k w a l h hk h8
 clear h
 go_enter Try.func66, Try.ntmps66
 go_wp2_with (go_at_call 81; refine hT.mono ?_; rintro e w1 ⟨⟨m, rfl⟩, rfl⟩)
 exact ⟨rfl, ⟨_, rfl⟩, rfl⟩

set_option maxHeartbeats 4000000 in
theorem miss_int64 (R n c : Nat) (w : World) (a : Option Addr) (l : List UInt8) (h : Rdr R w a n c l) (k : Nat) (h8 : k ≤ 8) (hk : n < k) :
  Calls Try.prog 83 #[.pointer (some ⟨R, 0, none⟩), .int .i64 k] w fun e w' => (∃ m, e = .panicked [{ v := .iface 101 (.int .i64 m), recovered := false }]) ∧ w' = w := by
 have hT := take_bad R n c k w a l h hk h8
 clear h
 go_enter Try.func83, Try.ntmps83
 go_wp2_with (go_at_call 81; refine hT.mono ?_; rintro e w1 ⟨⟨m, rfl⟩, rfl⟩)
 exact ⟨rfl, ⟨_, rfl⟩, rfl⟩
end Go.Proofs.Ytlcjllgfpfldlaa.code

namespace Go.Proofs.Ytlcjllgfpfldlaa.code
open Go.ChangeShapes Go.WideShapes Go.ChangeAt Go.RowKit Go.Deep
open Go.Proofs.Ytlcjllgfpfldlaa.dims (nth Ints cell_lt vals vals_len vals_get own_below own_mono own_out RowOut ret_bool)
set_option linter.unusedVariables false
set_option maxRecDepth 100000

/-- a block that is no row of such elements -/
def Far (W : World) (row : Option Nat) (e : TypeId) : Prop := ∀ g cur t fr, row = some g → W.heap[g]? = some (.cells cur t fr) → t ≠ e
theorem own_far {W W' : World} {B s n : Nat} {e : TypeId} {v : Value} {xs : List Value} {row : Option Nat} (h : W.ownsRow B e s v n xs) (hg : W.grownBy W' row) (hf : Far W row e) : W'.ownsRow B e s v n xs := by
 refine h.kept hg ?_
 rcases h.2 with ⟨h0, _⟩ | ⟨g, cap, cur, hv, _, hgg, _⟩
 ·left; rw [h0]; rfl
 ·right
  rw [hv]
  intro e1
  exact hf g cur e (0, 0) e1.symm hgg rfl
theorem far_row {W : World} {B s n : Nat} {e e' : TypeId} {v : Value} {xs : List Value} (h : W.ownsRow B e s v n xs) (hne : e ≠ e') : Far W v.ownBlock e' := by
 intro g cur t fr hr hg
 rcases h.2 with ⟨h0, _⟩ | ⟨g', cap, cur', hv, _, hgg, _⟩
 ·rw [h0] at hr; cases hr
 ·rw [hv] at hr
  simp only [Value.ownBlock, Option.some.injEq] at hr
  subst hr
  rw [hgg] at hg
  simp only [Option.some.injEq, Obj.cells.injEq] at hg
  rw [← hg.2.1]; exact hne
theorem far_rdr {R n c : Nat} {w : World} {a : Option Addr} {l : List UInt8} (h : Rdr R w a n c l) {e : TypeId} (hne : 104 ≠ e) : Far w (some R) e := by
 intro g cur t fr hr hg
 simp only [Option.some.injEq] at hr
 subst hr
 rw [h.box] at hg
 simp only [Option.some.injEq, Obj.cells.injEq] at hg
 rw [← hg.2.1]; exact hne
theorem far_none (W : World) (e : TypeId) : Far W none e := fun g cur t fr hr _ => by cases hr
theorem grown_below {W W' : World} (hb : Below W.heap.size W W') : W.grownBy W' none := ⟨hb.os, hb.tape, hb.output, hb.size, fun i hi _ => hb.block i hi⟩

structure FtOwn (B : Nat) (W : World) (f : Ft) : Prop where
 own : W.ownsRow B 3 1 (.slice f.a f.k.length f.cap) f.k.length (vals f.k)
 key : ∀ x ∈ f.k, I64 x
 num : I64 f.v
theorem FtOwn.far {B : Nat} {W W' : World} {f : Ft} {row : Option Nat} (h : FtOwn B W f) (hg : W.grownBy W' row) (h1 : Far W row 3) : FtOwn B W' f := ⟨own_far h.own hg h1, h.key, h.num⟩
def factC (f : Ft) : List Value := [.slice f.a f.k.length f.cap, .int .i64 f.v]
structure FsOwn (B : Nat) (W : World) (v : Value) (fs : List Ft) : Prop where
 own : W.ownsRow B 97 2 v fs.length (fs.flatMap factC)
 all : ∀ f ∈ fs, FtOwn B W f
theorem FsOwn.far {B : Nat} {W W' : World} {v : Value} {fs : List Ft} {row : Option Nat} (h : FsOwn B W v fs) (hg : W.grownBy W' row) (h1 : Far W row 3) (h2 : Far W row 97) : FsOwn B W' v fs := ⟨own_far h.own hg h2, fun f hf => (h.all f hf).far hg h1⟩
structure EtOwn (B : Nat) (W : World) (e : Et) : Prop where
 own : FsOwn B W (.slice e.a e.fs.length e.cap) e.fs
 num : U32 e.t
def entC (e : Et) : List Value := [.int .u32 e.t, .slice e.a e.fs.length e.cap]
theorem EtOwn.far {B : Nat} {W W' : World} {e : Et} {row : Option Nat} (h : EtOwn B W e) (hg : W.grownBy W' row) (h1 : Far W row 3) (h2 : Far W row 97) : EtOwn B W' e := ⟨h.own.far hg h1 h2, h.num⟩
structure EsOwn (B : Nat) (W : World) (v : Value) (es : List Et) : Prop where
 own : W.ownsRow B 77 2 v es.length (es.flatMap entC)
 all : ∀ e ∈ es, EtOwn B W e
theorem EsOwn.far {B : Nat} {W W' : World} {v : Value} {es : List Et} {row : Option Nat} (h : EsOwn B W v es) (hg : W.grownBy W' row) (h1 : Far W row 3) (h2 : Far W row 97) (h3 : Far W row 77) : EsOwn B W' v es := ⟨own_far h.own hg h3, fun f hf => (h.all f hf).far hg h1 h2⟩
def spanC (s : PSpan) : List Value := [.int .i64 s.1, .int .i64 s.2]
structure SsOwn (B : Nat) (W : World) (v : Value) (ss : List PSpan) : Prop where
 own : W.ownsRow B 92 2 v ss.length (ss.flatMap spanC)
 all : ∀ s ∈ ss, I64 s.1 ∧ I64 s.2
theorem SsOwn.far {B : Nat} {W W' : World} {v : Value} {ss : List PSpan} {row : Option Nat} (h : SsOwn B W v ss) (hg : W.grownBy W' row) (h1 : Far W row 92) : SsOwn B W' v ss := ⟨own_far h.own hg h1, h.all⟩
structure NsOwn (B : Nat) (W : World) (v : Value) (l : List Int) : Prop where
 own : W.ownsRow B 3 1 v l.length (vals l)
 all : ∀ x ∈ l, I64 x
theorem NsOwn.far {B : Nat} {W W' : World} {v : Value} {l : List Int} {row : Option Nat} (h : NsOwn B W v l) (hg : W.grownBy W' row) (h1 : Far W row 3) : NsOwn B W' v l := ⟨own_far h.own hg h1, h.all⟩

theorem Rdr.kept {R n c : Nat} {w w' : World} {a : Option Addr} {l : List UInt8} (h : Rdr R w a n c l) (hk : ∀ i, i ≤ R → w'.heap[i]? = w.heap[i]?) : Rdr R w' a n c l := by
 refine ⟨(hk R (Nat.le_refl _)).trans h.box, h.len, h.cap, h.low, ?_⟩
 rcases h.mem with h0 | ⟨b, off, ha, hc⟩
 ·exact .inl h0
 ·exact .inr ⟨b, off, ha, fun i hi => (World.cell?_of_block (a := ⟨b, off + i, none⟩) (hk b (by have := h.low (by rintro rfl; simp at hi) _ ha; simp at this; omega))).trans (hc i hi)⟩
def RdL (R : Nat) (w : World) (l : List UInt8) : Prop := ∃ a n c, Rdr R w a n c l
theorem RdL.lt {R : Nat} {w : World} {l : List UInt8} (h : RdL R w l) : R < w.heap.size := by
 obtain ⟨a, n, c, h⟩ := h
 exact cell_lt h.cell
theorem RdL.keep {R : Nat} {w w' : World} {l : List UInt8} (h : RdL R w l) (hb : Below w.heap.size w w') : RdL R w' l := by
 obtain ⟨a, n, c, h⟩ := h
 exact ⟨a, n, c, h.keep hb⟩
theorem Went.trans {R : Nat} {w w1 w2 : World} {l l' : List UInt8} (h : Went R w w1 l) (k : Went R w1 w2 l') : Went R w w2 l' :=
 ⟨k.rdr, ⟨k.grown.os.trans h.grown.os, k.grown.tape.trans h.grown.tape, k.grown.output.trans h.grown.output, Nat.le_trans h.grown.size k.grown.size, fun i hi hne => (k.grown.block i (Nat.lt_of_lt_of_le hi h.grown.size) hne).trans (h.grown.block i hi hne)⟩⟩
theorem grown_trans {w w1 w2 : World} {row : Option Nat} (h : w.grownBy w1 row) (k : w1.grownBy w2 row) : w.grownBy w2 row :=
 ⟨k.os.trans h.os, k.tape.trans h.tape, k.output.trans h.output, Nat.le_trans h.size k.size, fun i hi hne => (k.block i (Nat.lt_of_lt_of_le hi h.size) hne).trans (h.block i hi hne)⟩
theorem Went.row {R : Nat} {w w2 w3 : World} {l : List UInt8} {row : Option Nat} (h : Went R w w2 l) (hg : w2.grownBy w3 row) (hr : ∀ g, row = some g → w.heap.size ≤ g) (hR : R < w.heap.size) : Went R w w3 l := by
 have hb : ∀ i, i < w.heap.size → w3.heap[i]? = w2.heap[i]? := fun i hi => hg.block i (Nat.lt_of_lt_of_le hi h.grown.size) fun e => by have := hr i e.symm; omega
 obtain ⟨a, n, c, hr2⟩ := h.rdr
 exact ⟨⟨a, n, c, hr2.kept fun i hi => hb i (by omega)⟩, ⟨hg.os.trans h.grown.os, hg.tape.trans h.grown.tape, hg.output.trans h.grown.output, Nat.le_trans h.grown.size hg.size, fun i hi hne => (hb i hi).trans (h.grown.block i hi hne)⟩⟩
theorem Went.below {R : Nat} {w w2 w3 : World} {l : List UInt8} (h : Went R w w2 l) (hb : Below w2.heap.size w2 w3) (hR : R < w.heap.size) : Went R w w3 l := h.row (grown_below hb) (fun g e => by cases e) hR
theorem Went.start {R : Nat} {w w2 : World} {l : List UInt8} (h : RdL R w l) (hb : Below w.heap.size w w2) : Went R w w2 l := ⟨h.keep hb, ⟨hb.os, hb.tape, hb.output, hb.size, fun i hi _ => hb.block i hi⟩⟩

/-- what comes of a read: a value, or what is missing -/
def PostX {γ : Type} (R : Nat) (w : World) (o : Option (γ × List UInt8)) (Got : γ → Value → World → Prop) (e : Ending) (w' : World) : Prop :=
 match o with
 | some (y, l') => ∃ v, e = .returned v ∧ Got y v w' ∧ Went R w w' l'
 | none => (∃ m, e = .panicked [{ v := .iface 101 (.int .i64 m), recovered := false }]) ∧ w.grownBy w' (some R)
theorem PostX.some {γ : Type} {R : Nat} {w w' : World} {o : Option (γ × List UInt8)} {Got : γ → Value → World → Prop} {v : Value} {y : γ} {l' : List UInt8} (h : o = .some (y, l')) (h1 : Got y v w') (h2 : Went R w w' l') : PostX R w o Got (.returned v) w' := by
 unfold PostX; rw [h]; exact ⟨v, rfl, h1, h2⟩
theorem PostX.none {γ : Type} {R : Nat} {w w' : World} {o : Option (γ × List UInt8)} {Got : γ → Value → World → Prop} {m : Int} (h : o = .none) (h2 : w.grownBy w' (.some R)) : PostX R w o Got (.panicked [{ v := .iface 101 (.int .i64 m), recovered := false }]) w' := by
 unfold PostX; rw [h]; exact ⟨⟨m, rfl⟩, h2⟩
theorem PostX.got {γ : Type} {R : Nat} {w w' : World} {o : Option (γ × List UInt8)} {Got : γ → Value → World → Prop} {e : Ending} {y : γ} {l' : List UInt8} (h : PostX R w o Got e w') (ho : o = .some (y, l')) : ∃ v, e = .returned v ∧ Got y v w' ∧ Went R w w' l' := by
 unfold PostX at h; rw [ho] at h; exact h
theorem PostX.miss {γ : Type} {R : Nat} {w w' : World} {o : Option (γ × List UInt8)} {Got : γ → Value → World → Prop} {e : Ending} (h : PostX R w o Got e w') (ho : o = .none) : (∃ m, e = .panicked [{ v := .iface 101 (.int .i64 m), recovered := false }]) ∧ w.grownBy w' (.some R) := by
 unfold PostX at h; rw [ho] at h; exact h
/-- a function that reads one -/
def Reads {γ : Type} (R B f : Nat) (p : Ps γ) (Got : γ → Value → World → Prop) : Prop :=
 ∀ w l, B ≤ w.heap.size → RdL R w l → l.length ≤ 60000 → Calls Try.prog f #[.pointer (some ⟨R, 0, none⟩)] w fun e w' => PostX R w (p l) Got e w'

theorem pInt_some {k : Nat} {l : List UInt8} (h : k ≤ l.length) : pInt k l = some (((valB (l.take k) : Nat) : Int), l.drop k) := by
 unfold pInt pGet; rw [if_pos h]; rfl
theorem pInt_none {k : Nat} {l : List UInt8} (h : l.length < k) : pInt k l = none := by
 unfold pInt pGet; rw [if_neg (by omega)]; rfl
theorem pI64_some {l : List UInt8} (h : 8 ≤ l.length) : pI64 l = some (asI64 (valB (l.take 8)), l.drop 8) := by unfold pI64 pGet; rw [if_pos h]; rfl
theorem pI64_none {l : List UInt8} (h : l.length < 8) : pI64 l = none := by unfold pI64 pGet; rw [if_neg (by omega)]; rfl
theorem grown_refl (w : World) (row : Option Nat) : w.grownBy w row := ⟨rfl, rfl, rfl, Nat.le_refl _, fun _ _ _ => rfl⟩

/-- the numbers, read by size -/
theorem rint (R : Nat) (w : World) (l : List UInt8) (h : RdL R w l) (k : Nat) (h1 : 1 ≤ k) (h4 : k ≤ 4) :
  Calls Try.prog 66 #[.pointer (some ⟨R, 0, none⟩), .int .i64 k] w fun e w' => PostX R w (pInt k l) (fun y v _ => v = .int .i64 y) e w' := by
 obtain ⟨a, n, c, h⟩ := h
 have hl := h.len
 by_cases hk : k ≤ n
 ·exact (read_int R n c w a l h k h1 h4 hk).mono fun e w' ⟨e1, e2⟩ => by rw [e1]; exact PostX.some (pInt_some (by omega)) rfl e2
 ·exact (miss_int R n c w a l h k (by omega) (by omega)).mono fun e w' ⟨⟨m, e1⟩, e2⟩ => by rw [e1, e2]; exact PostX.none (pInt_none (by omega)) (grown_refl _ _)
theorem ru32 (R : Nat) (w : World) (l : List UInt8) (h : RdL R w l) (k : Nat) (h1 : 1 ≤ k) (h4 : k ≤ 4) :
  Calls Try.prog 59 #[.pointer (some ⟨R, 0, none⟩), .int .i64 k] w fun e w' => PostX R w (pInt k l) (fun y v _ => v = .int .u32 y) e w' := by
 obtain ⟨a, n, c, h⟩ := h
 have hl := h.len
 by_cases hk : k ≤ n
 ·exact (read_u32 R n c w a l h k h1 h4 hk).mono fun e w' ⟨e1, e2⟩ => by rw [e1]; exact PostX.some (pInt_some (by omega)) rfl e2
 ·exact (miss_u32 R n c w a l h k (by omega) (by omega)).mono fun e w' ⟨⟨m, e1⟩, e2⟩ => by rw [e1, e2]; exact PostX.none (pInt_none (by omega)) (grown_refl _ _)
theorem ru8 (R : Nat) (w : World) (l : List UInt8) (h : RdL R w l) :
  Calls Try.prog 58 #[.pointer (some ⟨R, 0, none⟩), .int .i64 1] w fun e w' => PostX R w (pInt 1 l) (fun y v _ => v = .int .u8 y) e w' := by
 obtain ⟨a, n, c, h⟩ := h
 have hl := h.len
 by_cases hk : 1 ≤ n
 ·exact (read_u8 R n c w a l h 1 (by omega) (by omega) hk).mono fun e w' ⟨e1, e2⟩ => by rw [e1]; exact PostX.some (pInt_some (by omega)) rfl e2
 ·exact (miss_u8 R n c w a l h 1 (by omega) (by omega)).mono fun e w' ⟨⟨m, e1⟩, e2⟩ => by rw [e1, e2]; exact PostX.none (pInt_none (by omega)) (grown_refl _ _)
theorem ri64 (R : Nat) (w : World) (l : List UInt8) (h : RdL R w l) :
  Calls Try.prog 83 #[.pointer (some ⟨R, 0, none⟩), .int .i64 8] w fun e w' => PostX R w (pI64 l) (fun y v _ => v = .int .i64 y) e w' := by
 obtain ⟨a, n, c, h⟩ := h
 have hl := h.len
 by_cases hk : 8 ≤ n
 ·exact (read_int64 R n c w a l h 8 (by omega) (by omega) hk).mono fun e w' ⟨e1, e2⟩ => by rw [e1]; exact PostX.some (pI64_some (by omega)) rfl e2
 ·exact (miss_int64 R n c w a l h 8 (by omega) (by omega)).mono fun e w' ⟨⟨m, e1⟩, e2⟩ => by rw [e1, e2]; exact PostX.none (pI64_none (by omega)) (grown_refl _ _)
theorem pInt_lt {k : Nat} {l l' : List UInt8} {y : Int} (h : pInt k l = some (y, l')) : 0 ≤ y ∧ y < 256 ^ k ∧ l'.length + k = l.length := by
 unfold pInt at h
 obtain ⟨⟨v, l1⟩, h1, h2⟩ := Option.map_eq_some_iff.1 h
 simp only [Prod.mk.injEq] at h2
 obtain ⟨rfl, rfl⟩ := h2
 have := pGet_val h1
 have e : ((256 ^ k : Nat) : Int) = (256 : Int) ^ k := by simp
 exact ⟨by omega, by omega, this.2⟩
theorem pI64_lt {l l' : List UInt8} {y : Int} (h : pI64 l = some (y, l')) : I64 y ∧ l'.length + 8 = l.length := by
 unfold pI64 at h
 obtain ⟨⟨v, l1⟩, h1, h2⟩ := Option.map_eq_some_iff.1 h
 simp only [Prod.mk.injEq] at h2
 obtain ⟨rfl, rfl⟩ := h2
 have := pGet_val h1
 have h8 : (256 : Nat) ^ 8 = 18446744073709551616 := by decide
 refine ⟨?_, this.2⟩
 unfold I64 asI64
 split <;> omega
theorem grown_at (w : World) (b o : Nat) (v : Value) : w.grownBy (w.setCell ⟨b, o, none⟩ v) (some b) :=
 ⟨rfl, rfl, rfl, by simp [World.setCell], fun k hk hne => by
  have : b ≠ k := fun e => hne (by rw [e])
  simp [World.setCell, Array.getElem?_modify, this]⟩
/-- a variable of the call's own -/
def Boxed (w : World) (h : Nat) (cs : Array Value) (t : TypeId) : Prop := w.heap[h]? = some (.cells cs t (0, 0))
theorem Boxed.new (w : World) (cs : Array Value) (t : TypeId) : Boxed (w.alloc (.cells cs t)) w.heap.size cs t := heap_alloc_new w _
theorem Boxed.cell {w : World} {h : Nat} {cs : Array Value} {t : TypeId} (hb : Boxed w h cs t) {j : Nat} {x : Value} (hx : cs[j]? = some x) : w.cell? ⟨h, j, none⟩ = some x := by
 rw [cell_of_row w h j cs t (0, 0) hb]; exact hx
theorem Boxed.frz {w : World} {h : Nat} {cs : Array Value} {t : TypeId} (hb : Boxed w h cs t) (j : Nat) : w.frozen? ⟨h, j, none⟩ = false := by
 unfold Boxed at hb
 simp [World.frozen?, hb]
theorem Boxed.lt {w : World} {h : Nat} {cs : Array Value} {t : TypeId} (hb : Boxed w h cs t) : h < w.heap.size := (Array.getElem?_eq_some_iff.1 hb).1
theorem Boxed.grown {w w' : World} {h : Nat} {cs : Array Value} {t : TypeId} (hb : Boxed w h cs t) {row : Option Nat} (hg : w.grownBy w' row) (hne : some h ≠ row) : Boxed w' h cs t := (hg.block h hb.lt hne).trans hb
theorem Boxed.below {w w' : World} {h : Nat} {cs : Array Value} {t : TypeId} (hb : Boxed w h cs t) (hg : Below w.heap.size w w') : Boxed w' h cs t := (hg.block h hb.lt).trans hb
theorem Boxed.set {w : World} {h : Nat} {cs : Array Value} {t : TypeId} (hb : Boxed w h cs t) (j : Nat) (v : Value) : Boxed (w.setCell ⟨h, j, none⟩ v) h (cs.setIfInBounds j v) t := by
 unfold Boxed at hb ⊢
 simp [World.setCell, Array.getElem?_modify, hb]
theorem Boxed.far {w : World} {h : Nat} {cs : Array Value} {t e : TypeId} (hb : Boxed w h cs t) (hne : t ≠ e) : Far w (some h) e := by
 intro g cur t' fr hr hg
 simp only [Option.some.injEq] at hr
 subst hr
 unfold Boxed at hb
 rw [hb] at hg
 simp only [Option.some.injEq, Obj.cells.injEq] at hg
 rw [← hg.2.1]; exact hne
theorem RdL.far {R : Nat} {w : World} {l : List UInt8} (h : RdL R w l) {e : TypeId} (hne : 104 ≠ e) : Far w (some R) e := by
 obtain ⟨a, n, c, h⟩ := h
 exact far_rdr h hne
end Go.Proofs.Ytlcjllgfpfldlaa.code

namespace Go.Proofs.Ytlcjllgfpfldlaa.code
open Go.ChangeShapes Go.WideShapes Go.ChangeAt Go.RowKit Go.Deep
set_option linter.unusedVariables false
set_option maxRecDepth 100000

set_option maxHeartbeats 4000000 in
theorem catch_idle (p q : Addr) (w : World) :
  CallsD Try.prog 48 #[.pointer (some p), .pointer (some q)] .returning w fun e u' w' => e = .returned (.tuple #[]) ∧ u' = .returning ∧ w' = w := by
 refine callsD_of_wpS Try.func48 rfl fun c₀ cs hu => ?_
 apply wpS_seq
 apply wpS_region
 simp [wpOpsS, go_sem, recoverD, hu, Try.ntmps48, Exit.thenS, Array.replicate]
 refine wpS_of_wp ?_
 have hnil : ∀ w : World, (binOp BinOp.eql 20 .nilIface .nilIface).run Try.prog w = .ok (.bool true) w := fun _ => by kernel_rfl
 go_wp2
 cases c₀
 simp_all [bodyPostS, results, Try.results48]

def recZ : Array Value := #[.int .u8 0, .int .u32 0, .int .u32 0, .slice none 0 0, .slice none 0 0, .int .u32 0, .slice none 0 0, .int .i64 0, .int .i64 0, .slice none 0 0]
/-- behind the deferred function: no record, and why -/
structure Caught (h0 h1 : Nat) (w w' : World) : Prop where
 two : ∃ w2, w.grownBy w2 (some h0) ∧ w2.grownBy w' (some h1)
 b0 : Boxed w' h0 recZ 44
 b1 : Boxed w' h1 #[.int .u16 70] 30

set_option maxHeartbeats 4000000 in
theorem catch_missing (h0 h1 : Nat) (m : Int) (w : World) (x1 : Value) (hx : Boxed w h0 recZ 44) (hy : Boxed w h1 #[x1] 30) (hne : h0 ≠ h1) :
  CallsD Try.prog 48 #[.pointer (some ⟨h0, 0, none⟩), .pointer (some ⟨h1, 0, none⟩)] (.panicking [{ v := .iface 101 (.int .i64 m), recovered := false }]) w fun e u' w' =>
   e = .returned (.tuple #[]) ∧ u' = .panicking [{ v := .iface 101 (.int .i64 m), recovered := true }] ∧ Caught h0 h1 w w' := by
 refine callsD_of_wpS Try.func48 rfl fun c₀ cs hu => ?_
 apply wpS_seq
 apply wpS_region
 simp [wpOpsS, go_sem, recoverD, hu, Try.ntmps48, Exit.thenS, Array.replicate]
 refine wpS_of_wp ?_
 have hnil : ∀ (w : World), (binOp BinOp.eql 20 (.iface 101 (.int .i64 m)) .nilIface).run Try.prog w = .ok (.bool false) w := fun _ => by kernel_rfl
 have hta : ∀ (w : World), (Instr.typeAssert (.iface 101 (.int .i64 m)) 20 101 true).run Try.prog w = .ok (.tuple #[.int .i64 m, .bool true]) w := fun _ => by kernel_rfl
 have c0 := hx.cell (j := 0) rfl
 have z0 := hx.frz 0
 have c1 := hx.cell (j := 1) rfl
 have z1 := hx.frz 1
 have c2 := hx.cell (j := 2) rfl
 have z2 := hx.frz 2
 have c3 := hx.cell (j := 3) rfl
 have z3 := hx.frz 3
 have c4 := hx.cell (j := 4) rfl
 have z4 := hx.frz 4
 have c5 := hx.cell (j := 5) rfl
 have z5 := hx.frz 5
 have c6 := hx.cell (j := 6) rfl
 have z6 := hx.frz 6
 have c7 := hx.cell (j := 7) rfl
 have z7 := hx.frz 7
 have c8 := hx.cell (j := 8) rfl
 have z8 := hx.frz 8
 have c9 := hx.cell (j := 9) rfl
 have z9 := hx.frz 9
 have y0 := hy.cell (j := 0) rfl
 have yz := hy.frz 0
 have H : Aside (Boxed w h0 recZ 44 ∧ Boxed w h1 #[x1] 30) := ⟨hx, hy⟩
 have hne2 : ¬ h1 = h0 := fun e => hne e.symm
 have hne3 : ¬ h0 = h1 := hne
 clear hx hy hne
 go_wp2
 simp only [bodyPostS, results, Try.results48]
 have hG : w.grownBy ((((((((((w.setCell ⟨h0, 0, none⟩ (.int .u8 0)).setCell ⟨h0, 1, none⟩ (.int .u32 0)).setCell ⟨h0, 2, none⟩ (.int .u32 0)).setCell ⟨h0, 3, none⟩ (.slice none 0 0)).setCell ⟨h0, 4, none⟩ (.slice none 0 0)).setCell ⟨h0, 5, none⟩ (.int .u32 0)).setCell ⟨h0, 6, none⟩ (.slice none 0 0)).setCell ⟨h0, 7, none⟩ (.int .i64 0)).setCell ⟨h0, 8, none⟩ (.int .i64 0)).setCell ⟨h0, 9, none⟩ (.slice none 0 0)) (some h0) := by
  iterate 9 (refine grown_trans ?_ (grown_at _ _ _ _))
  exact grown_at _ _ _ _
 have hb0 := ((((((((((H.out.1.set 0 (.int .u8 0)).set 1 (.int .u32 0)).set 2 (.int .u32 0)).set 3 (.slice none 0 0)).set 4 (.slice none 0 0)).set 5 (.int .u32 0)).set 6 (.slice none 0 0)).set 7 (.int .i64 0)).set 8 (.int .i64 0)).set 9 (.slice none 0 0))
 have hK : Caught h0 h1 w (((((((((((w.setCell ⟨h0, 0, none⟩ (.int .u8 0)).setCell ⟨h0, 1, none⟩ (.int .u32 0)).setCell ⟨h0, 2, none⟩ (.int .u32 0)).setCell ⟨h0, 3, none⟩ (.slice none 0 0)).setCell ⟨h0, 4, none⟩ (.slice none 0 0)).setCell ⟨h0, 5, none⟩ (.int .u32 0)).setCell ⟨h0, 6, none⟩ (.slice none 0 0)).setCell ⟨h0, 7, none⟩ (.int .i64 0)).setCell ⟨h0, 8, none⟩ (.int .i64 0)).setCell ⟨h0, 9, none⟩ (.slice none 0 0)).setCell ⟨h1, 0, none⟩ (.int .u16 70)) :=
  ⟨⟨_, hG, grown_at _ _ _ _⟩, Boxed.grown hb0 (grown_at _ _ _ _) (by simp only [ne_eq, Option.some.injEq]; exact hne3), (H.out.2.grown hG (by simp only [ne_eq, Option.some.injEq]; exact hne2)).set 0 _⟩
 simp [hK]
end Go.Proofs.Ytlcjllgfpfldlaa.code
