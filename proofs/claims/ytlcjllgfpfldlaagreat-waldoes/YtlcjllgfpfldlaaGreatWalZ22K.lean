/-
 Bytes of a call's own; facts, entries, spans and records in memory.
 Facts, entries, spans and records that can be read in memory.
 The program's reader: what it holds; its take.
 Numbers read: the program's read at each of its types.
 What a reader has read: lists in memory of the call's own.
 The function that Decode defers.
 Lists read: the program's readAll at each of its types.
 A node, a place, a fact, a span, an entry read: the program's functions.
-/
import Derived.Test.YtlcjllgfpfldlaaGreatDimsRows
import Derived.Test.YtlcjllgfpfldlaaGreatWalZ18K
import Derived.Laws.IdiomStrings
import Derived.Lib.SmallJoins
import Derived.Laws.Bits64b
import Derived.Defers
import Derived.Recover
set_option maxHeartbeats 8000000
open Go.ChangeShapes Go.WideShapes Go.ChangeAt Go.RowKit Go.Deep
set_option linter.unusedVariables false
set_option maxRecDepth 100000
namespace Go.Proofs.YtlcjllgfpfldlaaGreat
namespace code
open dims (nth Ints cell_lt vals own_below own_mono own_out)
def Bs (B : Nat) (w : World) (v : Value) (l : List UInt8) : Prop := w.ownsRow B 5 1 v l.length (Lib.byteCells l)
structure Gr (w : World) (v : Value) (w' : World) (v' : Value) : Prop where
 grown : w.grownBy w' v.ownBlock
 row : ∀ g, v'.ownBlock = some g → v.ownBlock = some g ∨ w.heap.size ≤ g
theorem Gr.refl (w : World) (v : Value) : Gr w v w v := ⟨⟨rfl, rfl, rfl, nrQ _, fun _ _ _ => rfl⟩, fun g h => .inl h⟩
theorem Gr.trans {w w1 w2 : World} {v v1 v2 : Value} (h : Gr w v w1 v1) (k : Gr w1 v1 w2 v2) : Gr w v w2 v2 := by
 refine ⟨⟨k.grown.os.trans h.grown.os, k.grown.tape.trans h.grown.tape, k.grown.output.trans h.grown.output, ntQ h.grown.size k.grown.size, fun g hg hne => ?_⟩, fun g hg => ?_⟩
 ·rw [k.grown.block g (Nat.lt_of_lt_of_le hg h.grown.size) ?_, h.grown.block g hg hne]
  intro e
  rcases h.row g e.symm with h1 | h1
  ·exact hne h1.symm
  ·omega
 ·rcases k.row g hg with h1 | h1
  ·exact h.row g h1
  ·exact .inr (ntQ h.grown.size h1)
theorem Gr.of_below {w w' : World} (v : Value) (hb : Below w.heap.size w w') : Gr w v w' v := ⟨⟨hb.os, hb.tape, hb.output, hb.size, fun i hi _ => hb.block i hi⟩, fun g h => .inl h⟩
theorem Gr.alloc (w : World) (v : Value) (o : Obj) : Gr w v (w.alloc o) v := ⟨World.grownBy_alloc w o _, fun g h => .inl h⟩
theorem Gr.cell {w w' : World} {v v' : Value} (h : Gr w v w' v') {b o : Nat} {x : Value} (hc : w.cell? ⟨b, o, none⟩ = some x) (hne : some b ≠ v.ownBlock) : w'.cell? ⟨b, o, none⟩ = some x := h.grown.cell (a := ⟨b, o, none⟩) hc hne
theorem Gr.below {B : Nat} {w w' : World} {v v' : Value} {l : List UInt8} (h : Gr w v w' v') (ho : Bs B w v l) (hB : B ≤ w.heap.size) : Below B w w' := (Below.refl _ _).grown h.grown hB fun q hq => (ho.lt q hq).1
theorem Bs.nil (B : Nat) (w : World) : Bs B w (.slice none 0 0) [] := World.ownsRow_nil _ _ _ _
theorem Bs.alloc {B : Nat} {w : World} {v : Value} {l : List UInt8} (h : Bs B w v l) (o : Obj) : Bs B (w.alloc o) v l := World.ownsRow.alloc h o
theorem Bs.keep {B : Nat} {w w' : World} {v : Value} {l : List UInt8} (h : Bs B w v l) (hb : Below w.heap.size w w') : Bs B w' v l := own_below h hb
theorem Bs.form {B : Nat} {w : World} {v : Value} {l : List UInt8} (h : Bs B w v l) : ∃ a c, v = .slice a l.length c := by
 rcases h.2 with ⟨h1, h2⟩ | ⟨g, cap, cur, h1, _⟩
 ·rw [h1, h2]; exact ⟨_, _, rfl⟩
 ·exact ⟨_, _, h1⟩
theorem hid {p : Prop} (h : p) : Hid p := h
theorem info_u8 : (Tryz.prog.info? 5).map (fun i => (i.zero, i.size, i.bytes)) = some (some (.int .u8 0), 1, 1) := by kernel_rfl
theorem cell_one_new (w : World) (v : Value) (t : TypeId) : ∀ j u, [v][j]? = some u → (w.alloc (.cells #[v] t)).cell? ((⟨w.heap.size, 0, none⟩ : Addr).add j) = some u := by
 intro j u hj
 match j, hj with
 | 0, hj => simp at hj; subst hj; simp [Addr.add, go_sem]
 | j + 1, hj => simp at hj
theorem byteCells_snoc (l : List UInt8) (x : Nat) : Lib.byteCells (l ++ [UInt8.ofNat x]) = Lib.byteCells l ++ [Value.int .u8 ((x % 256 : Nat) : Int)] := by simp [Lib.byteCells]

theorem Bs.push {B n : Nat} {w w3 : World} {v : Value} {l : List UInt8} {x : Nat} {g c : Nat} {y : Int} {o : Obj} (hn : l.length = n) (hy : y = ((x % 256 : Nat) : Int))
  (hown : w3.ownsRow B 5 1 (.slice (some ⟨g, 0, none⟩) (n + 1) c) (n + 1) (Lib.byteCells l ++ [Value.int .u8 y])) (hg : (w.alloc o).grownBy w3 v.ownBlock) (hat : v.ownBlock = some g ∨ g = w.heap.size + 1) :
  Bs B w3 (.slice (some ⟨g, 0, none⟩) (n + 1) c) (l ++ [UInt8.ofNat x]) ∧ Gr w v w3 (.slice (some ⟨g, 0, none⟩) (n + 1) c) := by
 subst hn hy
 refine ⟨?_, (Gr.alloc w v o).trans ⟨hg, fun q hq => ?_⟩⟩
 ·unfold Bs
  rw [byteCells_snoc]
  simpa using hown
 ·simp only [Value.ownBlock, oiQ] at hq
  subst hq
  rcases hat with h | h
  ·exact .inl h
  ·right; simp; omega
structure Ft where
 a : Option Addr
 cap : Nat
 k : List Int
 v : Int
def ftn (fs : List Ft) (i : Nat) : Ft := fs.getD i ⟨none, 0, [], 0⟩
theorem ftn_mem {fs : List Ft} {i : Nat} (h : i < fs.length) : ftn fs i ∈ fs := by simp [ftn, h]
theorem ftn_eq {fs : List Ft} {i : Nat} (h : i < fs.length) : ftn fs i = fs[i] := by simp [ftn, h]
def pf (f : Ft) : PFact := (f.k, f.v)
def ftV (f : Ft) : Value := .agg #[.slice f.a f.k.length f.cap, .int .i64 f.v]
structure FtOk (w : World) (f : Ft) : Prop where
 mem : Ints w f.a f.k
 len : f.k.length ≤ 9223372036854775807
 key : ∀ x ∈ f.k, I64 x
 num : I64 f.v
theorem FtOk.keep {w w1 : World} {f : Ft} (h : FtOk w f) (hb : Below w.heap.size w w1) : FtOk w1 f := ⟨h.mem.keep hb, h.len, h.key, h.num⟩
def FactsIn (w : World) (a : Option Addr) (fs : List Ft) : Prop :=
 fs = [] ∨ ∃ b off, a = some ⟨b, off, none⟩ ∧ ∀ i, i < fs.length → w.cell? ⟨b, off + i * 2, none⟩ = some (.slice (ftn fs i).a (ftn fs i).k.length (ftn fs i).cap) ∧ w.cell? ⟨b, off + i * 2 + 1, none⟩ = some (.int .i64 (ftn fs i).v) ∧ FtOk w (ftn fs i)
theorem FactsIn.keep {w w1 : World} {a : Option Addr} {fs : List Ft} (h : FactsIn w a fs) (hb : Below w.heap.size w w1) : FactsIn w1 a fs := by
 rcases h with h | ⟨b, off, ha, hc⟩
 ·exact .inl h
 ·refine .inr ⟨b, off, ha, fun i hi => ?_⟩
  obtain ⟨h1, h2, h3⟩ := hc i hi
  exact ⟨(hb.cell (p := ⟨b, off + i * 2, none⟩) (cell_lt h1)).trans h1, (hb.cell (p := ⟨b, off + i * 2 + 1, none⟩) (cell_lt h2)).trans h2, h3.keep hb⟩
theorem FactsIn.get {w : World} {a : Option Addr} {fs : List Ft} (h : FactsIn w a fs) {k : Nat} (hk : k < fs.length) : ∃ b off, a = some ⟨b, off, none⟩ ∧ ∀ i, i < fs.length → w.cell? ⟨b, off + i * 2, none⟩ = some (.slice (ftn fs i).a (ftn fs i).k.length (ftn fs i).cap) ∧ w.cell? ⟨b, off + i * 2 + 1, none⟩ = some (.int .i64 (ftn fs i).v) ∧ FtOk w (ftn fs i) := by
 rcases h with rfl | h
 ·simp at hk
 ·exact h
theorem FactsIn.ok {w : World} {a : Option Addr} {fs : List Ft} (h : FactsIn w a fs) : ∀ f ∈ fs, FtOk w f := fun f hf => by
 obtain ⟨i, hi, rfl⟩ := List.mem_iff_getElem.1 hf
 obtain ⟨b, off, -, hc⟩ := h.get hi
 rw [← ftn_eq hi]; exact (hc i hi).2.2

structure Et where
 t : Int
 a : Option Addr
 cap : Nat
 fs : List Ft
def etn (es : List Et) (i : Nat) : Et := es.getD i ⟨0, none, 0, []⟩
theorem etn_mem {es : List Et} {i : Nat} (h : i < es.length) : etn es i ∈ es := by simp [etn, h]
theorem etn_eq {es : List Et} {i : Nat} (h : i < es.length) : etn es i = es[i] := by simp [etn, h]
def pe (e : Et) : PEnt := (e.t, e.fs.map pf)
def etV (e : Et) : Value := .agg #[.int .u32 e.t, .slice e.a e.fs.length e.cap]
structure EtOk (w : World) (e : Et) : Prop where
 mem : FactsIn w e.a e.fs
 len : e.fs.length ≤ 9223372036854775807
 num : U32 e.t
theorem EtOk.keep {w w1 : World} {f : Et} (h : EtOk w f) (hb : Below w.heap.size w w1) : EtOk w1 f := ⟨h.mem.keep hb, h.len, h.num⟩
def EntsIn (w : World) (a : Option Addr) (es : List Et) : Prop :=
 es = [] ∨ ∃ b off, a = some ⟨b, off, none⟩ ∧ ∀ i, i < es.length → w.cell? ⟨b, off + i * 2, none⟩ = some (.int .u32 (etn es i).t) ∧ w.cell? ⟨b, off + i * 2 + 1, none⟩ = some (.slice (etn es i).a (etn es i).fs.length (etn es i).cap) ∧ EtOk w (etn es i)
theorem EntsIn.keep {w w1 : World} {a : Option Addr} {es : List Et} (h : EntsIn w a es) (hb : Below w.heap.size w w1) : EntsIn w1 a es := by
 rcases h with h | ⟨b, off, ha, hc⟩
 ·exact .inl h
 ·refine .inr ⟨b, off, ha, fun i hi => ?_⟩
  obtain ⟨h1, h2, h3⟩ := hc i hi
  exact ⟨(hb.cell (p := ⟨b, off + i * 2, none⟩) (cell_lt h1)).trans h1, (hb.cell (p := ⟨b, off + i * 2 + 1, none⟩) (cell_lt h2)).trans h2, h3.keep hb⟩
theorem EntsIn.get {w : World} {a : Option Addr} {es : List Et} (h : EntsIn w a es) {k : Nat} (hk : k < es.length) : ∃ b off, a = some ⟨b, off, none⟩ ∧ ∀ i, i < es.length → w.cell? ⟨b, off + i * 2, none⟩ = some (.int .u32 (etn es i).t) ∧ w.cell? ⟨b, off + i * 2 + 1, none⟩ = some (.slice (etn es i).a (etn es i).fs.length (etn es i).cap) ∧ EtOk w (etn es i) := by
 rcases h with rfl | h
 ·simp at hk
 ·exact h
theorem EntsIn.ok {w : World} {a : Option Addr} {es : List Et} (h : EntsIn w a es) : ∀ f ∈ es, EtOk w f := fun f hf => by
 obtain ⟨i, hi, rfl⟩ := List.mem_iff_getElem.1 hf
 obtain ⟨b, off, -, hc⟩ := h.get hi
 rw [← etn_eq hi]; exact (hc i hi).2.2

def spn (ss : List PSpan) (i : Nat) : PSpan := ss.getD i (0, 0)
theorem spn_mem {ss : List PSpan} {i : Nat} (h : i < ss.length) : spn ss i ∈ ss := by simp [spn, h]
theorem spn_eq {ss : List PSpan} {i : Nat} (h : i < ss.length) : spn ss i = ss[i] := by simp [spn, h]
def spV (s : PSpan) : Value := .agg #[.int .i64 s.1, .int .i64 s.2]
def SpansIn (w : World) (a : Option Addr) (ss : List PSpan) : Prop :=
 ss = [] ∨ ∃ b off, a = some ⟨b, off, none⟩ ∧ ∀ i, i < ss.length → w.cell? ⟨b, off + i * 2, none⟩ = some (.int .i64 (spn ss i).1) ∧ w.cell? ⟨b, off + i * 2 + 1, none⟩ = some (.int .i64 (spn ss i).2) ∧ I64 (spn ss i).1 ∧ I64 (spn ss i).2
theorem SpansIn.keep {w w1 : World} {a : Option Addr} {ss : List PSpan} (h : SpansIn w a ss) (hb : Below w.heap.size w w1) : SpansIn w1 a ss := by
 rcases h with h | ⟨b, off, ha, hc⟩
 ·exact .inl h
 ·refine .inr ⟨b, off, ha, fun i hi => ?_⟩
  obtain ⟨h1, h2, h3⟩ := hc i hi
  exact ⟨(hb.cell (p := ⟨b, off + i * 2, none⟩) (cell_lt h1)).trans h1, (hb.cell (p := ⟨b, off + i * 2 + 1, none⟩) (cell_lt h2)).trans h2, h3⟩
theorem SpansIn.get {w : World} {a : Option Addr} {ss : List PSpan} (h : SpansIn w a ss) {k : Nat} (hk : k < ss.length) : ∃ b off, a = some ⟨b, off, none⟩ ∧ ∀ i, i < ss.length → w.cell? ⟨b, off + i * 2, none⟩ = some (.int .i64 (spn ss i).1) ∧ w.cell? ⟨b, off + i * 2 + 1, none⟩ = some (.int .i64 (spn ss i).2) ∧ I64 (spn ss i).1 ∧ I64 (spn ss i).2 := by
 rcases h with rfl | h
 ·simp at hk
 ·exact h

structure Rc where
 kind : Int
 id : Int
 at_ : Int
 na : Option Addr
 nc : Nat
 nodes : List Int
 fa : Option Addr
 fc : Nat
 facts : List Ft
 epoch : Int
 sa : Option Addr
 sc : Nat
 spans : List PSpan
 frm : Int
 til : Int
 ea : Option Addr
 ec : Nat
 ents : List Et
def rcC (r : Rc) : Array Value := #[.int .u8 r.kind, .int .u32 r.id, .int .u32 r.at_, .slice r.na r.nodes.length r.nc, .slice r.fa r.facts.length r.fc, .int .u32 r.epoch, .slice r.sa r.spans.length r.sc, .int .i64 r.frm, .int .i64 r.til, .slice r.ea r.ents.length r.ec]
def rcV (r : Rc) : Value := .agg (rcC r)
theorem hid_rc (r : Rc) {w W0 : World} (h : w.alloc (.cells (rcC r) 46) = W0) : Hid (w.alloc (.cells #[.int .u8 r.kind, .int .u32 r.id, .int .u32 r.at_, .slice r.na r.nodes.length r.nc, .slice r.fa r.facts.length r.fc, .int .u32 r.epoch, .slice r.sa r.spans.length r.sc, .int .i64 r.frm, .int .i64 r.til, .slice r.ea r.ents.length r.ec] 46) = W0) := h
theorem calls_rc (r : Rc) {P : Program} {F : FuncId} {w : World} {Q : Ending → World → Prop} (h : Calls P F #[.agg #[.int .u8 r.kind, .int .u32 r.id, .int .u32 r.at_, .slice r.na r.nodes.length r.nc, .slice r.fa r.facts.length r.fc, .int .u32 r.epoch, .slice r.sa r.spans.length r.sc, .int .i64 r.frm, .int .i64 r.til, .slice r.ea r.ents.length r.ec]] w Q) : Calls P F #[rcV r] w Q := h
def pr (r : Rc) : PRec := ⟨r.kind, r.id, r.at_, r.nodes, r.facts.map pf, r.epoch, r.spans, r.frm, r.til, r.ents.map pe⟩
structure RecIn (w : World) (r : Rc) : Prop where
 kind : 0 ≤ r.kind ∧ r.kind ≤ 255
 id : U32 r.id
 at_ : U32 r.at_
 nodes : Ints w r.na r.nodes
 nlen : r.nodes.length ≤ 9223372036854775807
 nok : ∀ x ∈ r.nodes, I64 x
 facts : FactsIn w r.fa r.facts
 flen : r.facts.length ≤ 9223372036854775807
 epoch : U32 r.epoch
 spans : SpansIn w r.sa r.spans
 slen : r.spans.length ≤ 9223372036854775807
 frm : I64 r.frm
 til : I64 r.til
 ents : EntsIn w r.ea r.ents
 elen : r.ents.length ≤ 9223372036854775807
theorem RecIn.keep {w w1 : World} {r : Rc} (h : RecIn w r) (hb : Below w.heap.size w w1) : RecIn w1 r :=
 ⟨h.kind, h.id, h.at_, h.nodes.keep hb, h.nlen, h.nok, h.facts.keep hb, h.flen, h.epoch, h.spans.keep hb, h.slen, h.frm, h.til, h.ents.keep hb, h.elen⟩
theorem RecIn.typed {w : World} {r : Rc} (h : RecIn w r) : Typed (pr r) := by
 refine ⟨h.kind, h.id, h.at_, h.epoch, fun f hf => ?_, fun e he => ?_⟩
 ·obtain ⟨f', hf', rfl⟩ := List.mem_map.1 hf
  exact (h.facts.ok f' hf').num
 ·obtain ⟨e', he', rfl⟩ := List.mem_map.1 he
  refine ⟨(h.ents.ok e' he').num, fun f hf => ?_⟩
  obtain ⟨f', hf', rfl⟩ := List.mem_map.1 hf
  exact ((h.ents.ok e' he').mem.ok f' hf').num
theorem nth_mem {l : List Int} {i : Nat} (h : i < l.length) : nth l i ∈ l := by simp [nth, h]
theorem nth_eq {l : List Int} {i : Nat} (h : i < l.length) : nth l i = l[i] := by simp [nth, h]
theorem take_nth (l : List Int) (k : Nat) (h : k < l.length) : l.take (k + 1) = l.take k ++ [nth l k] := by rw [List.take_succ_eq_append_getElem h, nth_eq h]
theorem take_ftn (l : List Ft) (k : Nat) (h : k < l.length) : l.take (k + 1) = l.take k ++ [ftn l k] := by rw [List.take_succ_eq_append_getElem h, ftn_eq h]
theorem take_etn (l : List Et) (k : Nat) (h : k < l.length) : l.take (k + 1) = l.take k ++ [etn l k] := by rw [List.take_succ_eq_append_getElem h, etn_eq h]
theorem take_spn (l : List PSpan) (k : Nat) (h : k < l.length) : l.take (k + 1) = l.take k ++ [spn l k] := by rw [List.take_succ_eq_append_getElem h, spn_eq h]
theorem flat_take {α : Type} (enc : α → List UInt8) (l : List α) (k : Nat) : ((l.take k).flatMap enc).length ≤ (l.flatMap enc).length := by
 conv => rhs; rw [← List.take_append_drop k l, List.flatMap_append, laQ]
 omega
def bth (l : List UInt8) (i : Nat) : Int := ((l.getD i 0).toNat : Int)
theorem bth_drop (l : List UInt8) (k i : Nat) : bth (l.drop k) i = bth l (k + i) := by simp [bth]
def ByIn (w : World) (a : Option Addr) (l : List UInt8) : Prop :=
 l = [] ∨ ∃ b off, a = some ⟨b, off, none⟩ ∧ ∀ i, i < l.length → w.cell? ⟨b, off + i, none⟩ = some (.int .u8 (bth l i))
theorem ByIn.keep {w w1 : World} {a : Option Addr} {l : List UInt8} (h : ByIn w a l) (hb : Below w.heap.size w w1) : ByIn w1 a l := by
 rcases h with h | ⟨b, off, ha, hc⟩
 ·exact .inl h
 ·exact .inr ⟨b, off, ha, fun i hi => (hb.cell (p := ⟨b, off + i, none⟩) (cell_lt (hc i hi))).trans (hc i hi)⟩
theorem ByIn.get {w : World} {a : Option Addr} {l : List UInt8} (h : ByIn w a l) (hk : 0 < l.length) : ∃ b off, a = some ⟨b, off, none⟩ ∧ ∀ i, i < l.length → w.cell? ⟨b, off + i, none⟩ = some (.int .u8 (bth l i)) := by
 rcases h with rfl | h
 ·simp at hk
 ·exact h
structure Rdr (R : Nat) (w : World) (a : Option Addr) (n c : Nat) (l : List UInt8) : Prop where
 box : w.heap[R]? = some (.cells #[.slice a n c] 131 (0, 0))
 len : l.length = n
 cap : n ≤ c
 low : l ≠ [] → ∀ p, a = some p → p.block < R
 mem : ByIn w a l
theorem Rdr.cell {R n c : Nat} {w : World} {a : Option Addr} {l : List UInt8} (h : Rdr R w a n c l) : w.cell? ⟨R, 0, none⟩ = some (.slice a n c) := by
 have := cell_of_row w R 0 _ _ _ h.box
 simpa using this
theorem Rdr.frz {R n c : Nat} {w : World} {a : Option Addr} {l : List UInt8} (h : Rdr R w a n c l) : w.frozen? ⟨R, 0, none⟩ = false := by
 simp [World.frozen?, h.box]
theorem Rdr.keep {R n c : Nat} {w w' : World} {a : Option Addr} {l : List UInt8} (h : Rdr R w a n c l) (hb : Below w.heap.size w w') : Rdr R w' a n c l :=
 ⟨(hb.block R (cell_lt h.cell)).trans h.box, h.len, h.cap, h.low, h.mem.keep hb⟩
theorem Rdr.step {R n c k : Nat} {w : World} {a a' : Option Addr} {l : List UInt8} (h : Rdr R w a n c l) (hk : k ≤ n) (hlow : ∀ p, a' = some p → p.block < R) (hm : ByIn w a' (l.drop k)) :
  Rdr R (w.setCell ⟨R, 0, none⟩ (.slice a' (n - k) (c - k))) a' (n - k) (c - k) (l.drop k) := by
 refine ⟨?_, by rw [List.length_drop, h.len], by have := h.cap; omega, fun _ => hlow, ?_⟩
 ·simp [World.setCell, Array.getElem?_modify, h.box]
 ·rcases hm with h0 | ⟨b, off, ha, hc⟩
  ·exact .inl h0
  ·refine .inr ⟨b, off, ha, fun i hi => ?_⟩
   have hb : b < R := hlow _ ha
   rw [World.cell?_setCell_other _ _ _ _ (by intro e; injection e with e1 e2; omega)]
   exact hc i hi

theorem take_bad (R n c k : Nat) (w : World) (a : Option Addr) (l : List UInt8) (h : Rdr R w a n c l) (hk : n < k) (h8 : k ≤ 8) :
  Calls Tryz.prog 111 #[.pointer (some ⟨R, 0, none⟩), .int .i64 k] w fun e w' => (∃ m, e = .panicked [{ v := .iface 128 (.int .i64 m), recovered := false }]) ∧ w' = w := by
 have r0 := h.cell
 have hkz : (n : Int) < (k : Int) := by omega
 clear h
 go_enter Tryz.func111, Tryz.ntmps111
 go_wp2
 exact ⟨rfl, ⟨_, rfl⟩, rfl⟩

structure Went (R : Nat) (w w' : World) (l : List UInt8) : Prop where
 rdr : ∃ a n c, Rdr R w' a n c l
 grown : w.grownBy w' (some R)
theorem grown_set (w : World) (R : Nat) (v : Value) : w.grownBy (w.setCell ⟨R, 0, none⟩ v) (some R) :=
 ⟨rfl, rfl, rfl, by simp [World.setCell], fun k hk hne => by
  have : R ≠ k := fun e => hne (by rw [e])
  simp [World.setCell, Array.getElem?_modify, this]⟩

theorem take_ok (R n c k : Nat) (w : World) (a : Option Addr) (l : List UInt8) (h : Rdr R w a n c l) (hk : k ≤ n) (h1 : 1 ≤ k) :
  Calls Tryz.prog 111 #[.pointer (some ⟨R, 0, none⟩), .int .i64 k] w fun e w' => e = .returned (.slice a k c) ∧ Went R w w' (l.drop k) := by
 have r0 := h.cell
 have f0 := h.frz
 have hkz : ¬ (n : Int) < (k : Int) := by omega
 have hl := h.len
 have hc := h.cap
 obtain ⟨b, off, ha, hcc⟩ := h.mem.get (by omega)
 subst ha
 have H : Aside (Rdr R w (some ⟨b, off, none⟩) n c l) := h
 clear h
 have hlow : b < R := H.out.low (by rintro rfl; simp at hl; omega) _ rfl
 clear hcc
 by_cases hck : c = k
 ·have S : Aside (ByIn w (some ⟨b, off, none⟩) (l.drop k)) := .inl (by rw [List.drop_eq_nil_iff]; omega)
  go_enter Tryz.func111, Tryz.ntmps111
  go_wp2
  go_ret
  refine ⟨rfl, ⟨some ⟨b, off, none⟩, n - k, 0, ?_⟩, grown_set _ _ _⟩
  ·have := H.out.step hk (a' := some ⟨b, off, none⟩) (fun p hp => by injection hp with hp; rw [← hp]; exact hlow) S.out
   rw [hck, Nat.sub_self] at this
   exact this
 ·have S : Aside (ByIn w (some ⟨b, off + k, none⟩) (l.drop k)) := by
   by_cases hnk : k = n
   ·exact .inl (by rw [List.drop_eq_nil_iff]; omega)
   ·refine .inr ⟨b, off + k, rfl, fun i hi => ?_⟩
    rw [List.length_drop] at hi
    obtain ⟨b2, off2, ha2, hc2⟩ := H.out.mem.get (by omega)
    simp only [oiQ, Addr.mk.injEq, and_true] at ha2
    obtain ⟨rfl, rfl⟩ := ha2
    rw [bth_drop, Nat.add_assoc]
    exact hc2 (k + i) (by omega)
  go_enter Tryz.func111, Tryz.ntmps111
  go_wp2
  go_ret
  exact ⟨rfl, ⟨some ⟨b, off + k, none⟩, _, _, H.out.step hk (a' := some ⟨b, off + k, none⟩) (fun p hp => by injection hp with hp; rw [← hp]; exact hlow) S.out⟩, grown_set _ _ _⟩
theorem byte_or (v x : Nat) (hx : x < 256) (hv : v * 256 + x < 18446744073709551616) : bits .or .u64 (IntKind.u64.wrap ((v : Int) * 256)) (IntKind.u64.wrap (x : Int)) = ((v * 256 + x : Nat) : Int) := by
 rw [IntKind.wrap_u64, IntKind.wrap_u64]
 have e1 : ((v : Int) * 256 % 18446744073709551616) = ((v * 256 : Nat) : Int) := by omega
 have e2 : ((x : Int) % 18446744073709551616) = ((x : Nat) : Int) := by omega
 rw [e1, e2, bits_or_u64_nat _ _ (by omega) (by omega)]
 have := Nat.two_pow_add_eq_or_of_lt (i := 8) (b := x) (by simpa using hx) v
 rw [show 2 ^ 8 * v = v * 256 by omega] at this
 rw [this]
theorem byte_or2 (v x : Nat) (hx : x < 256) (hv : v * 256 + x < 18446744073709551616) : bits .or .u64 ((v : Int) * 256) (x : Int) = ((v * 256 + x : Nat) : Int) := by
 have e1 : ((v : Int) * 256) = ((v * 256 : Nat) : Int) := by omega
 rw [e1, bits_or_u64_nat _ _ (by omega) (by omega)]
 have := Nat.two_pow_add_eq_or_of_lt (i := 8) (b := x) (by simpa using hx) v
 rw [show 2 ^ 8 * v = v * 256 by omega] at this
 rw [this]
theorem wrap_asI64 {v : Nat} (h : v < 18446744073709551616) : wrap64 (v : Int) = asI64 v := by
 unfold wrap64 asI64
 split <;> omega
theorem valB_take {l : List UInt8} {i : Nat} (h : i < l.length) : valB (l.take (i + 1)) = valB (l.take i) * 256 + (l.getD i 0).toNat := by
 rw [List.take_succ_eq_append_getElem h]
 unfold valB
 rw [List.foldl_append]
 simp [h]
theorem read_u8 (R n c : Nat) (w : World) (a : Option Addr) (l : List UInt8) (h : Rdr R w a n c l) (k : Nat) (h1 : 1 ≤ k) (h8 : k ≤ 1) (hk : k ≤ n) :
  Calls Tryz.prog 88 #[.pointer (some ⟨R, 0, none⟩), .int .i64 k] w fun e w' => e = .returned (.int .u8 ((valB (l.take k) : Nat) : Int)) ∧ Went R w w' (l.drop k) := by
 have hT := take_ok R n c k w a l h hk h1
 have hl := h.len
 obtain ⟨b, off, ha, hcc⟩ := h.mem.get (by omega)
 subst ha
 have hlow : b < R := h.low (by rintro rfl; simp at hl; omega) _ rfl
 have HLEN : Hid (l.length = n) := hl
 go_enter Tryz.func88, Tryz.ntmps88
 go_wp2_with (go_at_call 111; refine hT.mono ?_; rintro e w1 ⟨rfl, hR1⟩; refine Hid.out ?_)
 refine hid ?_
 have HC : Aside (∀ i, i < k → w1.cell? ⟨b, off + i, none⟩ = some (.int .u8 (bth l i))) := fun i hi => by
  exact hR1.grown.cell (a := ⟨b, off + i, none⟩) (hcc i (by omega)) (by simp only [ne_eq, oiQ]; omega)
 have HG : Aside (Went R w w1 (l.drop k)) := hR1
 clear hT hcc hR1 h hl
 go_wp2_with fail
 go_loopg [5, 12] k (fun g1 vv vi wr => ∃ (i v : Nat), vi = .int .i64 i ∧ i ≤ k ∧ k - i ≤ g1 ∧ Aside (wr = w1) ∧ vv = .int .u64 (v : Nat) ∧ Aside (v = valB (l.take i)))
 case atStart => exact ⟨0, 0, rfl, Nat.zero_le _, nrQ _, rfl, rfl, rfl⟩
 case round =>
  obtain ⟨i, v, rfl, hi, hg1, HW, rfl, HV⟩ := hrel
  have hww := HW.out
  subst hww
  have hbnd : Aside (v < 256 ^ i) := by
   have h2 := valB_lt (l.take i)
   rw [List.length_take, Nat.min_eq_left (by have := HLEN.out; omega), ← HV.out] at h2
   exact h2
  by_cases hlt : i < k
  ·have hltz : (i : Int) < (k : Int) := by omega
   have r0 := HC.out i hlt
   obtain ⟨x, hx⟩ : ∃ x : Nat, (l.getD i 0).toNat = x := ⟨_, rfl⟩
   have hx2 : x < 256 := by rw [← hx]; exact UInt8.toNat_lt _
   have HX : Hid ((l.getD i 0).toNat = x) := hx
   unfold bth at r0
   rw [hx] at r0
   have hv2 : v * 256 + x < 18446744073709551616 := by
    have h3 : 256 ^ i ≤ 256 ^ 7 := Nat.pow_le_pow_right (by omega) (by omega)
    have h4 : (256 : Nat) ^ 7 = 72057594037927936 := by decide
    have := hbnd.out
    omega
   have hor := byte_or v x hx2 hv2
   have hor2 := byte_or2 v x hx2 hv2
   clear hx
   go_wp2
   go_roundg (k - (i + 1))
   case measure => omega
   case rel =>
    refine ⟨i + 1, v * 256 + x, by go_num, by omega, by omega, rfl, ?_, ?_⟩
    ·first | rfl | (rw [hor]) | (rw [hor2]) | (congr 1; omega) | (simp; omega)
    ·show _ = _
     rw [valB_take (by have := HLEN.out; omega), ← HV.out, HX.out]
  ·have hltz : ¬ (i : Int) < (k : Int) := by omega
   obtain rfl : i = k := by omega
   have hbv : v < 256 ^ 1 := Nat.lt_of_lt_of_le hbnd.out (Nat.pow_le_pow_right (by omega) h8)
   go_wp2
   go_ret
   refine ⟨?_, HG.out⟩
   rw [← HV.out]
   have e : (v : Int) % 256 = v := by omega
   first | rfl | (rw [e]) | (simp [IntKind.wrap, IntKind.signed, IntKind.bits]; omega)

theorem read_u32 (R n c : Nat) (w : World) (a : Option Addr) (l : List UInt8) (h : Rdr R w a n c l) (k : Nat) (h1 : 1 ≤ k) (h8 : k ≤ 4) (hk : k ≤ n) :
  Calls Tryz.prog 89 #[.pointer (some ⟨R, 0, none⟩), .int .i64 k] w fun e w' => e = .returned (.int .u32 ((valB (l.take k) : Nat) : Int)) ∧ Went R w w' (l.drop k) := by
 have hT := take_ok R n c k w a l h hk h1
 have hl := h.len
 obtain ⟨b, off, ha, hcc⟩ := h.mem.get (by omega)
 subst ha
 have hlow : b < R := h.low (by rintro rfl; simp at hl; omega) _ rfl
 have HLEN : Hid (l.length = n) := hl
 go_enter Tryz.func89, Tryz.ntmps89
 go_wp2_with (go_at_call 111; refine hT.mono ?_; rintro e w1 ⟨rfl, hR1⟩; refine Hid.out ?_)
 refine hid ?_
 have HC : Aside (∀ i, i < k → w1.cell? ⟨b, off + i, none⟩ = some (.int .u8 (bth l i))) := fun i hi => by
  exact hR1.grown.cell (a := ⟨b, off + i, none⟩) (hcc i (by omega)) (by simp only [ne_eq, oiQ]; omega)
 have HG : Aside (Went R w w1 (l.drop k)) := hR1
 clear hT hcc hR1 h hl
 go_wp2_with fail
 go_loopg [5, 12] k (fun g1 vv vi wr => ∃ (i v : Nat), vi = .int .i64 i ∧ i ≤ k ∧ k - i ≤ g1 ∧ Aside (wr = w1) ∧ vv = .int .u64 (v : Nat) ∧ Aside (v = valB (l.take i)))
 case atStart => exact ⟨0, 0, rfl, Nat.zero_le _, nrQ _, rfl, rfl, rfl⟩
 case round =>
  obtain ⟨i, v, rfl, hi, hg1, HW, rfl, HV⟩ := hrel
  have hww := HW.out
  subst hww
  have hbnd : Aside (v < 256 ^ i) := by
   have h2 := valB_lt (l.take i)
   rw [List.length_take, Nat.min_eq_left (by have := HLEN.out; omega), ← HV.out] at h2
   exact h2
  by_cases hlt : i < k
  ·have hltz : (i : Int) < (k : Int) := by omega
   have r0 := HC.out i hlt
   obtain ⟨x, hx⟩ : ∃ x : Nat, (l.getD i 0).toNat = x := ⟨_, rfl⟩
   have hx2 : x < 256 := by rw [← hx]; exact UInt8.toNat_lt _
   have HX : Hid ((l.getD i 0).toNat = x) := hx
   unfold bth at r0
   rw [hx] at r0
   have hv2 : v * 256 + x < 18446744073709551616 := by
    have h3 : 256 ^ i ≤ 256 ^ 7 := Nat.pow_le_pow_right (by omega) (by omega)
    have h4 : (256 : Nat) ^ 7 = 72057594037927936 := by decide
    have := hbnd.out
    omega
   have hor := byte_or v x hx2 hv2
   have hor2 := byte_or2 v x hx2 hv2
   clear hx
   go_wp2
   go_roundg (k - (i + 1))
   case measure => omega
   case rel =>
    refine ⟨i + 1, v * 256 + x, by go_num, by omega, by omega, rfl, ?_, ?_⟩
    ·first | rfl | (rw [hor]) | (rw [hor2]) | (congr 1; omega) | (simp; omega)
    ·show _ = _
     rw [valB_take (by have := HLEN.out; omega), ← HV.out, HX.out]
  ·have hltz : ¬ (i : Int) < (k : Int) := by omega
   obtain rfl : i = k := by omega
   have hbv : v < 256 ^ 4 := Nat.lt_of_lt_of_le hbnd.out (Nat.pow_le_pow_right (by omega) h8)
   go_wp2
   go_ret
   refine ⟨?_, HG.out⟩
   rw [← HV.out]
   have e : (v : Int) % 4294967296 = v := by omega
   first | rfl | (rw [e]) | (simp [IntKind.wrap, IntKind.signed, IntKind.bits]; omega)

theorem read_int (R n c : Nat) (w : World) (a : Option Addr) (l : List UInt8) (h : Rdr R w a n c l) (k : Nat) (h1 : 1 ≤ k) (h8 : k ≤ 4) (hk : k ≤ n) :
  Calls Tryz.prog 96 #[.pointer (some ⟨R, 0, none⟩), .int .i64 k] w fun e w' => e = .returned (.int .i64 ((valB (l.take k) : Nat) : Int)) ∧ Went R w w' (l.drop k) := by
 have hT := take_ok R n c k w a l h hk h1
 have hl := h.len
 obtain ⟨b, off, ha, hcc⟩ := h.mem.get (by omega)
 subst ha
 have hlow : b < R := h.low (by rintro rfl; simp at hl; omega) _ rfl
 have HLEN : Hid (l.length = n) := hl
 go_enter Tryz.func96, Tryz.ntmps96
 go_wp2_with (go_at_call 111; refine hT.mono ?_; rintro e w1 ⟨rfl, hR1⟩; refine Hid.out ?_)
 refine hid ?_
 have HC : Aside (∀ i, i < k → w1.cell? ⟨b, off + i, none⟩ = some (.int .u8 (bth l i))) := fun i hi => by
  exact hR1.grown.cell (a := ⟨b, off + i, none⟩) (hcc i (by omega)) (by simp only [ne_eq, oiQ]; omega)
 have HG : Aside (Went R w w1 (l.drop k)) := hR1
 clear hT hcc hR1 h hl
 go_wp2_with fail
 go_loopg [5, 12] k (fun g1 vv vi wr => ∃ (i v : Nat), vi = .int .i64 i ∧ i ≤ k ∧ k - i ≤ g1 ∧ Aside (wr = w1) ∧ vv = .int .u64 (v : Nat) ∧ Aside (v = valB (l.take i)))
 case atStart => exact ⟨0, 0, rfl, Nat.zero_le _, nrQ _, rfl, rfl, rfl⟩
 case round =>
  obtain ⟨i, v, rfl, hi, hg1, HW, rfl, HV⟩ := hrel
  have hww := HW.out
  subst hww
  have hbnd : Aside (v < 256 ^ i) := by
   have h2 := valB_lt (l.take i)
   rw [List.length_take, Nat.min_eq_left (by have := HLEN.out; omega), ← HV.out] at h2
   exact h2
  by_cases hlt : i < k
  ·have hltz : (i : Int) < (k : Int) := by omega
   have r0 := HC.out i hlt
   obtain ⟨x, hx⟩ : ∃ x : Nat, (l.getD i 0).toNat = x := ⟨_, rfl⟩
   have hx2 : x < 256 := by rw [← hx]; exact UInt8.toNat_lt _
   have HX : Hid ((l.getD i 0).toNat = x) := hx
   unfold bth at r0
   rw [hx] at r0
   have hv2 : v * 256 + x < 18446744073709551616 := by
    have h3 : 256 ^ i ≤ 256 ^ 7 := Nat.pow_le_pow_right (by omega) (by omega)
    have h4 : (256 : Nat) ^ 7 = 72057594037927936 := by decide
    have := hbnd.out
    omega
   have hor := byte_or v x hx2 hv2
   have hor2 := byte_or2 v x hx2 hv2
   clear hx
   go_wp2
   go_roundg (k - (i + 1))
   case measure => omega
   case rel =>
    refine ⟨i + 1, v * 256 + x, by go_num, by omega, by omega, rfl, ?_, ?_⟩
    ·first | rfl | (rw [hor]) | (rw [hor2]) | (congr 1; omega) | (simp; omega)
    ·show _ = _
     rw [valB_take (by have := HLEN.out; omega), ← HV.out, HX.out]
  ·have hltz : ¬ (i : Int) < (k : Int) := by omega
   obtain rfl : i = k := by omega
   have hbv : v < 256 ^ 4 := Nat.lt_of_lt_of_le hbnd.out (Nat.pow_le_pow_right (by omega) h8)
   go_wp2
   go_ret
   refine ⟨?_, HG.out⟩
   rw [← HV.out]
   first | rfl | (simp [IntKind.wrap, IntKind.signed, IntKind.bits]; omega) | (congr 2; unfold wrap64; omega) | (congr 2; rw [IntKind.wrap_i64]; omega)

theorem read_int64 (R n c : Nat) (w : World) (a : Option Addr) (l : List UInt8) (h : Rdr R w a n c l) (k : Nat) (h1 : 1 ≤ k) (h8 : k ≤ 8) (hk : k ≤ n) :
  Calls Tryz.prog 113 #[.pointer (some ⟨R, 0, none⟩), .int .i64 k] w fun e w' => e = .returned (.int .i64 (asI64 (valB (l.take k)))) ∧ Went R w w' (l.drop k) := by
 have hT := take_ok R n c k w a l h hk h1
 have hl := h.len
 obtain ⟨b, off, ha, hcc⟩ := h.mem.get (by omega)
 subst ha
 have hlow : b < R := h.low (by rintro rfl; simp at hl; omega) _ rfl
 have HLEN : Hid (l.length = n) := hl
 go_enter Tryz.func113, Tryz.ntmps113
 go_wp2_with (go_at_call 111; refine hT.mono ?_; rintro e w1 ⟨rfl, hR1⟩; refine Hid.out ?_)
 refine hid ?_
 have HC : Aside (∀ i, i < k → w1.cell? ⟨b, off + i, none⟩ = some (.int .u8 (bth l i))) := fun i hi => by
  exact hR1.grown.cell (a := ⟨b, off + i, none⟩) (hcc i (by omega)) (by simp only [ne_eq, oiQ]; omega)
 have HG : Aside (Went R w w1 (l.drop k)) := hR1
 clear hT hcc hR1 h hl
 go_wp2_with fail
 go_loopg [5, 12] k (fun g1 vv vi wr => ∃ (i v : Nat), vi = .int .i64 i ∧ i ≤ k ∧ k - i ≤ g1 ∧ Aside (wr = w1) ∧ vv = .int .u64 (v : Nat) ∧ Aside (v = valB (l.take i)))
 case atStart => exact ⟨0, 0, rfl, Nat.zero_le _, nrQ _, rfl, rfl, rfl⟩
 case round =>
  obtain ⟨i, v, rfl, hi, hg1, HW, rfl, HV⟩ := hrel
  have hww := HW.out
  subst hww
  have hbnd : Aside (v < 256 ^ i) := by
   have h2 := valB_lt (l.take i)
   rw [List.length_take, Nat.min_eq_left (by have := HLEN.out; omega), ← HV.out] at h2
   exact h2
  by_cases hlt : i < k
  ·have hltz : (i : Int) < (k : Int) := by omega
   have r0 := HC.out i hlt
   obtain ⟨x, hx⟩ : ∃ x : Nat, (l.getD i 0).toNat = x := ⟨_, rfl⟩
   have hx2 : x < 256 := by rw [← hx]; exact UInt8.toNat_lt _
   have HX : Hid ((l.getD i 0).toNat = x) := hx
   unfold bth at r0
   rw [hx] at r0
   have hv2 : v * 256 + x < 18446744073709551616 := by
    have h3 : 256 ^ i ≤ 256 ^ 7 := Nat.pow_le_pow_right (by omega) (by omega)
    have h4 : (256 : Nat) ^ 7 = 72057594037927936 := by decide
    have := hbnd.out
    omega
   have hor := byte_or v x hx2 hv2
   have hor2 := byte_or2 v x hx2 hv2
   clear hx
   go_wp2
   go_roundg (k - (i + 1))
   case measure => omega
   case rel =>
    refine ⟨i + 1, v * 256 + x, by go_num, by omega, by omega, rfl, ?_, ?_⟩
    ·first | rfl | (rw [hor]) | (rw [hor2]) | (congr 1; omega) | (simp; omega)
    ·show _ = _
     rw [valB_take (by have := HLEN.out; omega), ← HV.out, HX.out]
  ·have hltz : ¬ (i : Int) < (k : Int) := by omega
   obtain rfl : i = k := by omega
   have hbv : v < 256 ^ 8 := Nat.lt_of_lt_of_le hbnd.out (Nat.pow_le_pow_right (by omega) h8)
   go_wp2
   go_ret
   refine ⟨?_, HG.out⟩
   rw [← HV.out]
   have e8 : (256 : Nat) ^ 8 = 18446744073709551616 := by decide
   rw [← wrap_asI64 (v := v) (by omega)]
   rfl

theorem miss_u8 (R n c : Nat) (w : World) (a : Option Addr) (l : List UInt8) (h : Rdr R w a n c l) (k : Nat) (h8 : k ≤ 8) (hk : n < k) :
  Calls Tryz.prog 88 #[.pointer (some ⟨R, 0, none⟩), .int .i64 k] w fun e w' => (∃ m, e = .panicked [{ v := .iface 128 (.int .i64 m), recovered := false }]) ∧ w' = w := by
 have hT := take_bad R n c k w a l h hk h8
 clear h
 go_enter Tryz.func88, Tryz.ntmps88
 go_wp2_with (go_at_call 111; refine hT.mono ?_; rintro e w1 ⟨⟨m, rfl⟩, rfl⟩)
 exact ⟨rfl, ⟨_, rfl⟩, rfl⟩

theorem miss_u32 (R n c : Nat) (w : World) (a : Option Addr) (l : List UInt8) (h : Rdr R w a n c l) (k : Nat) (h8 : k ≤ 8) (hk : n < k) :
  Calls Tryz.prog 89 #[.pointer (some ⟨R, 0, none⟩), .int .i64 k] w fun e w' => (∃ m, e = .panicked [{ v := .iface 128 (.int .i64 m), recovered := false }]) ∧ w' = w := by
 have hT := take_bad R n c k w a l h hk h8
 clear h
 go_enter Tryz.func89, Tryz.ntmps89
 go_wp2_with (go_at_call 111; refine hT.mono ?_; rintro e w1 ⟨⟨m, rfl⟩, rfl⟩)
 exact ⟨rfl, ⟨_, rfl⟩, rfl⟩

theorem miss_int (R n c : Nat) (w : World) (a : Option Addr) (l : List UInt8) (h : Rdr R w a n c l) (k : Nat) (h8 : k ≤ 8) (hk : n < k) :
  Calls Tryz.prog 96 #[.pointer (some ⟨R, 0, none⟩), .int .i64 k] w fun e w' => (∃ m, e = .panicked [{ v := .iface 128 (.int .i64 m), recovered := false }]) ∧ w' = w := by
 have hT := take_bad R n c k w a l h hk h8
 clear h
 go_enter Tryz.func96, Tryz.ntmps96
 go_wp2_with (go_at_call 111; refine hT.mono ?_; rintro e w1 ⟨⟨m, rfl⟩, rfl⟩)
 exact ⟨rfl, ⟨_, rfl⟩, rfl⟩

theorem miss_int64 (R n c : Nat) (w : World) (a : Option Addr) (l : List UInt8) (h : Rdr R w a n c l) (k : Nat) (h8 : k ≤ 8) (hk : n < k) :
  Calls Tryz.prog 113 #[.pointer (some ⟨R, 0, none⟩), .int .i64 k] w fun e w' => (∃ m, e = .panicked [{ v := .iface 128 (.int .i64 m), recovered := false }]) ∧ w' = w := by
 have hT := take_bad R n c k w a l h hk h8
 clear h
 go_enter Tryz.func113, Tryz.ntmps113
 go_wp2_with (go_at_call 111; refine hT.mono ?_; rintro e w1 ⟨⟨m, rfl⟩, rfl⟩)
 exact ⟨rfl, ⟨_, rfl⟩, rfl⟩
def Far (W : World) (row : Option Nat) (e : TypeId) : Prop := ∀ g cur t fr, row = some g → W.heap[g]? = some (.cells cur t fr) → t ≠ e
theorem own_far {W W' : World} {B s n : Nat} {e : TypeId} {v : Value} {xs : List Value} {row : Option Nat} (h : W.ownsRow B e s v n xs) (hg : W.grownBy W' row) (hf : Far W row e) : W'.ownsRow B e s v n xs := by
 refine h.kept hg ?_
 rcases h.2 with ⟨h0, _⟩ | ⟨g, cap, cur, hv, _, hgg, _⟩
 ·left; rw [h0]; rfl
 ·right
  rw [hv]
  intro e1
  exact hf g cur e (0, 0) e1.symm hgg rfl
theorem far_row {W : World} {B s n : Nat} {e e' : TypeId} {v : Value} {xs : List Value} (h : W.ownsRow B e s v n xs) (hne : e ≠ e') : Far W v.ownBlock e' := by
 intro g cur t fr hr hg
 rcases h.2 with ⟨h0, _⟩ | ⟨g', cap, cur', hv, _, hgg, _⟩
 ·rw [h0] at hr; cases hr
 ·rw [hv] at hr
  simp only [Value.ownBlock, oiQ] at hr
  subst hr
  rw [hgg] at hg
  simp only [oiQ, Obj.cells.injEq] at hg
  rw [← hg.2.1]; exact hne
theorem far_rdr {R n c : Nat} {w : World} {a : Option Addr} {l : List UInt8} (h : Rdr R w a n c l) {e : TypeId} (hne : 131 ≠ e) : Far w (some R) e := by
 intro g cur t fr hr hg
 simp only [oiQ] at hr
 subst hr
 rw [h.box] at hg
 simp only [oiQ, Obj.cells.injEq] at hg
 rw [← hg.2.1]; exact hne
theorem far_none (W : World) (e : TypeId) : Far W none e := fun g cur t fr hr _ => by cases hr
theorem grown_below {W W' : World} (hb : Below W.heap.size W W') : W.grownBy W' none := ⟨hb.os, hb.tape, hb.output, hb.size, fun i hi _ => hb.block i hi⟩

structure FtOwn (B : Nat) (W : World) (f : Ft) : Prop where
 own : W.ownsRow B 3 1 (.slice f.a f.k.length f.cap) f.k.length (vals f.k)
 key : ∀ x ∈ f.k, I64 x
 num : I64 f.v
theorem FtOwn.far {B : Nat} {W W' : World} {f : Ft} {row : Option Nat} (h : FtOwn B W f) (hg : W.grownBy W' row) (h1 : Far W row 3) : FtOwn B W' f := ⟨own_far h.own hg h1, h.key, h.num⟩
def factC (f : Ft) : List Value := [.slice f.a f.k.length f.cap, .int .i64 f.v]
structure FsOwn (B : Nat) (W : World) (v : Value) (fs : List Ft) : Prop where
 own : W.ownsRow B 124 2 v fs.length (fs.flatMap factC)
 all : ∀ f ∈ fs, FtOwn B W f
theorem FsOwn.far {B : Nat} {W W' : World} {v : Value} {fs : List Ft} {row : Option Nat} (h : FsOwn B W v fs) (hg : W.grownBy W' row) (h1 : Far W row 3) (h2 : Far W row 124) : FsOwn B W' v fs := ⟨own_far h.own hg h2, fun f hf => (h.all f hf).far hg h1⟩
structure EtOwn (B : Nat) (W : World) (e : Et) : Prop where
 own : FsOwn B W (.slice e.a e.fs.length e.cap) e.fs
 num : U32 e.t
def entC (e : Et) : List Value := [.int .u32 e.t, .slice e.a e.fs.length e.cap]
theorem EtOwn.far {B : Nat} {W W' : World} {e : Et} {row : Option Nat} (h : EtOwn B W e) (hg : W.grownBy W' row) (h1 : Far W row 3) (h2 : Far W row 124) : EtOwn B W' e := ⟨h.own.far hg h1 h2, h.num⟩
structure EsOwn (B : Nat) (W : World) (v : Value) (es : List Et) : Prop where
 own : W.ownsRow B 94 2 v es.length (es.flatMap entC)
 all : ∀ e ∈ es, EtOwn B W e
theorem EsOwn.far {B : Nat} {W W' : World} {v : Value} {es : List Et} {row : Option Nat} (h : EsOwn B W v es) (hg : W.grownBy W' row) (h1 : Far W row 3) (h2 : Far W row 124) (h3 : Far W row 94) : EsOwn B W' v es := ⟨own_far h.own hg h3, fun f hf => (h.all f hf).far hg h1 h2⟩
def spanC (s : PSpan) : List Value := [.int .i64 s.1, .int .i64 s.2]
structure SsOwn (B : Nat) (W : World) (v : Value) (ss : List PSpan) : Prop where
 own : W.ownsRow B 109 2 v ss.length (ss.flatMap spanC)
 all : ∀ s ∈ ss, I64 s.1 ∧ I64 s.2
theorem SsOwn.far {B : Nat} {W W' : World} {v : Value} {ss : List PSpan} {row : Option Nat} (h : SsOwn B W v ss) (hg : W.grownBy W' row) (h1 : Far W row 109) : SsOwn B W' v ss := ⟨own_far h.own hg h1, h.all⟩
structure NsOwn (B : Nat) (W : World) (v : Value) (l : List Int) : Prop where
 own : W.ownsRow B 3 1 v l.length (vals l)
 all : ∀ x ∈ l, I64 x
theorem NsOwn.far {B : Nat} {W W' : World} {v : Value} {l : List Int} {row : Option Nat} (h : NsOwn B W v l) (hg : W.grownBy W' row) (h1 : Far W row 3) : NsOwn B W' v l := ⟨own_far h.own hg h1, h.all⟩

theorem Rdr.kept {R n c : Nat} {w w' : World} {a : Option Addr} {l : List UInt8} (h : Rdr R w a n c l) (hk : ∀ i, i ≤ R → w'.heap[i]? = w.heap[i]?) : Rdr R w' a n c l := by
 refine ⟨(hk R (nrQ _)).trans h.box, h.len, h.cap, h.low, ?_⟩
 rcases h.mem with h0 | ⟨b, off, ha, hc⟩
 ·exact .inl h0
 ·exact .inr ⟨b, off, ha, fun i hi => (World.cell?_of_block (a := ⟨b, off + i, none⟩) (hk b (by have := h.low (by rintro rfl; simp at hi) _ ha; simp at this; omega))).trans (hc i hi)⟩
def RdL (R : Nat) (w : World) (l : List UInt8) : Prop := ∃ a n c, Rdr R w a n c l
theorem RdL.lt {R : Nat} {w : World} {l : List UInt8} (h : RdL R w l) : R < w.heap.size := by
 obtain ⟨a, n, c, h⟩ := h
 exact cell_lt h.cell
theorem RdL.keep {R : Nat} {w w' : World} {l : List UInt8} (h : RdL R w l) (hb : Below w.heap.size w w') : RdL R w' l := by
 obtain ⟨a, n, c, h⟩ := h
 exact ⟨a, n, c, h.keep hb⟩
theorem Went.trans {R : Nat} {w w1 w2 : World} {l l' : List UInt8} (h : Went R w w1 l) (k : Went R w1 w2 l') : Went R w w2 l' :=
 ⟨k.rdr, ⟨k.grown.os.trans h.grown.os, k.grown.tape.trans h.grown.tape, k.grown.output.trans h.grown.output, ntQ h.grown.size k.grown.size, fun i hi hne => (k.grown.block i (Nat.lt_of_lt_of_le hi h.grown.size) hne).trans (h.grown.block i hi hne)⟩⟩
theorem grown_trans {w w1 w2 : World} {row : Option Nat} (h : w.grownBy w1 row) (k : w1.grownBy w2 row) : w.grownBy w2 row :=
 ⟨k.os.trans h.os, k.tape.trans h.tape, k.output.trans h.output, ntQ h.size k.size, fun i hi hne => (k.block i (Nat.lt_of_lt_of_le hi h.size) hne).trans (h.block i hi hne)⟩
theorem Went.row {R : Nat} {w w2 w3 : World} {l : List UInt8} {row : Option Nat} (h : Went R w w2 l) (hg : w2.grownBy w3 row) (hr : ∀ g, row = some g → w.heap.size ≤ g) (hR : R < w.heap.size) : Went R w w3 l := by
 have hb : ∀ i, i < w.heap.size → w3.heap[i]? = w2.heap[i]? := fun i hi => hg.block i (Nat.lt_of_lt_of_le hi h.grown.size) fun e => by have := hr i e.symm; omega
 obtain ⟨a, n, c, hr2⟩ := h.rdr
 exact ⟨⟨a, n, c, hr2.kept fun i hi => hb i (by omega)⟩, ⟨hg.os.trans h.grown.os, hg.tape.trans h.grown.tape, hg.output.trans h.grown.output, ntQ h.grown.size hg.size, fun i hi hne => (hb i hi).trans (h.grown.block i hi hne)⟩⟩
theorem Went.below {R : Nat} {w w2 w3 : World} {l : List UInt8} (h : Went R w w2 l) (hb : Below w2.heap.size w2 w3) (hR : R < w.heap.size) : Went R w w3 l := h.row (grown_below hb) (fun g e => by cases e) hR
theorem Went.start {R : Nat} {w w2 : World} {l : List UInt8} (h : RdL R w l) (hb : Below w.heap.size w w2) : Went R w w2 l := ⟨h.keep hb, ⟨hb.os, hb.tape, hb.output, hb.size, fun i hi _ => hb.block i hi⟩⟩

def PostX {γ : Type} (R : Nat) (w : World) (o : Option (γ × List UInt8)) (Got : γ → Value → World → Prop) (e : Ending) (w' : World) : Prop :=
 match o with
 | some (y, l') => ∃ v, e = .returned v ∧ Got y v w' ∧ Went R w w' l'
 | none => (∃ m, e = .panicked [{ v := .iface 128 (.int .i64 m), recovered := false }]) ∧ w.grownBy w' (some R)
theorem PostX.some {γ : Type} {R : Nat} {w w' : World} {o : Option (γ × List UInt8)} {Got : γ → Value → World → Prop} {v : Value} {y : γ} {l' : List UInt8} (h : o = .some (y, l')) (h1 : Got y v w') (h2 : Went R w w' l') : PostX R w o Got (.returned v) w' := by
 unfold PostX; rw [h]; exact ⟨v, rfl, h1, h2⟩
theorem PostX.none {γ : Type} {R : Nat} {w w' : World} {o : Option (γ × List UInt8)} {Got : γ → Value → World → Prop} {m : Int} (h : o = .none) (h2 : w.grownBy w' (.some R)) : PostX R w o Got (.panicked [{ v := .iface 128 (.int .i64 m), recovered := false }]) w' := by
 unfold PostX; rw [h]; exact ⟨⟨m, rfl⟩, h2⟩
theorem PostX.got {γ : Type} {R : Nat} {w w' : World} {o : Option (γ × List UInt8)} {Got : γ → Value → World → Prop} {e : Ending} {y : γ} {l' : List UInt8} (h : PostX R w o Got e w') (ho : o = .some (y, l')) : ∃ v, e = .returned v ∧ Got y v w' ∧ Went R w w' l' := by
 unfold PostX at h; rw [ho] at h; exact h
theorem PostX.miss {γ : Type} {R : Nat} {w w' : World} {o : Option (γ × List UInt8)} {Got : γ → Value → World → Prop} {e : Ending} (h : PostX R w o Got e w') (ho : o = .none) : (∃ m, e = .panicked [{ v := .iface 128 (.int .i64 m), recovered := false }]) ∧ w.grownBy w' (.some R) := by
 unfold PostX at h; rw [ho] at h; exact h
def Reads {γ : Type} (R B f : Nat) (p : Ps γ) (Got : γ → Value → World → Prop) : Prop :=
 ∀ w l, B ≤ w.heap.size → RdL R w l → l.length ≤ 60000 → Calls Tryz.prog f #[.pointer (some ⟨R, 0, none⟩)] w fun e w' => PostX R w (p l) Got e w'

theorem pInt_some {k : Nat} {l : List UInt8} (h : k ≤ l.length) : pInt k l = some (((valB (l.take k) : Nat) : Int), l.drop k) := by
 unfold pInt pGet; rw [if_pos h]; rfl
theorem pInt_none {k : Nat} {l : List UInt8} (h : l.length < k) : pInt k l = none := by
 unfold pInt pGet; rw [if_neg (by omega)]; rfl
theorem pI64_some {l : List UInt8} (h : 8 ≤ l.length) : pI64 l = some (asI64 (valB (l.take 8)), l.drop 8) := by unfold pI64 pGet; rw [if_pos h]; rfl
theorem pI64_none {l : List UInt8} (h : l.length < 8) : pI64 l = none := by unfold pI64 pGet; rw [if_neg (by omega)]; rfl
theorem grown_refl (w : World) (row : Option Nat) : w.grownBy w row := ⟨rfl, rfl, rfl, nrQ _, fun _ _ _ => rfl⟩

theorem rint (R : Nat) (w : World) (l : List UInt8) (h : RdL R w l) (k : Nat) (h1 : 1 ≤ k) (h4 : k ≤ 4) :
  Calls Tryz.prog 96 #[.pointer (some ⟨R, 0, none⟩), .int .i64 k] w fun e w' => PostX R w (pInt k l) (fun y v _ => v = .int .i64 y) e w' := by
 obtain ⟨a, n, c, h⟩ := h
 have hl := h.len
 by_cases hk : k ≤ n
 ·exact (read_int R n c w a l h k h1 h4 hk).mono fun e w' ⟨e1, e2⟩ => by rw [e1]; exact PostX.some (pInt_some (by omega)) rfl e2
 ·exact (miss_int R n c w a l h k (by omega) (by omega)).mono fun e w' ⟨⟨m, e1⟩, e2⟩ => by rw [e1, e2]; exact PostX.none (pInt_none (by omega)) (grown_refl _ _)
theorem ru32 (R : Nat) (w : World) (l : List UInt8) (h : RdL R w l) (k : Nat) (h1 : 1 ≤ k) (h4 : k ≤ 4) :
  Calls Tryz.prog 89 #[.pointer (some ⟨R, 0, none⟩), .int .i64 k] w fun e w' => PostX R w (pInt k l) (fun y v _ => v = .int .u32 y) e w' := by
 obtain ⟨a, n, c, h⟩ := h
 have hl := h.len
 by_cases hk : k ≤ n
 ·exact (read_u32 R n c w a l h k h1 h4 hk).mono fun e w' ⟨e1, e2⟩ => by rw [e1]; exact PostX.some (pInt_some (by omega)) rfl e2
 ·exact (miss_u32 R n c w a l h k (by omega) (by omega)).mono fun e w' ⟨⟨m, e1⟩, e2⟩ => by rw [e1, e2]; exact PostX.none (pInt_none (by omega)) (grown_refl _ _)
theorem ru8 (R : Nat) (w : World) (l : List UInt8) (h : RdL R w l) :
  Calls Tryz.prog 88 #[.pointer (some ⟨R, 0, none⟩), .int .i64 1] w fun e w' => PostX R w (pInt 1 l) (fun y v _ => v = .int .u8 y) e w' := by
 obtain ⟨a, n, c, h⟩ := h
 have hl := h.len
 by_cases hk : 1 ≤ n
 ·exact (read_u8 R n c w a l h 1 (by omega) (by omega) hk).mono fun e w' ⟨e1, e2⟩ => by rw [e1]; exact PostX.some (pInt_some (by omega)) rfl e2
 ·exact (miss_u8 R n c w a l h 1 (by omega) (by omega)).mono fun e w' ⟨⟨m, e1⟩, e2⟩ => by rw [e1, e2]; exact PostX.none (pInt_none (by omega)) (grown_refl _ _)
theorem ri64 (R : Nat) (w : World) (l : List UInt8) (h : RdL R w l) :
  Calls Tryz.prog 113 #[.pointer (some ⟨R, 0, none⟩), .int .i64 8] w fun e w' => PostX R w (pI64 l) (fun y v _ => v = .int .i64 y) e w' := by
 obtain ⟨a, n, c, h⟩ := h
 have hl := h.len
 by_cases hk : 8 ≤ n
 ·exact (read_int64 R n c w a l h 8 (by omega) (by omega) hk).mono fun e w' ⟨e1, e2⟩ => by rw [e1]; exact PostX.some (pI64_some (by omega)) rfl e2
 ·exact (miss_int64 R n c w a l h 8 (by omega) (by omega)).mono fun e w' ⟨⟨m, e1⟩, e2⟩ => by rw [e1, e2]; exact PostX.none (pI64_none (by omega)) (grown_refl _ _)
theorem pInt_lt {k : Nat} {l l' : List UInt8} {y : Int} (h : pInt k l = some (y, l')) : 0 ≤ y ∧ y < 256 ^ k ∧ l'.length + k = l.length := by
 unfold pInt at h
 obtain ⟨⟨v, l1⟩, h1, h2⟩ := Option.map_eq_some_iff.1 h
 simp only [Prod.mk.injEq] at h2
 obtain ⟨rfl, rfl⟩ := h2
 have := pGet_val h1
 have e : ((256 ^ k : Nat) : Int) = (256 : Int) ^ k := by simp
 exact ⟨by omega, by omega, this.2⟩
theorem pI64_lt {l l' : List UInt8} {y : Int} (h : pI64 l = some (y, l')) : I64 y ∧ l'.length + 8 = l.length := by
 unfold pI64 at h
 obtain ⟨⟨v, l1⟩, h1, h2⟩ := Option.map_eq_some_iff.1 h
 simp only [Prod.mk.injEq] at h2
 obtain ⟨rfl, rfl⟩ := h2
 have := pGet_val h1
 have h8 : (256 : Nat) ^ 8 = 18446744073709551616 := by decide
 refine ⟨?_, this.2⟩
 unfold I64 asI64
 split <;> omega
theorem grown_at (w : World) (b o : Nat) (v : Value) : w.grownBy (w.setCell ⟨b, o, none⟩ v) (some b) :=
 ⟨rfl, rfl, rfl, by simp [World.setCell], fun k hk hne => by
  have : b ≠ k := fun e => hne (by rw [e])
  simp [World.setCell, Array.getElem?_modify, this]⟩
def Boxed (w : World) (h : Nat) (cs : Array Value) (t : TypeId) : Prop := w.heap[h]? = some (.cells cs t (0, 0))
theorem Boxed.new (w : World) (cs : Array Value) (t : TypeId) : Boxed (w.alloc (.cells cs t)) w.heap.size cs t := heap_alloc_new w _
theorem Boxed.cell {w : World} {h : Nat} {cs : Array Value} {t : TypeId} (hb : Boxed w h cs t) {j : Nat} {x : Value} (hx : cs[j]? = some x) : w.cell? ⟨h, j, none⟩ = some x := by
 rw [cell_of_row w h j cs t (0, 0) hb]; exact hx
theorem Boxed.frz {w : World} {h : Nat} {cs : Array Value} {t : TypeId} (hb : Boxed w h cs t) (j : Nat) : w.frozen? ⟨h, j, none⟩ = false := by
 unfold Boxed at hb
 simp [World.frozen?, hb]
theorem Boxed.lt {w : World} {h : Nat} {cs : Array Value} {t : TypeId} (hb : Boxed w h cs t) : h < w.heap.size := (Array.getElem?_eq_some_iff.1 hb).1
theorem Boxed.grown {w w' : World} {h : Nat} {cs : Array Value} {t : TypeId} (hb : Boxed w h cs t) {row : Option Nat} (hg : w.grownBy w' row) (hne : some h ≠ row) : Boxed w' h cs t := (hg.block h hb.lt hne).trans hb
theorem Boxed.below {w w' : World} {h : Nat} {cs : Array Value} {t : TypeId} (hb : Boxed w h cs t) (hg : Below w.heap.size w w') : Boxed w' h cs t := (hg.block h hb.lt).trans hb
theorem Boxed.set {w : World} {h : Nat} {cs : Array Value} {t : TypeId} (hb : Boxed w h cs t) (j : Nat) (v : Value) : Boxed (w.setCell ⟨h, j, none⟩ v) h (cs.setIfInBounds j v) t := by
 unfold Boxed at hb ⊢
 simp [World.setCell, Array.getElem?_modify, hb]
theorem Boxed.far {w : World} {h : Nat} {cs : Array Value} {t e : TypeId} (hb : Boxed w h cs t) (hne : t ≠ e) : Far w (some h) e := by
 intro g cur t' fr hr hg
 simp only [oiQ] at hr
 subst hr
 unfold Boxed at hb
 rw [hb] at hg
 simp only [oiQ, Obj.cells.injEq] at hg
 rw [← hg.2.1]; exact hne
theorem RdL.far {R : Nat} {w : World} {l : List UInt8} (h : RdL R w l) {e : TypeId} (hne : 131 ≠ e) : Far w (some R) e := by
 obtain ⟨a, n, c, h⟩ := h
 exact far_rdr h hne
end code
namespace code
theorem catch_idle (p q : Addr) (w : World) :
  CallsD Tryz.prog 71 #[.pointer (some p), .pointer (some q)] .returning w fun e u' w' => e = .returned (.tuple #[]) ∧ u' = .returning ∧ w' = w := by
 refine callsD_of_wpS Tryz.func71 rfl fun c₀ cs hu => ?_
 apply wpS_seq
 apply wpS_region
 simp [wpOpsS, go_sem, recoverD, hu, Tryz.ntmps71, Exit.thenS, Array.replicate]
 refine wpS_of_wp ?_
 have hnil : ∀ w : World, (binOp BinOp.eql 20 .nilIface .nilIface).run Tryz.prog w = .ok (.bool true) w := fun _ => by kernel_rfl
 go_wp2
 cases c₀
 simp_all [bodyPostS, results, Tryz.results71]

def recZ : Array Value := #[.int .u8 0, .int .u32 0, .int .u32 0, .slice none 0 0, .slice none 0 0, .int .u32 0, .slice none 0 0, .int .i64 0, .int .i64 0, .slice none 0 0]
structure Caught (h0 h1 : Nat) (w w' : World) : Prop where
 two : ∃ w2, w.grownBy w2 (some h0) ∧ w2.grownBy w' (some h1)
 b0 : Boxed w' h0 recZ 46
 b1 : Boxed w' h1 #[.int .u16 70] 32

theorem catch_missing (h0 h1 : Nat) (m : Int) (w : World) (x1 : Value) (hx : Boxed w h0 recZ 46) (hy : Boxed w h1 #[x1] 32) (hne : h0 ≠ h1) :
  CallsD Tryz.prog 71 #[.pointer (some ⟨h0, 0, none⟩), .pointer (some ⟨h1, 0, none⟩)] (.panicking [{ v := .iface 128 (.int .i64 m), recovered := false }]) w fun e u' w' =>
   e = .returned (.tuple #[]) ∧ u' = .panicking [{ v := .iface 128 (.int .i64 m), recovered := true }] ∧ Caught h0 h1 w w' := by
 refine callsD_of_wpS Tryz.func71 rfl fun c₀ cs hu => ?_
 apply wpS_seq
 apply wpS_region
 simp [wpOpsS, go_sem, recoverD, hu, Tryz.ntmps71, Exit.thenS, Array.replicate]
 refine wpS_of_wp ?_
 have hnil : ∀ (w : World), (binOp BinOp.eql 20 (.iface 128 (.int .i64 m)) .nilIface).run Tryz.prog w = .ok (.bool false) w := fun _ => by kernel_rfl
 have hta : ∀ (w : World), (Instr.typeAssert (.iface 128 (.int .i64 m)) 20 128 true).run Tryz.prog w = .ok (.tuple #[.int .i64 m, .bool true]) w := fun _ => by kernel_rfl
 have c0 := hx.cell (j := 0) rfl
 have z0 := hx.frz 0
 have c1 := hx.cell (j := 1) rfl
 have z1 := hx.frz 1
 have c2 := hx.cell (j := 2) rfl
 have z2 := hx.frz 2
 have c3 := hx.cell (j := 3) rfl
 have z3 := hx.frz 3
 have c4 := hx.cell (j := 4) rfl
 have z4 := hx.frz 4
 have c5 := hx.cell (j := 5) rfl
 have z5 := hx.frz 5
 have c6 := hx.cell (j := 6) rfl
 have z6 := hx.frz 6
 have c7 := hx.cell (j := 7) rfl
 have z7 := hx.frz 7
 have c8 := hx.cell (j := 8) rfl
 have z8 := hx.frz 8
 have c9 := hx.cell (j := 9) rfl
 have z9 := hx.frz 9
 have y0 := hy.cell (j := 0) rfl
 have yz := hy.frz 0
 have H : Aside (Boxed w h0 recZ 46 ∧ Boxed w h1 #[x1] 32) := ⟨hx, hy⟩
 have hne2 : ¬ h1 = h0 := fun e => hne e.symm
 have hne3 : ¬ h0 = h1 := hne
 clear hx hy hne
 go_wp2
 simp only [bodyPostS, results, Tryz.results71]
 have hG : w.grownBy ((((((((((w.setCell ⟨h0, 0, none⟩ (.int .u8 0)).setCell ⟨h0, 1, none⟩ (.int .u32 0)).setCell ⟨h0, 2, none⟩ (.int .u32 0)).setCell ⟨h0, 3, none⟩ (.slice none 0 0)).setCell ⟨h0, 4, none⟩ (.slice none 0 0)).setCell ⟨h0, 5, none⟩ (.int .u32 0)).setCell ⟨h0, 6, none⟩ (.slice none 0 0)).setCell ⟨h0, 7, none⟩ (.int .i64 0)).setCell ⟨h0, 8, none⟩ (.int .i64 0)).setCell ⟨h0, 9, none⟩ (.slice none 0 0)) (some h0) := by
  iterate 9 (refine grown_trans ?_ (grown_at _ _ _ _))
  exact grown_at _ _ _ _
 have hb0 := ((((((((((H.out.1.set 0 (.int .u8 0)).set 1 (.int .u32 0)).set 2 (.int .u32 0)).set 3 (.slice none 0 0)).set 4 (.slice none 0 0)).set 5 (.int .u32 0)).set 6 (.slice none 0 0)).set 7 (.int .i64 0)).set 8 (.int .i64 0)).set 9 (.slice none 0 0))
 have hK : Caught h0 h1 w (((((((((((w.setCell ⟨h0, 0, none⟩ (.int .u8 0)).setCell ⟨h0, 1, none⟩ (.int .u32 0)).setCell ⟨h0, 2, none⟩ (.int .u32 0)).setCell ⟨h0, 3, none⟩ (.slice none 0 0)).setCell ⟨h0, 4, none⟩ (.slice none 0 0)).setCell ⟨h0, 5, none⟩ (.int .u32 0)).setCell ⟨h0, 6, none⟩ (.slice none 0 0)).setCell ⟨h0, 7, none⟩ (.int .i64 0)).setCell ⟨h0, 8, none⟩ (.int .i64 0)).setCell ⟨h0, 9, none⟩ (.slice none 0 0)).setCell ⟨h1, 0, none⟩ (.int .u16 70)) :=
  ⟨⟨_, hG, grown_at _ _ _ _⟩, Boxed.grown hb0 (grown_at _ _ _ _) (by simp only [ne_eq, oiQ]; exact hne3), (H.out.2.grown hG (by simp only [ne_eq, oiQ]; exact hne2)).set 0 _⟩
 simp [hK]
open dims (nth Ints cell_lt vals own_below own_mono own_out)
set_option linter.unusedSimpArgs false
theorem cells_two_new (w : World) (v1 v2 : Value) (t : TypeId) : ∀ j u, [v1, v2][j]? = some u → (w.alloc (.cells #[v1, v2] t)).cell? ((⟨w.heap.size, 0, none⟩ : Addr).add j) = some u := by
 intro j u hj
 match j, hj with
 | 0, hj => simp at hj; subst hj; simp [Addr.add, go_sem]
 | 1, hj => simp at hj; subst hj; simp [Addr.add, go_sem]
 | j + 2, hj => simp at hj
theorem info_int2 : (Tryz.prog.info? 3).map (fun i => (i.zero, i.size, i.bytes)) = some (some (.int .i64 0), 1, 8) := by kernel_rfl
theorem info_fact : (Tryz.prog.info? 124).map (fun i => (i.zero, i.size, i.bytes)) = some (some (.agg #[.slice none 0 0, .int .i64 0]), 2, 32) := by kernel_rfl
theorem info_span : (Tryz.prog.info? 109).map (fun i => (i.zero, i.size, i.bytes)) = some (some (.agg #[.int .i64 0, .int .i64 0]), 2, 16) := by kernel_rfl
theorem info_ent : (Tryz.prog.info? 94).map (fun i => (i.zero, i.size, i.bytes)) = some (some (.agg #[.int .u32 0, .slice none 0 0]), 2, 32) := by kernel_rfl
theorem pTimes_step {γ : Type} {p : Ps γ} {n j : Nat} {l0 lk lk' : List UInt8} {ys : List γ} {y : γ} (h : pTimes p n l0 = (pTimes p (j + 1) lk).map fun z => (ys ++ z.1, z.2)) (hp : p lk = some (y, lk')) :
  pTimes p n l0 = (pTimes p j lk').map fun z => ((ys ++ [y]) ++ z.1, z.2) := by
 rw [h, pTimes, hp]
 simp only [Option.bind_some, Option.map_map]
 congr 1
 funext z
 simp
theorem pTimes_miss {γ : Type} {p : Ps γ} {n j : Nat} {l0 lk : List UInt8} {ys : List γ} (h : pTimes p n l0 = (pTimes p (j + 1) lk).map fun z => (ys ++ z.1, z.2)) (hp : p lk = none) : pTimes p n l0 = none := by
 rw [h, pTimes, hp]; rfl
theorem pAll_some {γ : Type} {p : Ps γ} {k n : Nat} {l l1 : List UInt8} (h : pGet k l = some (n, l1)) : pAll k p l = pTimes p n l1 := by unfold pAll; rw [h]; rfl
theorem pAll_none {γ : Type} {p : Ps γ} {k : Nat} {l : List UInt8} (h : pGet k l = none) : pAll k p l = none := by unfold pAll; rw [h]; rfl
theorem pInt_get {k : Nat} {l l' : List UInt8} {y : Int} (h : pInt k l = some (y, l')) : ∃ n : Nat, y = (n : Int) ∧ pGet k l = some (n, l') := by
 unfold pInt at h
 obtain ⟨⟨v, l1⟩, h1, h2⟩ := Option.map_eq_some_iff.1 h
 simp only [Prod.mk.injEq] at h2
 obtain ⟨rfl, rfl⟩ := h2
 exact ⟨v, rfl, h1⟩
theorem pInt_getn {k : Nat} {l : List UInt8} (h : pInt k l = none) : pGet k l = none := by
 unfold pInt at h
 simpa using h

theorem readAll_int (R B f : Nat) (p : Ps Int) (size : Nat) (h1 : 1 ≤ size) (h4 : size ≤ 4) (eg : ∀ args w, (callFunc f args).run Tryz.prog w = .ok (.enter f args) w) (hf : Reads R B f p (fun y v _ => v = .int .i64 y ∧ I64 y)) (hp : ∀ l y l', p l = some (y, l') → l'.length + 1 ≤ l.length)
  (w : World) (l : List UInt8) (hB : B ≤ w.heap.size) (hR : RdL R w l) (hl : l.length ≤ 60000) :
  Calls Tryz.prog 90 #[.pointer (some ⟨R, 0, none⟩), .int .i64 size, .func (.func f) #[] #[]] w fun e w' => PostX R w (pAll size p l) (fun ys v w' => NsOwn B w' v ys) e w' := by
 obtain ⟨i0, hi, hz0, hz1, hz2⟩ := info_parts info_int2
 have hRlt := hR.lt
 have hN := ru32 R w l hR size h1 h4
 have H : Aside (Reads R B f p (fun y v _ => v = .int .i64 y ∧ I64 y) ∧ (∀ l y l', p l = some (y, l') → l'.length + 1 ≤ l.length) ∧ B ≤ w.heap.size) := ⟨hf, hp, hB⟩
 clear hf hp hB hR
 cases hg : pInt size l with
 | none =>
  have E : Hid (pAll size p l = none) := pAll_none (pInt_getn hg)
  go_enter Tryz.func90, Tryz.ntmps90
  go_wp2_with (go_at_call 89; refine hN.mono ?_; intro e w1 hP; obtain ⟨⟨m, rfl⟩, hgr⟩ := hP.miss hg)
  exact ⟨rfl, PostX.none E.out hgr⟩
 | some q =>
  obtain ⟨y0, l1⟩ := q
  obtain ⟨n, rfl, hg1⟩ := pInt_get hg
  have hlt := (pInt_lt hg)
  have hn32 : n < 4294967296 := by
   have h2 := (pGet_val hg1).1
   have h3 : 256 ^ size ≤ 256 ^ 4 := Nat.pow_le_pow_right (by omega) h4
   rw [pow4n] at h3
   omega
  have E : Hid (pAll size p l = pTimes p n l1) := pAll_some hg1
  have hl1 : l1.length ≤ 60000 := by omega
  clear hlt hg1
  go_enter Tryz.func90, Tryz.ntmps90
  go_wp2_with (go_at_call 89; refine hN.mono ?_; intro e w1 hP; obtain ⟨v, rfl, rfl, hW1⟩ := hP.got hg; refine Hid.out ?_)
  refine hid ?_
  have HW1 : Aside (Went R w w1 l1) := hW1
  clear hN hg hP hW1
  go_wp2_with fail
  go_loopg [7, 11] n (fun g1 vv vi wr => ∃ (k : Nat), vi = .int .u32 k ∧ k ≤ n ∧ n - k ≤ g1 ∧ Aside (∃ (xs : List Int) (lk : List UInt8), xs.length = k ∧ wr.ownsRow w.heap.size 3 1 vv k (vals xs) ∧ (∀ x ∈ xs, I64 x) ∧ Went R w wr lk ∧ k + lk.length ≤ l1.length ∧ pTimes p n l1 = (pTimes p (n - k) lk).map fun z => (xs ++ z.1, z.2)))
  case atStart => exact ⟨0, rfl, Nat.zero_le _, nrQ _, [], l1, rfl, World.ownsRow_nil _ _ _ _, by simp, HW1.out, by omega, by simp⟩
  case round =>
   obtain ⟨k, rfl, hk, hgk, SK⟩ := hrel
   by_cases hlt : k < n
   ·have hltz : (k : Int) < (n : Int) := by omega
    obtain ⟨xs, lk, hx1, hx2, hx3, hx4, hx5, hx6⟩ := SK.out
    obtain ⟨j, hj⟩ : ∃ j, n - k = j + 1 := ⟨n - k - 1, by omega⟩
    rw [hj] at hx6
    have hF := H.out.1 wr lk (ntQ H.out.2.2 hx4.grown.size) hx4.rdr (by omega)
    cases hq : p lk with
    | none =>
     have HN : Aside (pTimes p n l1 = none ∧ Went R w wr lk) := ⟨pTimes_miss hx6 hq, hx4⟩
     clear SK hx1 hx2 hx3 hx4 hx5 hx6 hj
     go_wp2_with fail
     refine hF.mono ?_
     intro e w2 hP
     obtain ⟨⟨m, rfl⟩, hgr⟩ := hP.miss hq
     exact ⟨rfl, PostX.none (E.out.trans HN.out.1) (grown_trans HN.out.2.grown hgr)⟩
    | some q =>
     obtain ⟨y, lk'⟩ := q
     have HS : Aside (xs.length = k ∧ wr.ownsRow w.heap.size 3 1 u7 k (vals xs) ∧ (∀ x ∈ xs, I64 x) ∧ Went R w wr lk ∧ (k + 1) + lk'.length ≤ l1.length ∧ pTimes p n l1 = (pTimes p j lk').map fun z => ((xs ++ [y]) ++ z.1, z.2)) :=
      ⟨hx1, hx2, hx3, hx4, by have := H.out.2.1 lk y lk' hq; omega, pTimes_step hx6 hq⟩
     have HJ : Hid (n - k = j + 1) := hj
     have hkl : k ≤ 60000 := by omega
     clear SK hx1 hx2 hx3 hx4 hx5 hx6 hj
     go_wp2_with fail
     refine hF.mono ?_
     intro e w2 hP
     obtain ⟨v2, rfl, hgot, hW2⟩ := hP.got hq
     clear hP hF hq
     obtain ⟨rfl, hy64⟩ := hgot
     have hownx : Aside (I64 y) := hy64
     have hWW : Aside (Went R w w2 lk') := HS.out.2.2.2.1.trans hW2
     have hbz : w.heap.size ≤ w2.heap.size := hWW.out.grown.size
     have hfarI : ∀ e, 131 ≠ e → Far wr (some R) e := fun e he => by
      obtain ⟨a, n, c, h⟩ := HS.out.2.2.2.1.rdr
      exact far_rdr h he
     have hown2 : w2.ownsRow w.heap.size 3 1 u7 k (vals xs) := own_far HS.out.2.1 hW2.grown (hfarI _ (by decide))
     have HX : Aside (∀ x ∈ xs, I64 x) := fun x hx => HS.out.2.2.1 x hx
     clear hW2
     go_wp2_with (at_builtin; refine wpList_append_lies _ rfl _ _ 39 rfl w.heap.size 3 i0 _ 1 8 Tryz.underlying39 hi hz0 hz1 hz2 rfl (by decide) _ k _ rfl (hown2.alloc _) ⟨w2.heap.size, 0, none⟩ 1 1 [Value.int .i64 y] rfl rfl (cell_one_new _ _ _) (by intro u hu; simp at hu; first | (rcases hu with rfl | rfl <;> rfl) | (subst hu; rfl)) (by omega) (by unfold maxLen; omega) (by omega) (by simp; omega) (w2.heap.size + 1) (by simp) ?_; intro g c3 w3 hown3 hgrow hat hglt)
     have S3 : Aside (∃ (xs : List Int) (lk : List UInt8), xs.length = k + 1 ∧ w3.ownsRow w.heap.size 3 1 (.slice (some ⟨g, 0, none⟩) (k + 1) c3) (k + 1) (vals xs) ∧ (∀ x ∈ xs, I64 x) ∧ Went R w w3 lk ∧ (k + 1) + lk.length ≤ l1.length ∧ pTimes p n l1 = (pTimes p (n - (k + 1)) lk).map fun z => (xs ++ z.1, z.2)) := by
      obtain ⟨a1, a2, a3, a4, a5, a6⟩ := HS.out
      have hfr : ∀ o e', 3 ≠ e' → Far (w2.alloc o) u7.ownBlock e' := fun o e' he => far_row (hown2.alloc o) he
      refine ⟨xs ++ [y], lk', by simp [a1], ?_, fun x hx => ?_, (hWW.out.below (by (repeat (first | with_reducible exact Below.refl _ _ | (with_reducible refine Below.drew ?_) | (with_reducible refine Below.alloc ?_ (by first | omega | (simp; done) | (simp; omega)) _) | (with_reducible refine Below.setCell ?_ (by first | exact nrQ _ | omega | (simp; done) | (simp; omega)) _)))) hRlt).row hgrow (fun q hq => (hown2.lt q hq).1) hRlt, a5, ?_⟩
      ·have e1 : vals (xs ++ [y]) = vals xs ++ [Value.int .i64 y] := by simp [vals]
       rw [e1]; exact hown3
      ·rcases List.mem_append.1 hx with hx | hx
       ·exact HX.out x hx
       ·simp only [List.mem_singleton] at hx
        subst hx
        exact hownx.out
      ·rw [show n - (k + 1) = j by have := HJ.out; omega]
       first | exact a6 | (rw [a6]; simp)
     clear hown3 hgrow hat hglt hown2 HX hfarI
     go_wp2
     go_roundg (n - (k + 1))
     case measure => omega
     case rel => exact ⟨k + 1, by go_num, by omega, by omega, S3⟩
   ·have hltz : ¬ (k : Int) < (n : Int) := by omega
    have S3 : Aside (∃ (xs : List Int) (lk : List UInt8), xs.length = k ∧ wr.ownsRow w.heap.size 3 1 u7 k (vals xs) ∧ (∀ x ∈ xs, I64 x) ∧ Went R w wr lk ∧ pTimes p n l1 = some (xs, lk)) := by
     obtain ⟨xs, lk, a1, a2, a3, a4, a5, a6⟩ := SK.out
     refine ⟨xs, lk, a1, a2, a3, a4, ?_⟩
     rw [a6, show n - k = 0 by omega]
     simp [pTimes]
    clear SK
    go_wp2
    go_ret
    obtain ⟨xs, lk, a1, a2, a3, a4, a5⟩ := S3.out
    refine PostX.some (E.out.trans a5) ?_ a4
    rw [← a1] at a2
    exact ⟨own_mono a2 H.out.2.2, a3⟩

theorem readAll_fact (R B f : Nat) (p : Ps PFact) (size : Nat) (h1 : 1 ≤ size) (h4 : size ≤ 4) (eg : ∀ args w, (callFunc f args).run Tryz.prog w = .ok (.enter f args) w) (hf : Reads R B f p (fun y v w' => ∃ f, v = ftV f ∧ pf f = y ∧ FtOwn B w' f)) (hp : ∀ l y l', p l = some (y, l') → l'.length + 1 ≤ l.length)
  (w : World) (l : List UInt8) (hB : B ≤ w.heap.size) (hR : RdL R w l) (hl : l.length ≤ 60000) :
  Calls Tryz.prog 92 #[.pointer (some ⟨R, 0, none⟩), .int .i64 size, .func (.func f) #[] #[]] w fun e w' => PostX R w (pAll size p l) (fun ys v w' => ∃ fs, fs.map pf = ys ∧ FsOwn B w' v fs) e w' := by
 obtain ⟨i0, hi, hz0, hz1, hz2⟩ := info_parts info_fact
 have hRlt := hR.lt
 have hN := ru32 R w l hR size h1 h4
 have H : Aside (Reads R B f p (fun y v w' => ∃ f, v = ftV f ∧ pf f = y ∧ FtOwn B w' f) ∧ (∀ l y l', p l = some (y, l') → l'.length + 1 ≤ l.length) ∧ B ≤ w.heap.size) := ⟨hf, hp, hB⟩
 clear hf hp hB hR
 cases hg : pInt size l with
 | none =>
  have E : Hid (pAll size p l = none) := pAll_none (pInt_getn hg)
  go_enter Tryz.func92, Tryz.ntmps92
  go_wp2_with (go_at_call 89; refine hN.mono ?_; intro e w1 hP; obtain ⟨⟨m, rfl⟩, hgr⟩ := hP.miss hg)
  exact ⟨rfl, PostX.none E.out hgr⟩
 | some q =>
  obtain ⟨y0, l1⟩ := q
  obtain ⟨n, rfl, hg1⟩ := pInt_get hg
  have hlt := (pInt_lt hg)
  have hn32 : n < 4294967296 := by
   have h2 := (pGet_val hg1).1
   have h3 : 256 ^ size ≤ 256 ^ 4 := Nat.pow_le_pow_right (by omega) h4
   rw [pow4n] at h3
   omega
  have E : Hid (pAll size p l = pTimes p n l1) := pAll_some hg1
  have hl1 : l1.length ≤ 60000 := by omega
  clear hlt hg1
  go_enter Tryz.func92, Tryz.ntmps92
  go_wp2_with (go_at_call 89; refine hN.mono ?_; intro e w1 hP; obtain ⟨v, rfl, rfl, hW1⟩ := hP.got hg; refine Hid.out ?_)
  refine hid ?_
  have HW1 : Aside (Went R w w1 l1) := hW1
  clear hN hg hP hW1
  go_wp2_with fail
  go_loopg [7, 11] n (fun g1 vv vi wr => ∃ (k : Nat), vi = .int .u32 k ∧ k ≤ n ∧ n - k ≤ g1 ∧ Aside (∃ (xs : List Ft) (lk : List UInt8), xs.length = k ∧ wr.ownsRow w.heap.size 124 2 vv k (xs.flatMap factC) ∧ (∀ x ∈ xs, FtOwn B wr x) ∧ Went R w wr lk ∧ k + lk.length ≤ l1.length ∧ pTimes p n l1 = (pTimes p (n - k) lk).map fun z => (xs.map pf ++ z.1, z.2)))
  case atStart => exact ⟨0, rfl, Nat.zero_le _, nrQ _, [], l1, rfl, World.ownsRow_nil _ _ _ _, by simp, HW1.out, by omega, by simp⟩
  case round =>
   obtain ⟨k, rfl, hk, hgk, SK⟩ := hrel
   by_cases hlt : k < n
   ·have hltz : (k : Int) < (n : Int) := by omega
    obtain ⟨xs, lk, hx1, hx2, hx3, hx4, hx5, hx6⟩ := SK.out
    obtain ⟨j, hj⟩ : ∃ j, n - k = j + 1 := ⟨n - k - 1, by omega⟩
    rw [hj] at hx6
    have hF := H.out.1 wr lk (ntQ H.out.2.2 hx4.grown.size) hx4.rdr (by omega)
    cases hq : p lk with
    | none =>
     have HN : Aside (pTimes p n l1 = none ∧ Went R w wr lk) := ⟨pTimes_miss hx6 hq, hx4⟩
     clear SK hx1 hx2 hx3 hx4 hx5 hx6 hj
     go_wp2_with fail
     refine hF.mono ?_
     intro e w2 hP
     obtain ⟨⟨m, rfl⟩, hgr⟩ := hP.miss hq
     exact ⟨rfl, PostX.none (E.out.trans HN.out.1) (grown_trans HN.out.2.grown hgr)⟩
    | some q =>
     obtain ⟨y, lk'⟩ := q
     have HS : Aside (xs.length = k ∧ wr.ownsRow w.heap.size 124 2 u7 k (xs.flatMap factC) ∧ (∀ x ∈ xs, FtOwn B wr x) ∧ Went R w wr lk ∧ (k + 1) + lk'.length ≤ l1.length ∧ pTimes p n l1 = (pTimes p j lk').map fun z => ((xs.map pf ++ [y]) ++ z.1, z.2)) :=
      ⟨hx1, hx2, hx3, hx4, by have := H.out.2.1 lk y lk' hq; omega, pTimes_step hx6 hq⟩
     have HJ : Hid (n - k = j + 1) := hj
     have hkl : k ≤ 60000 := by omega
     clear SK hx1 hx2 hx3 hx4 hx5 hx6 hj
     go_wp2_with fail
     refine hF.mono ?_
     intro e w2 hP
     obtain ⟨v2, rfl, hgot, hW2⟩ := hP.got hq
     clear hP hF hq
     obtain ⟨f0, rfl, rfl, hfo⟩ := hgot
     have hownx : Aside (FtOwn B w2 f0) := hfo
     unfold ftV
     have hWW : Aside (Went R w w2 lk') := HS.out.2.2.2.1.trans hW2
     have hbz : w.heap.size ≤ w2.heap.size := hWW.out.grown.size
     have hfarI : ∀ e, 131 ≠ e → Far wr (some R) e := fun e he => by
      obtain ⟨a, n, c, h⟩ := HS.out.2.2.2.1.rdr
      exact far_rdr h he
     have hown2 : w2.ownsRow w.heap.size 124 2 u7 k (xs.flatMap factC) := own_far HS.out.2.1 hW2.grown (hfarI _ (by decide))
     have HX : Aside (∀ x ∈ xs, FtOwn B w2 x) := fun x hx => (HS.out.2.2.1 x hx).far hW2.grown (hfarI _ (by decide))
     clear hW2
     go_wp2_with (at_builtin; refine wpList_append_lies _ rfl _ _ 40 rfl w.heap.size 124 i0 _ 2 32 Tryz.underlying40 hi hz0 hz1 hz2 rfl (by decide) _ k _ rfl (hown2.alloc _) ⟨w2.heap.size, 0, none⟩ 1 1 [Value.slice f0.a f0.k.length f0.cap, Value.int .i64 f0.v] rfl rfl (cells_two_new _ _ _ _) (by intro u hu; simp at hu; first | (rcases hu with rfl | rfl <;> rfl) | (subst hu; rfl)) (by omega) (by unfold maxLen; omega) (by omega) (by simp; omega) (w2.heap.size + 1) (by simp) ?_; intro g c3 w3 hown3 hgrow hat hglt)
     have S3 : Aside (∃ (xs : List Ft) (lk : List UInt8), xs.length = k + 1 ∧ w3.ownsRow w.heap.size 124 2 (.slice (some ⟨g, 0, none⟩) (k + 1) c3) (k + 1) (xs.flatMap factC) ∧ (∀ x ∈ xs, FtOwn B w3 x) ∧ Went R w w3 lk ∧ (k + 1) + lk.length ≤ l1.length ∧ pTimes p n l1 = (pTimes p (n - (k + 1)) lk).map fun z => (xs.map pf ++ z.1, z.2)) := by
      obtain ⟨a1, a2, a3, a4, a5, a6⟩ := HS.out
      have hfr : ∀ o e', 124 ≠ e' → Far (w2.alloc o) u7.ownBlock e' := fun o e' he => far_row (hown2.alloc o) he
      refine ⟨xs ++ [f0], lk', by simp [a1], ?_, fun x hx => ?_, (hWW.out.below (by (repeat (first | with_reducible exact Below.refl _ _ | (with_reducible refine Below.drew ?_) | (with_reducible refine Below.alloc ?_ (by first | omega | (simp; done) | (simp; omega)) _) | (with_reducible refine Below.setCell ?_ (by first | exact nrQ _ | omega | (simp; done) | (simp; omega)) _)))) hRlt).row hgrow (fun q hq => (hown2.lt q hq).1) hRlt, a5, ?_⟩
      ·have e1 : (xs ++ [f0]).flatMap factC = xs.flatMap factC ++ [Value.slice f0.a f0.k.length f0.cap, Value.int .i64 f0.v] := by simp [factC]
       rw [e1]; exact hown3
      ·rcases List.mem_append.1 hx with hx | hx
       ·exact (FtOwn.far (HX.out x hx) (World.grownBy_alloc _ _ none) (far_none _ _)).far hgrow (hfr _ _ (by decide))
       ·simp only [List.mem_singleton] at hx
        subst hx
        exact (FtOwn.far (hownx.out) (World.grownBy_alloc _ _ none) (far_none _ _)).far hgrow (hfr _ _ (by decide))
      ·rw [show n - (k + 1) = j by have := HJ.out; omega]
       first | exact a6 | (rw [a6]; simp)
     clear hown3 hgrow hat hglt hown2 HX hfarI
     go_wp2
     go_roundg (n - (k + 1))
     case measure => omega
     case rel => exact ⟨k + 1, by go_num, by omega, by omega, S3⟩
   ·have hltz : ¬ (k : Int) < (n : Int) := by omega
    have S3 : Aside (∃ (xs : List Ft) (lk : List UInt8), xs.length = k ∧ wr.ownsRow w.heap.size 124 2 u7 k (xs.flatMap factC) ∧ (∀ x ∈ xs, FtOwn B wr x) ∧ Went R w wr lk ∧ pTimes p n l1 = some (xs.map pf, lk)) := by
     obtain ⟨xs, lk, a1, a2, a3, a4, a5, a6⟩ := SK.out
     refine ⟨xs, lk, a1, a2, a3, a4, ?_⟩
     rw [a6, show n - k = 0 by omega]
     simp [pTimes]
    clear SK
    go_wp2
    go_ret
    obtain ⟨xs, lk, a1, a2, a3, a4, a5⟩ := S3.out
    refine PostX.some (E.out.trans a5) ?_ a4
    rw [← a1] at a2
    exact ⟨xs, rfl, own_mono a2 H.out.2.2, a3⟩

theorem readAll_span (R B f : Nat) (p : Ps PSpan) (size : Nat) (h1 : 1 ≤ size) (h4 : size ≤ 4) (eg : ∀ args w, (callFunc f args).run Tryz.prog w = .ok (.enter f args) w) (hf : Reads R B f p (fun y v _ => v = spV y ∧ I64 y.1 ∧ I64 y.2)) (hp : ∀ l y l', p l = some (y, l') → l'.length + 1 ≤ l.length)
  (w : World) (l : List UInt8) (hB : B ≤ w.heap.size) (hR : RdL R w l) (hl : l.length ≤ 60000) :
  Calls Tryz.prog 94 #[.pointer (some ⟨R, 0, none⟩), .int .i64 size, .func (.func f) #[] #[]] w fun e w' => PostX R w (pAll size p l) (fun ys v w' => SsOwn B w' v ys) e w' := by
 obtain ⟨i0, hi, hz0, hz1, hz2⟩ := info_parts info_span
 have hRlt := hR.lt
 have hN := ru32 R w l hR size h1 h4
 have H : Aside (Reads R B f p (fun y v _ => v = spV y ∧ I64 y.1 ∧ I64 y.2) ∧ (∀ l y l', p l = some (y, l') → l'.length + 1 ≤ l.length) ∧ B ≤ w.heap.size) := ⟨hf, hp, hB⟩
 clear hf hp hB hR
 cases hg : pInt size l with
 | none =>
  have E : Hid (pAll size p l = none) := pAll_none (pInt_getn hg)
  go_enter Tryz.func94, Tryz.ntmps94
  go_wp2_with (go_at_call 89; refine hN.mono ?_; intro e w1 hP; obtain ⟨⟨m, rfl⟩, hgr⟩ := hP.miss hg)
  exact ⟨rfl, PostX.none E.out hgr⟩
 | some q =>
  obtain ⟨y0, l1⟩ := q
  obtain ⟨n, rfl, hg1⟩ := pInt_get hg
  have hlt := (pInt_lt hg)
  have hn32 : n < 4294967296 := by
   have h2 := (pGet_val hg1).1
   have h3 : 256 ^ size ≤ 256 ^ 4 := Nat.pow_le_pow_right (by omega) h4
   rw [pow4n] at h3
   omega
  have E : Hid (pAll size p l = pTimes p n l1) := pAll_some hg1
  have hl1 : l1.length ≤ 60000 := by omega
  clear hlt hg1
  go_enter Tryz.func94, Tryz.ntmps94
  go_wp2_with (go_at_call 89; refine hN.mono ?_; intro e w1 hP; obtain ⟨v, rfl, rfl, hW1⟩ := hP.got hg; refine Hid.out ?_)
  refine hid ?_
  have HW1 : Aside (Went R w w1 l1) := hW1
  clear hN hg hP hW1
  go_wp2_with fail
  go_loopg [7, 11] n (fun g1 vv vi wr => ∃ (k : Nat), vi = .int .u32 k ∧ k ≤ n ∧ n - k ≤ g1 ∧ Aside (∃ (xs : List PSpan) (lk : List UInt8), xs.length = k ∧ wr.ownsRow w.heap.size 109 2 vv k (xs.flatMap spanC) ∧ (∀ x ∈ xs, I64 x.1 ∧ I64 x.2) ∧ Went R w wr lk ∧ k + lk.length ≤ l1.length ∧ pTimes p n l1 = (pTimes p (n - k) lk).map fun z => (xs ++ z.1, z.2)))
  case atStart => exact ⟨0, rfl, Nat.zero_le _, nrQ _, [], l1, rfl, World.ownsRow_nil _ _ _ _, by simp, HW1.out, by omega, by simp⟩
  case round =>
   obtain ⟨k, rfl, hk, hgk, SK⟩ := hrel
   by_cases hlt : k < n
   ·have hltz : (k : Int) < (n : Int) := by omega
    obtain ⟨xs, lk, hx1, hx2, hx3, hx4, hx5, hx6⟩ := SK.out
    obtain ⟨j, hj⟩ : ∃ j, n - k = j + 1 := ⟨n - k - 1, by omega⟩
    rw [hj] at hx6
    have hF := H.out.1 wr lk (ntQ H.out.2.2 hx4.grown.size) hx4.rdr (by omega)
    cases hq : p lk with
    | none =>
     have HN : Aside (pTimes p n l1 = none ∧ Went R w wr lk) := ⟨pTimes_miss hx6 hq, hx4⟩
     clear SK hx1 hx2 hx3 hx4 hx5 hx6 hj
     go_wp2_with fail
     refine hF.mono ?_
     intro e w2 hP
     obtain ⟨⟨m, rfl⟩, hgr⟩ := hP.miss hq
     exact ⟨rfl, PostX.none (E.out.trans HN.out.1) (grown_trans HN.out.2.grown hgr)⟩
    | some q =>
     obtain ⟨y, lk'⟩ := q
     have HS : Aside (xs.length = k ∧ wr.ownsRow w.heap.size 109 2 u7 k (xs.flatMap spanC) ∧ (∀ x ∈ xs, I64 x.1 ∧ I64 x.2) ∧ Went R w wr lk ∧ (k + 1) + lk'.length ≤ l1.length ∧ pTimes p n l1 = (pTimes p j lk').map fun z => ((xs ++ [y]) ++ z.1, z.2)) :=
      ⟨hx1, hx2, hx3, hx4, by have := H.out.2.1 lk y lk' hq; omega, pTimes_step hx6 hq⟩
     have HJ : Hid (n - k = j + 1) := hj
     have hkl : k ≤ 60000 := by omega
     clear SK hx1 hx2 hx3 hx4 hx5 hx6 hj
     go_wp2_with fail
     refine hF.mono ?_
     intro e w2 hP
     obtain ⟨v2, rfl, hgot, hW2⟩ := hP.got hq
     clear hP hF hq
     obtain ⟨rfl, hy64⟩ := hgot
     have hownx : Aside (I64 y.1 ∧ I64 y.2) := hy64
     unfold spV
     have hWW : Aside (Went R w w2 lk') := HS.out.2.2.2.1.trans hW2
     have hbz : w.heap.size ≤ w2.heap.size := hWW.out.grown.size
     have hfarI : ∀ e, 131 ≠ e → Far wr (some R) e := fun e he => by
      obtain ⟨a, n, c, h⟩ := HS.out.2.2.2.1.rdr
      exact far_rdr h he
     have hown2 : w2.ownsRow w.heap.size 109 2 u7 k (xs.flatMap spanC) := own_far HS.out.2.1 hW2.grown (hfarI _ (by decide))
     have HX : Aside (∀ x ∈ xs, I64 x.1 ∧ I64 x.2) := fun x hx => HS.out.2.2.1 x hx
     clear hW2
     go_wp2_with (at_builtin; refine wpList_append_lies _ rfl _ _ 41 rfl w.heap.size 109 i0 _ 2 16 Tryz.underlying41 hi hz0 hz1 hz2 rfl (by decide) _ k _ rfl (hown2.alloc _) ⟨w2.heap.size, 0, none⟩ 1 1 [Value.int .i64 y.1, Value.int .i64 y.2] rfl rfl (cells_two_new _ _ _ _) (by intro u hu; simp at hu; first | (rcases hu with rfl | rfl <;> rfl) | (subst hu; rfl)) (by omega) (by unfold maxLen; omega) (by omega) (by simp; omega) (w2.heap.size + 1) (by simp) ?_; intro g c3 w3 hown3 hgrow hat hglt)
     have S3 : Aside (∃ (xs : List PSpan) (lk : List UInt8), xs.length = k + 1 ∧ w3.ownsRow w.heap.size 109 2 (.slice (some ⟨g, 0, none⟩) (k + 1) c3) (k + 1) (xs.flatMap spanC) ∧ (∀ x ∈ xs, I64 x.1 ∧ I64 x.2) ∧ Went R w w3 lk ∧ (k + 1) + lk.length ≤ l1.length ∧ pTimes p n l1 = (pTimes p (n - (k + 1)) lk).map fun z => (xs ++ z.1, z.2)) := by
      obtain ⟨a1, a2, a3, a4, a5, a6⟩ := HS.out
      have hfr : ∀ o e', 109 ≠ e' → Far (w2.alloc o) u7.ownBlock e' := fun o e' he => far_row (hown2.alloc o) he
      refine ⟨xs ++ [y], lk', by simp [a1], ?_, fun x hx => ?_, (hWW.out.below (by (repeat (first | with_reducible exact Below.refl _ _ | (with_reducible refine Below.drew ?_) | (with_reducible refine Below.alloc ?_ (by first | omega | (simp; done) | (simp; omega)) _) | (with_reducible refine Below.setCell ?_ (by first | exact nrQ _ | omega | (simp; done) | (simp; omega)) _)))) hRlt).row hgrow (fun q hq => (hown2.lt q hq).1) hRlt, a5, ?_⟩
      ·have e1 : (xs ++ [y]).flatMap spanC = xs.flatMap spanC ++ [Value.int .i64 y.1, Value.int .i64 y.2] := by simp [spanC]
       rw [e1]; exact hown3
      ·rcases List.mem_append.1 hx with hx | hx
       ·exact HX.out x hx
       ·simp only [List.mem_singleton] at hx
        subst hx
        exact hownx.out
      ·rw [show n - (k + 1) = j by have := HJ.out; omega]
       first | exact a6 | (rw [a6]; simp)
     clear hown3 hgrow hat hglt hown2 HX hfarI
     go_wp2
     go_roundg (n - (k + 1))
     case measure => omega
     case rel => exact ⟨k + 1, by go_num, by omega, by omega, S3⟩
   ·have hltz : ¬ (k : Int) < (n : Int) := by omega
    have S3 : Aside (∃ (xs : List PSpan) (lk : List UInt8), xs.length = k ∧ wr.ownsRow w.heap.size 109 2 u7 k (xs.flatMap spanC) ∧ (∀ x ∈ xs, I64 x.1 ∧ I64 x.2) ∧ Went R w wr lk ∧ pTimes p n l1 = some (xs, lk)) := by
     obtain ⟨xs, lk, a1, a2, a3, a4, a5, a6⟩ := SK.out
     refine ⟨xs, lk, a1, a2, a3, a4, ?_⟩
     rw [a6, show n - k = 0 by omega]
     simp [pTimes]
    clear SK
    go_wp2
    go_ret
    obtain ⟨xs, lk, a1, a2, a3, a4, a5⟩ := S3.out
    refine PostX.some (E.out.trans a5) ?_ a4
    rw [← a1] at a2
    exact ⟨own_mono a2 H.out.2.2, a3⟩

theorem readAll_ent (R B f : Nat) (p : Ps PEnt) (size : Nat) (h1 : 1 ≤ size) (h4 : size ≤ 4) (eg : ∀ args w, (callFunc f args).run Tryz.prog w = .ok (.enter f args) w) (hf : Reads R B f p (fun y v w' => ∃ f, v = etV f ∧ pe f = y ∧ EtOwn B w' f)) (hp : ∀ l y l', p l = some (y, l') → l'.length + 1 ≤ l.length)
  (w : World) (l : List UInt8) (hB : B ≤ w.heap.size) (hR : RdL R w l) (hl : l.length ≤ 60000) :
  Calls Tryz.prog 97 #[.pointer (some ⟨R, 0, none⟩), .int .i64 size, .func (.func f) #[] #[]] w fun e w' => PostX R w (pAll size p l) (fun ys v w' => ∃ fs, fs.map pe = ys ∧ EsOwn B w' v fs) e w' := by
 obtain ⟨i0, hi, hz0, hz1, hz2⟩ := info_parts info_ent
 have hRlt := hR.lt
 have hN := ru32 R w l hR size h1 h4
 have H : Aside (Reads R B f p (fun y v w' => ∃ f, v = etV f ∧ pe f = y ∧ EtOwn B w' f) ∧ (∀ l y l', p l = some (y, l') → l'.length + 1 ≤ l.length) ∧ B ≤ w.heap.size) := ⟨hf, hp, hB⟩
 clear hf hp hB hR
 cases hg : pInt size l with
 | none =>
  have E : Hid (pAll size p l = none) := pAll_none (pInt_getn hg)
  go_enter Tryz.func97, Tryz.ntmps97
  go_wp2_with (go_at_call 89; refine hN.mono ?_; intro e w1 hP; obtain ⟨⟨m, rfl⟩, hgr⟩ := hP.miss hg)
  exact ⟨rfl, PostX.none E.out hgr⟩
 | some q =>
  obtain ⟨y0, l1⟩ := q
  obtain ⟨n, rfl, hg1⟩ := pInt_get hg
  have hlt := (pInt_lt hg)
  have hn32 : n < 4294967296 := by
   have h2 := (pGet_val hg1).1
   have h3 : 256 ^ size ≤ 256 ^ 4 := Nat.pow_le_pow_right (by omega) h4
   rw [pow4n] at h3
   omega
  have E : Hid (pAll size p l = pTimes p n l1) := pAll_some hg1
  have hl1 : l1.length ≤ 60000 := by omega
  clear hlt hg1
  go_enter Tryz.func97, Tryz.ntmps97
  go_wp2_with (go_at_call 89; refine hN.mono ?_; intro e w1 hP; obtain ⟨v, rfl, rfl, hW1⟩ := hP.got hg; refine Hid.out ?_)
  refine hid ?_
  have HW1 : Aside (Went R w w1 l1) := hW1
  clear hN hg hP hW1
  go_wp2_with fail
  go_loopg [7, 11] n (fun g1 vv vi wr => ∃ (k : Nat), vi = .int .u32 k ∧ k ≤ n ∧ n - k ≤ g1 ∧ Aside (∃ (xs : List Et) (lk : List UInt8), xs.length = k ∧ wr.ownsRow w.heap.size 94 2 vv k (xs.flatMap entC) ∧ (∀ x ∈ xs, EtOwn B wr x) ∧ Went R w wr lk ∧ k + lk.length ≤ l1.length ∧ pTimes p n l1 = (pTimes p (n - k) lk).map fun z => (xs.map pe ++ z.1, z.2)))
  case atStart => exact ⟨0, rfl, Nat.zero_le _, nrQ _, [], l1, rfl, World.ownsRow_nil _ _ _ _, by simp, HW1.out, by omega, by simp⟩
  case round =>
   obtain ⟨k, rfl, hk, hgk, SK⟩ := hrel
   by_cases hlt : k < n
   ·have hltz : (k : Int) < (n : Int) := by omega
    obtain ⟨xs, lk, hx1, hx2, hx3, hx4, hx5, hx6⟩ := SK.out
    obtain ⟨j, hj⟩ : ∃ j, n - k = j + 1 := ⟨n - k - 1, by omega⟩
    rw [hj] at hx6
    have hF := H.out.1 wr lk (ntQ H.out.2.2 hx4.grown.size) hx4.rdr (by omega)
    cases hq : p lk with
    | none =>
     have HN : Aside (pTimes p n l1 = none ∧ Went R w wr lk) := ⟨pTimes_miss hx6 hq, hx4⟩
     clear SK hx1 hx2 hx3 hx4 hx5 hx6 hj
     go_wp2_with fail
     refine hF.mono ?_
     intro e w2 hP
     obtain ⟨⟨m, rfl⟩, hgr⟩ := hP.miss hq
     exact ⟨rfl, PostX.none (E.out.trans HN.out.1) (grown_trans HN.out.2.grown hgr)⟩
    | some q =>
     obtain ⟨y, lk'⟩ := q
     have HS : Aside (xs.length = k ∧ wr.ownsRow w.heap.size 94 2 u7 k (xs.flatMap entC) ∧ (∀ x ∈ xs, EtOwn B wr x) ∧ Went R w wr lk ∧ (k + 1) + lk'.length ≤ l1.length ∧ pTimes p n l1 = (pTimes p j lk').map fun z => ((xs.map pe ++ [y]) ++ z.1, z.2)) :=
      ⟨hx1, hx2, hx3, hx4, by have := H.out.2.1 lk y lk' hq; omega, pTimes_step hx6 hq⟩
     have HJ : Hid (n - k = j + 1) := hj
     have hkl : k ≤ 60000 := by omega
     clear SK hx1 hx2 hx3 hx4 hx5 hx6 hj
     go_wp2_with fail
     refine hF.mono ?_
     intro e w2 hP
     obtain ⟨v2, rfl, hgot, hW2⟩ := hP.got hq
     clear hP hF hq
     obtain ⟨f0, rfl, rfl, hfo⟩ := hgot
     have hownx : Aside (EtOwn B w2 f0) := hfo
     unfold etV
     have hWW : Aside (Went R w w2 lk') := HS.out.2.2.2.1.trans hW2
     have hbz : w.heap.size ≤ w2.heap.size := hWW.out.grown.size
     have hfarI : ∀ e, 131 ≠ e → Far wr (some R) e := fun e he => by
      obtain ⟨a, n, c, h⟩ := HS.out.2.2.2.1.rdr
      exact far_rdr h he
     have hown2 : w2.ownsRow w.heap.size 94 2 u7 k (xs.flatMap entC) := own_far HS.out.2.1 hW2.grown (hfarI _ (by decide))
     have HX : Aside (∀ x ∈ xs, EtOwn B w2 x) := fun x hx => (HS.out.2.2.1 x hx).far hW2.grown (hfarI _ (by decide)) (hfarI _ (by decide))
     clear hW2
     go_wp2_with (at_builtin; refine wpList_append_lies _ rfl _ _ 44 rfl w.heap.size 94 i0 _ 2 32 Tryz.underlying44 hi hz0 hz1 hz2 rfl (by decide) _ k _ rfl (hown2.alloc _) ⟨w2.heap.size, 0, none⟩ 1 1 [Value.int .u32 f0.t, Value.slice f0.a f0.fs.length f0.cap] rfl rfl (cells_two_new _ _ _ _) (by intro u hu; simp at hu; first | (rcases hu with rfl | rfl <;> rfl) | (subst hu; rfl)) (by omega) (by unfold maxLen; omega) (by omega) (by simp; omega) (w2.heap.size + 1) (by simp) ?_; intro g c3 w3 hown3 hgrow hat hglt)
     have S3 : Aside (∃ (xs : List Et) (lk : List UInt8), xs.length = k + 1 ∧ w3.ownsRow w.heap.size 94 2 (.slice (some ⟨g, 0, none⟩) (k + 1) c3) (k + 1) (xs.flatMap entC) ∧ (∀ x ∈ xs, EtOwn B w3 x) ∧ Went R w w3 lk ∧ (k + 1) + lk.length ≤ l1.length ∧ pTimes p n l1 = (pTimes p (n - (k + 1)) lk).map fun z => (xs.map pe ++ z.1, z.2)) := by
      obtain ⟨a1, a2, a3, a4, a5, a6⟩ := HS.out
      have hfr : ∀ o e', 94 ≠ e' → Far (w2.alloc o) u7.ownBlock e' := fun o e' he => far_row (hown2.alloc o) he
      refine ⟨xs ++ [f0], lk', by simp [a1], ?_, fun x hx => ?_, (hWW.out.below (by (repeat (first | with_reducible exact Below.refl _ _ | (with_reducible refine Below.drew ?_) | (with_reducible refine Below.alloc ?_ (by first | omega | (simp; done) | (simp; omega)) _) | (with_reducible refine Below.setCell ?_ (by first | exact nrQ _ | omega | (simp; done) | (simp; omega)) _)))) hRlt).row hgrow (fun q hq => (hown2.lt q hq).1) hRlt, a5, ?_⟩
      ·have e1 : (xs ++ [f0]).flatMap entC = xs.flatMap entC ++ [Value.int .u32 f0.t, Value.slice f0.a f0.fs.length f0.cap] := by simp [entC]
       rw [e1]; exact hown3
      ·rcases List.mem_append.1 hx with hx | hx
       ·exact (EtOwn.far (HX.out x hx) (World.grownBy_alloc _ _ none) (far_none _ _) (far_none _ _)).far hgrow (hfr _ _ (by decide)) (hfr _ _ (by decide))
       ·simp only [List.mem_singleton] at hx
        subst hx
        exact (EtOwn.far (hownx.out) (World.grownBy_alloc _ _ none) (far_none _ _) (far_none _ _)).far hgrow (hfr _ _ (by decide)) (hfr _ _ (by decide))
      ·rw [show n - (k + 1) = j by have := HJ.out; omega]
       first | exact a6 | (rw [a6]; simp)
     clear hown3 hgrow hat hglt hown2 HX hfarI
     go_wp2
     go_roundg (n - (k + 1))
     case measure => omega
     case rel => exact ⟨k + 1, by go_num, by omega, by omega, S3⟩
   ·have hltz : ¬ (k : Int) < (n : Int) := by omega
    have S3 : Aside (∃ (xs : List Et) (lk : List UInt8), xs.length = k ∧ wr.ownsRow w.heap.size 94 2 u7 k (xs.flatMap entC) ∧ (∀ x ∈ xs, EtOwn B wr x) ∧ Went R w wr lk ∧ pTimes p n l1 = some (xs.map pe, lk)) := by
     obtain ⟨xs, lk, a1, a2, a3, a4, a5, a6⟩ := SK.out
     refine ⟨xs, lk, a1, a2, a3, a4, ?_⟩
     rw [a6, show n - k = 0 by omega]
     simp [pTimes]
    clear SK
    go_wp2
    go_ret
    obtain ⟨xs, lk, a1, a2, a3, a4, a5⟩ := S3.out
    refine PostX.some (E.out.trans a5) ?_ a4
    rw [← a1] at a2
    exact ⟨xs, rfl, own_mono a2 H.out.2.2, a3⟩
end code
namespace code
open dims (nth Ints cell_lt vals own_below own_mono own_out)
theorem readNode_any (R B : Nat) : Reads R B 91 (pInt 1) (fun y v _ => v = .int .i64 y ∧ I64 y) := by
 intro w l hB hR hl
 have hC := rint R w l hR 1 (by omega) (by omega)
 cases hq : pInt 1 l with
 | none =>
  go_enter Tryz.func91, Tryz.ntmps91
  go_wp2_with (go_at_call 96; refine hC.mono ?_; intro e w1 hP; obtain ⟨⟨m, rfl⟩, hgr⟩ := hP.miss hq)
  exact ⟨rfl, PostX.none rfl hgr⟩
 | some q =>
  obtain ⟨y, l'⟩ := q
  have hy : I64 y := by have := pInt_lt hq; unfold I64; rw [pow1] at this; omega
  go_enter Tryz.func91, Tryz.ntmps91
  go_wp2_with (go_at_call 96; refine hC.mono ?_; intro e w1 hP; obtain ⟨v, rfl, rfl, hW⟩ := hP.got hq)
  go_ret
  exact PostX.some rfl ⟨rfl, hy⟩ hW
theorem readPlace_any (R B : Nat) : Reads R B 112 (pInt 4) (fun y v _ => v = .int .i64 y ∧ I64 y) := by
 intro w l hB hR hl
 have hC := rint R w l hR 4 (by omega) (by omega)
 cases hq : pInt 4 l with
 | none =>
  go_enter Tryz.func112, Tryz.ntmps112
  go_wp2_with (go_at_call 96; refine hC.mono ?_; intro e w1 hP; obtain ⟨⟨m, rfl⟩, hgr⟩ := hP.miss hq)
  exact ⟨rfl, PostX.none rfl hgr⟩
 | some q =>
  obtain ⟨y, l'⟩ := q
  have hy : I64 y := by have := pInt_lt hq; unfold I64; rw [pow4] at this; omega
  go_enter Tryz.func112, Tryz.ntmps112
  go_wp2_with (go_at_call 96; refine hC.mono ?_; intro e w1 hP; obtain ⟨v, rfl, rfl, hW⟩ := hP.got hq)
  go_ret
  exact PostX.some rfl ⟨rfl, hy⟩ hW
theorem pInt_less {k : Nat} (hk : 1 ≤ k) : ∀ l y l', pInt k l = some (y, l') → l'.length + 1 ≤ l.length := fun l y l' h => by have := (pInt_lt h).2.2; omega
theorem pTimes_len {γ : Type} {p : Ps γ} (hp : ∀ l y l', p l = some (y, l') → l'.length + 1 ≤ l.length) : ∀ n l ys l', pTimes p n l = some (ys, l') → l'.length + n ≤ l.length
 | 0, l, ys, l', h => by simp [pTimes] at h; rw [← h.2]; omega
 | n + 1, l, ys, l', h => by
  simp only [pTimes] at h
  obtain ⟨⟨y, l1⟩, h1, h2⟩ := Option.bind_eq_some_iff.1 h
  obtain ⟨⟨zs, l2⟩, h3, h4⟩ := Option.map_eq_some_iff.1 h2
  simp only [Prod.mk.injEq] at h4
  obtain ⟨-, rfl⟩ := h4
  have := hp l y l1 h1
  have := pTimes_len hp n l1 zs l2 h3
  omega
theorem pAll_less {γ : Type} {p : Ps γ} (hp : ∀ l y l', p l = some (y, l') → l'.length + 1 ≤ l.length) {k : Nat} (hk : 1 ≤ k) : ∀ l y l', pAll k p l = some (y, l') → l'.length + 1 ≤ l.length := fun l y l' h => by
 unfold pAll at h
 obtain ⟨⟨n, l1⟩, h1, h2⟩ := Option.bind_eq_some_iff.1 h
 have := (pGet_val h1).2
 have := pTimes_len hp n l1 y l' h2
 omega

theorem pPlaces_less : ∀ l y l', pAll 1 (pInt 4) l = some (y, l') → l'.length + 1 ≤ l.length := pAll_less (pInt_less (by omega)) (by omega)
theorem pI64_less : ∀ l y l', pI64 l = some (y, l') → l'.length + 1 ≤ l.length := fun l y l' h => by have := (pI64_lt h).2; omega

theorem pFact_none1 {l : List UInt8} (h : pAll 1 (pInt 4) l = none) : pFact l = none := by unfold pFact; rw [h]; rfl
theorem pFact_none2 {l l1 : List UInt8} {k : List Int} (h : pAll 1 (pInt 4) l = some (k, l1)) (h2 : pI64 l1 = none) : pFact l = none := by unfold pFact; rw [h]; simp [h2]
theorem pFact_some {l l1 l2 : List UInt8} {k : List Int} {v : Int} (h : pAll 1 (pInt 4) l = some (k, l1)) (h2 : pI64 l1 = some (v, l2)) : pFact l = some ((k, v), l2) := by unfold pFact; rw [h]; simp [h2]
theorem pFact_less : ∀ l y l', pFact l = some (y, l') → l'.length + 1 ≤ l.length := fun l y l' h => by
 unfold pFact at h
 obtain ⟨⟨k, l1⟩, h1, h2⟩ := Option.bind_eq_some_iff.1 h
 obtain ⟨⟨v, l2⟩, h3, h4⟩ := Option.map_eq_some_iff.1 h2
 simp only [Prod.mk.injEq] at h4
 obtain ⟨-, rfl⟩ := h4
 have e1 := pPlaces_less l k l1 h1
 have e2 := pI64_less l1 v l2 h3
 omega

theorem readFact_any (R B : Nat) (hRB : R < B) : Reads R B 93 pFact (fun y v w' => ∃ f, v = ftV f ∧ pf f = y ∧ FtOwn B w' f) := by
 intro w l hB hR hl
 have hb0 : Below w.heap.size w (w.alloc (.cells #[.slice none 0 0, .int .i64 0] 124)) := by (repeat (first | with_reducible exact Below.refl _ _ | (with_reducible refine Below.drew ?_) | (with_reducible refine Below.alloc ?_ (by first | omega | (simp; done) | (simp; omega)) _) | (with_reducible refine Below.setCell ?_ (by first | exact nrQ _ | omega | (simp; done) | (simp; omega)) _)))
 have hx0 := Boxed.new w #[.slice none 0 0, .int .i64 0] 124
 have hRlt := hR.lt
 have H0 : Went R w (w.alloc (.cells #[.slice none 0 0, .int .i64 0] 124)) l := Went.start hR hb0
 generalize hW0 : w.alloc (.cells #[.slice none 0 0, .int .i64 0] 124) = W0 at hb0 hx0 H0
 have hBW : B ≤ W0.heap.size := ntQ hB hb0.size
 have hC1 := readAll_int R B 112 (pInt 4) 1 (by omega) (by omega) (fun _ _ => rfl) (readPlace_any R B) (pInt_less (by omega)) W0 l hBW H0.rdr hl
 have HW : Hid (w.alloc (.cells #[.slice none 0 0, .int .i64 0] 124) = W0) := hW0
 clear hb0 hR hW0
 cases hq : pAll 1 (pInt 4) l with
 | none =>
  have E : Hid (pFact l = none) := pFact_none1 hq
  go_enter Tryz.func93, Tryz.ntmps93
  go_wp2_with fail
  rw [HW.out]
  refine hC1.mono ?_
  intro e w1 hP
  obtain ⟨⟨m, rfl⟩, hgr⟩ := hP.miss hq
  exact ⟨rfl, PostX.none E.out (grown_trans H0.grown hgr)⟩
 | some q =>
  obtain ⟨ks, l1⟩ := q
  have hl1 : l1.length ≤ 60000 := by have := pPlaces_less l ks l1 hq; omega
  go_enter Tryz.func93, Tryz.ntmps93
  go_wp2_with fail
  rw [HW.out]
  refine hC1.mono ?_
  intro e w1 hP
  obtain ⟨v1, rfl, hg1, hW1⟩ := hP.got hq
  have hx1 := hx0.grown hW1.grown (by simp only [ne_eq, oiQ]; omega)
  have hWW : Went R w w1 l1 := H0.trans hW1
  have hBW1 : B ≤ w1.heap.size := ntQ hBW hW1.grown.size
  have hC2 := ri64 R w1 l1 hWW.rdr
  have hfar : ∀ e, 131 ≠ e → Far w1 (some R) e := fun e he => RdL.far hWW.rdr he
  clear hC1 hP HW H0 hx0
  cases hq2 : pI64 l1 with
  | none =>
   have E : Hid (pFact l = none) := pFact_none2 hq hq2
   clear hW1 hfar hx1
   go_wp2_with (go_at_call 113; refine hC2.mono ?_; intro e w2 hP; obtain ⟨⟨m, rfl⟩, hgr⟩ := hP.miss hq2)
   exact ⟨rfl, PostX.none E.out (grown_trans hWW.grown hgr)⟩
  | some q2 =>
   obtain ⟨y, l2⟩ := q2
   have E : Hid (pFact l = some ((ks, y), l2)) := pFact_some hq hq2
   have HQ : Hid (pAll 1 (pInt 4) l = some (ks, l1) ∧ pI64 l1 = some (y, l2)) := ⟨hq, hq2⟩
   go_wp2_with (go_at_call 113; refine hC2.mono ?_; intro e w2 hP; obtain ⟨v2, rfl, hg2, hW2⟩ := hP.got hq2; refine Hid.out ?_)
   refine hid ?_
   have hx2 := hx1.grown hW2.grown (by simp only [ne_eq, oiQ]; omega)
   have hWW2 : Went R w w2 l2 := hWW.trans hW2
   have c0 := hx2.cell (j := 0) rfl
   have c1 := hx2.cell (j := 1) rfl
   have z0 := hx2.frz 0
   have z1 := hx2.frz 1
   subst hg2
   obtain ⟨ka, kcap, hkv⟩ : ∃ ka kcap, v1 = .slice ka ks.length kcap := by
    obtain ⟨a, cap, e, -⟩ := (own_out hg1.own).1
    exact ⟨a, cap, e⟩
   subst hkv
   have HO : Aside (NsOwn B w2 (.slice ka ks.length kcap) ks) := hg1.far hW2.grown (hfar _ (by decide))
   clear hg1
   have HH : Aside (∀ x1 x2, w2.grownBy ((w2.setCell ⟨w.heap.size, 0, none⟩ x1).setCell ⟨w.heap.size, 1, none⟩ x2) (some w.heap.size)) := fun x1 x2 => grown_trans (grown_at _ _ _ _) (grown_at _ _ _ _)
   have HX2 : Aside (Boxed w2 w.heap.size #[.slice none 0 0, .int .i64 0] 124) := hx2
   have HE : Aside (Went R w w2 l2) := hWW2
   clear hC2 hP hW1 hW2 hfar hx1 hWW hWW2 hx2 hq hq2
   go_wp2
   refine bodyPost_ret (v := .agg #[.slice ka ks.length kcap, .int .i64 y]) (by simp [results, Tryz.results93, go_sem, *]) rfl ?_
   refine PostX.some E.out ?_ (HE.out.row (HH.out _ _) (fun g hg => by injection hg with hg; omega) hRlt)
   refine ⟨⟨ka, kcap, ks, y⟩, rfl, rfl, ?_, HO.out.all, (pI64_lt HQ.out.2).1⟩
   exact own_far HO.out.own (HH.out _ _) (HX2.out.far (by decide))

theorem pSpan_none1 {l : List UInt8} (h : pInt 4 l = none) : pSpan l = none := by unfold pSpan; rw [h]; rfl
theorem pSpan_none2 {l l1 : List UInt8} {k : Int} (h : pInt 4 l = some (k, l1)) (h2 : pInt 1 l1 = none) : pSpan l = none := by unfold pSpan; rw [h]; simp [h2]
theorem pSpan_some {l l1 l2 : List UInt8} {k : Int} {v : Int} (h : pInt 4 l = some (k, l1)) (h2 : pInt 1 l1 = some (v, l2)) : pSpan l = some ((k, v), l2) := by unfold pSpan; rw [h]; simp [h2]
theorem pSpan_less : ∀ l y l', pSpan l = some (y, l') → l'.length + 1 ≤ l.length := fun l y l' h => by
 unfold pSpan at h
 obtain ⟨⟨k, l1⟩, h1, h2⟩ := Option.bind_eq_some_iff.1 h
 obtain ⟨⟨v, l2⟩, h3, h4⟩ := Option.map_eq_some_iff.1 h2
 simp only [Prod.mk.injEq] at h4
 obtain ⟨-, rfl⟩ := h4
 have e1 := (pInt_less (by omega)) l k l1 h1
 have e2 := (pInt_less (by omega)) l1 v l2 h3
 omega

theorem readSpan_any (R B : Nat) (hRB : R < B) : Reads R B 95 pSpan (fun y v _ => v = spV y ∧ I64 y.1 ∧ I64 y.2) := by
 intro w l hB hR hl
 have hb0 : Below w.heap.size w (w.alloc (.cells #[.int .i64 0, .int .i64 0] 109)) := by (repeat (first | with_reducible exact Below.refl _ _ | (with_reducible refine Below.drew ?_) | (with_reducible refine Below.alloc ?_ (by first | omega | (simp; done) | (simp; omega)) _) | (with_reducible refine Below.setCell ?_ (by first | exact nrQ _ | omega | (simp; done) | (simp; omega)) _)))
 have hx0 := Boxed.new w #[.int .i64 0, .int .i64 0] 109
 have hRlt := hR.lt
 have H0 : Went R w (w.alloc (.cells #[.int .i64 0, .int .i64 0] 109)) l := Went.start hR hb0
 generalize hW0 : w.alloc (.cells #[.int .i64 0, .int .i64 0] 109) = W0 at hb0 hx0 H0
 have hBW : B ≤ W0.heap.size := ntQ hB hb0.size
 have hC1 := rint R W0 l H0.rdr 4 (by omega) (by omega)
 have HW : Hid (w.alloc (.cells #[.int .i64 0, .int .i64 0] 109) = W0) := hW0
 clear hb0 hR hW0
 cases hq : pInt 4 l with
 | none =>
  have E : Hid (pSpan l = none) := pSpan_none1 hq
  go_enter Tryz.func95, Tryz.ntmps95
  go_wp2_with fail
  rw [HW.out]
  refine hC1.mono ?_
  intro e w1 hP
  obtain ⟨⟨m, rfl⟩, hgr⟩ := hP.miss hq
  exact ⟨rfl, PostX.none E.out (grown_trans H0.grown hgr)⟩
 | some q =>
  obtain ⟨ks, l1⟩ := q
  have hl1 : l1.length ≤ 60000 := by have := (pInt_less (by omega)) l ks l1 hq; omega
  go_enter Tryz.func95, Tryz.ntmps95
  go_wp2_with fail
  rw [HW.out]
  refine hC1.mono ?_
  intro e w1 hP
  obtain ⟨v1, rfl, hg1, hW1⟩ := hP.got hq
  have hx1 := hx0.grown hW1.grown (by simp only [ne_eq, oiQ]; omega)
  have hWW : Went R w w1 l1 := H0.trans hW1
  have hBW1 : B ≤ w1.heap.size := ntQ hBW hW1.grown.size
  have hC2 := readNode_any R B w1 l1 hBW1 hWW.rdr hl1
  have hfar : ∀ e, 131 ≠ e → Far w1 (some R) e := fun e he => RdL.far hWW.rdr he
  clear hC1 hP HW H0 hx0
  cases hq2 : pInt 1 l1 with
  | none =>
   have E : Hid (pSpan l = none) := pSpan_none2 hq hq2
   clear hW1 hfar hx1
   go_wp2_with (go_at_call 91; refine hC2.mono ?_; intro e w2 hP; obtain ⟨⟨m, rfl⟩, hgr⟩ := hP.miss hq2)
   exact ⟨rfl, PostX.none E.out (grown_trans hWW.grown hgr)⟩
  | some q2 =>
   obtain ⟨y, l2⟩ := q2
   have E : Hid (pSpan l = some ((ks, y), l2)) := pSpan_some hq hq2
   have HQ : Hid (pInt 4 l = some (ks, l1) ∧ pInt 1 l1 = some (y, l2)) := ⟨hq, hq2⟩
   go_wp2_with (go_at_call 91; refine hC2.mono ?_; intro e w2 hP; obtain ⟨v2, rfl, hg2, hW2⟩ := hP.got hq2; refine Hid.out ?_)
   refine hid ?_
   have hx2 := hx1.grown hW2.grown (by simp only [ne_eq, oiQ]; omega)
   have hWW2 : Went R w w2 l2 := hWW.trans hW2
   have c0 := hx2.cell (j := 0) rfl
   have c1 := hx2.cell (j := 1) rfl
   have z0 := hx2.frz 0
   have z1 := hx2.frz 1
   obtain ⟨hg2, hy64⟩ := hg2
   subst hg2
   subst hg1
   have HH : Aside (∀ x1 x2, w2.grownBy ((w2.setCell ⟨w.heap.size, 0, none⟩ x1).setCell ⟨w.heap.size, 1, none⟩ x2) (some w.heap.size)) := fun x1 x2 => grown_trans (grown_at _ _ _ _) (grown_at _ _ _ _)
   have HX2 : Aside (Boxed w2 w.heap.size #[.int .i64 0, .int .i64 0] 109) := hx2
   have HE : Aside (Went R w w2 l2) := hWW2
   clear hC2 hP hW1 hW2 hfar hx1 hWW hWW2 hx2 hq hq2
   go_wp2
   refine bodyPost_ret (v := .agg #[.int .i64 ks, .int .i64 y]) (by simp [results, Tryz.results95, go_sem, *]) rfl ?_
   refine PostX.some E.out ?_ (HE.out.row (HH.out _ _) (fun g hg => by injection hg with hg; omega) hRlt)
   refine ⟨rfl, ?_, hy64⟩
   have := pInt_lt HQ.out.1
   rw [pow4] at this
   unfold I64
   simp only
   omega

theorem pFacts_less : ∀ l y l', pAll 4 pFact l = some (y, l') → l'.length + 1 ≤ l.length := pAll_less pFact_less (by omega)
theorem fs_form {B : Nat} {W : World} {v : Value} {fs : List Ft} (h : FsOwn B W v fs) : ∃ a cap, v = .slice a fs.length cap := by
 rcases h.own.2 with ⟨h1, h2⟩ | ⟨g, cap, cur, h1, _⟩
 ·rw [h1, h2]; exact ⟨_, _, rfl⟩
 ·exact ⟨_, _, h1⟩

theorem pEnt_none1 {l : List UInt8} (h : pInt 4 l = none) : pEnt l = none := by unfold pEnt; rw [h]; rfl
theorem pEnt_none2 {l l1 : List UInt8} {k : Int} (h : pInt 4 l = some (k, l1)) (h2 : pAll 4 pFact l1 = none) : pEnt l = none := by unfold pEnt; rw [h]; simp [h2]
theorem pEnt_some {l l1 l2 : List UInt8} {k : Int} {v : List PFact} (h : pInt 4 l = some (k, l1)) (h2 : pAll 4 pFact l1 = some (v, l2)) : pEnt l = some ((k, v), l2) := by unfold pEnt; rw [h]; simp [h2]
theorem pEnt_less : ∀ l y l', pEnt l = some (y, l') → l'.length + 1 ≤ l.length := fun l y l' h => by
 unfold pEnt at h
 obtain ⟨⟨k, l1⟩, h1, h2⟩ := Option.bind_eq_some_iff.1 h
 obtain ⟨⟨v, l2⟩, h3, h4⟩ := Option.map_eq_some_iff.1 h2
 simp only [Prod.mk.injEq] at h4
 obtain ⟨-, rfl⟩ := h4
 have e1 := (pInt_less (by omega)) l k l1 h1
 have e2 := pFacts_less l1 v l2 h3
 omega

theorem readEntry_any (R B : Nat) (hRB : R < B) : Reads R B 98 pEnt (fun y v w' => ∃ f, v = etV f ∧ pe f = y ∧ EtOwn B w' f) := by
 intro w l hB hR hl
 have hb0 : Below w.heap.size w (w.alloc (.cells #[.int .u32 0, .slice none 0 0] 94)) := by (repeat (first | with_reducible exact Below.refl _ _ | (with_reducible refine Below.drew ?_) | (with_reducible refine Below.alloc ?_ (by first | omega | (simp; done) | (simp; omega)) _) | (with_reducible refine Below.setCell ?_ (by first | exact nrQ _ | omega | (simp; done) | (simp; omega)) _)))
 have hx0 := Boxed.new w #[.int .u32 0, .slice none 0 0] 94
 have hRlt := hR.lt
 have H0 : Went R w (w.alloc (.cells #[.int .u32 0, .slice none 0 0] 94)) l := Went.start hR hb0
 generalize hW0 : w.alloc (.cells #[.int .u32 0, .slice none 0 0] 94) = W0 at hb0 hx0 H0
 have hBW : B ≤ W0.heap.size := ntQ hB hb0.size
 have hC1 := ru32 R W0 l H0.rdr 4 (by omega) (by omega)
 have HW : Hid (w.alloc (.cells #[.int .u32 0, .slice none 0 0] 94) = W0) := hW0
 clear hb0 hR hW0
 cases hq : pInt 4 l with
 | none =>
  have E : Hid (pEnt l = none) := pEnt_none1 hq
  go_enter Tryz.func98, Tryz.ntmps98
  go_wp2_with fail
  rw [HW.out]
  refine hC1.mono ?_
  intro e w1 hP
  obtain ⟨⟨m, rfl⟩, hgr⟩ := hP.miss hq
  exact ⟨rfl, PostX.none E.out (grown_trans H0.grown hgr)⟩
 | some q =>
  obtain ⟨ks, l1⟩ := q
  have hl1 : l1.length ≤ 60000 := by have := (pInt_less (by omega)) l ks l1 hq; omega
  go_enter Tryz.func98, Tryz.ntmps98
  go_wp2_with fail
  rw [HW.out]
  refine hC1.mono ?_
  intro e w1 hP
  obtain ⟨v1, rfl, hg1, hW1⟩ := hP.got hq
  have hx1 := hx0.grown hW1.grown (by simp only [ne_eq, oiQ]; omega)
  have hWW : Went R w w1 l1 := H0.trans hW1
  have hBW1 : B ≤ w1.heap.size := ntQ hBW hW1.grown.size
  have hC2 := readAll_fact R B 93 pFact 4 (by omega) (by omega) (fun _ _ => rfl) (readFact_any R B hRB) pFact_less w1 l1 hBW1 hWW.rdr hl1
  have hfar : ∀ e, 131 ≠ e → Far w1 (some R) e := fun e he => RdL.far hWW.rdr he
  clear hC1 hP HW H0 hx0
  cases hq2 : pAll 4 pFact l1 with
  | none =>
   have E : Hid (pEnt l = none) := pEnt_none2 hq hq2
   clear hW1 hfar hx1
   go_wp2_with (go_at_call 92; refine hC2.mono ?_; intro e w2 hP; obtain ⟨⟨m, rfl⟩, hgr⟩ := hP.miss hq2)
   exact ⟨rfl, PostX.none E.out (grown_trans hWW.grown hgr)⟩
  | some q2 =>
   obtain ⟨y, l2⟩ := q2
   have E : Hid (pEnt l = some ((ks, y), l2)) := pEnt_some hq hq2
   have HQ : Hid (pInt 4 l = some (ks, l1) ∧ pAll 4 pFact l1 = some (y, l2)) := ⟨hq, hq2⟩
   go_wp2_with (go_at_call 92; refine hC2.mono ?_; intro e w2 hP; obtain ⟨v2, rfl, hg2, hW2⟩ := hP.got hq2; refine Hid.out ?_)
   refine hid ?_
   have hx2 := hx1.grown hW2.grown (by simp only [ne_eq, oiQ]; omega)
   have hWW2 : Went R w w2 l2 := hWW.trans hW2
   have c0 := hx2.cell (j := 0) rfl
   have c1 := hx2.cell (j := 1) rfl
   have z0 := hx2.frz 0
   have z1 := hx2.frz 1
   subst hg1
   obtain ⟨fs, hfs, hfo⟩ := hg2
   obtain ⟨ka, kcap, hkv⟩ := fs_form hfo
   subst hkv
   have HO : Aside (fs.map pf = y ∧ FsOwn B w2 (.slice ka fs.length kcap) fs) := ⟨hfs, hfo⟩
   clear hfs hfo
   have HH : Aside (∀ x1 x2, w2.grownBy ((w2.setCell ⟨w.heap.size, 0, none⟩ x1).setCell ⟨w.heap.size, 1, none⟩ x2) (some w.heap.size)) := fun x1 x2 => grown_trans (grown_at _ _ _ _) (grown_at _ _ _ _)
   have HX2 : Aside (Boxed w2 w.heap.size #[.int .u32 0, .slice none 0 0] 94) := hx2
   have HE : Aside (Went R w w2 l2) := hWW2
   clear hC2 hP hW1 hW2 hfar hx1 hWW hWW2 hx2 hq hq2
   go_wp2
   refine bodyPost_ret (v := .agg #[.int .u32 ks, .slice ka fs.length kcap]) (by simp [results, Tryz.results98, go_sem, *]) rfl ?_
   refine PostX.some E.out ?_ (HE.out.row (HH.out _ _) (fun g hg => by injection hg with hg; omega) hRlt)
   refine ⟨⟨ks, ka, kcap, fs⟩, rfl, ?_, HO.out.2.far (HH.out _ _) (HX2.out.far (by decide)) (HX2.out.far (by decide)), ?_⟩
   ·show (ks, fs.map pf) = (ks, y)
    rw [HO.out.1]
   ·have := pInt_lt HQ.out.1
    rw [pow4] at this
    unfold U32
    simp only
    omega

theorem pEnts_less : ∀ l y l', pAll 4 pEnt l = some (y, l') → l'.length + 1 ≤ l.length := pAll_less pEnt_less (by omega)
theorem pSpans_less : ∀ l y l', pAll 1 pSpan l = some (y, l') → l'.length + 1 ≤ l.length := pAll_less pSpan_less (by omega)
theorem pNodes_less : ∀ l y l', pAll 1 (pInt 1) l = some (y, l') → l'.length + 1 ≤ l.length := pAll_less (pInt_less (by omega)) (by omega)
end code
end Go.Proofs.YtlcjllgfpfldlaaGreat
