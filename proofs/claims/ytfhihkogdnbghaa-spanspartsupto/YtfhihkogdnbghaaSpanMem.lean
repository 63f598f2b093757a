/-
  Spans, numbers, facts and maps in memory; rows of spans that a call makes for itself.
-/
import Derived.Test.YtfhihkogdnbghaaByteKit
import Derived.Test.YtfhihkogdnbghaaSpanGive
namespace Go.Proofs.Ytfhihkogdnbghaa.spans
open Go.ChangeShapes Go.WideShapes Go.ChangeAt Go.RowKit Go.Deep Go.Joins
open Go.Proofs.Ytfhihkogdnbghaa.bytes (ret_bool hid nth addr_add cell_lt own_below own_mono)
set_option linter.unusedVariables false
set_option maxRecDepth 100000

def I64 (x : Int) : Prop := -9223372036854775808 ≤ x ∧ x ≤ 9223372036854775807
def U32 (x : Int) : Prop := 0 ≤ x ∧ x ≤ 4294967295
theorem nth_eq {l : List Int} {i : Nat} (h : i < l.length) : nth l i = l[i] := by simp [nth, h]
theorem nth_mem {l : List Int} {i : Nat} (h : i < l.length) : nth l i ∈ l := by simp [nth, h]
theorem ints_ext {l m : List Int} (h : l.length = m.length) (he : ∀ i, i < l.length → nth l i = nth m i) : l = m := by
  refine List.ext_getElem h fun i h1 h2 => ?_
  have := he i h1
  rwa [nth_eq h1, nth_eq h2] at this
theorem spans_ext {l m : List Sp} (h : l.length = m.length) (he : ∀ i, i < l.length → spn l i = spn m i) : l = m := by
  refine List.ext_getElem h fun i h1 h2 => ?_
  have := he i h1
  rwa [spn_eq h1, spn_eq h2] at this

/-! ### boxes -/
def Bx (w : World) (h : Nat) (cs : Array Value) (t : TypeId) : Prop := w.heap[h]? = some (.cells cs t (0, 0))
theorem Bx.new (w : World) (cs : Array Value) (t : TypeId) : Bx (w.alloc (.cells cs t)) w.heap.size cs t := heap_alloc_new w _
theorem Bx.cell {w : World} {h : Nat} {cs : Array Value} {t : TypeId} (hb : Bx w h cs t) {j : Nat} {x : Value} (hx : cs[j]? = some x) : w.cell? ⟨h, j, none⟩ = some x := by
  simp [World.cell?, show w.heap[h]? = _ from hb, hx]
theorem Bx.frz {w : World} {h : Nat} {cs : Array Value} {t : TypeId} (hb : Bx w h cs t) (j : Nat) : w.frozen? ⟨h, j, none⟩ = false := by
  simp [World.frozen?, show w.heap[h]? = _ from hb]
theorem Bx.lt {w : World} {h : Nat} {cs : Array Value} {t : TypeId} (hb : Bx w h cs t) : h < w.heap.size := (Array.getElem?_eq_some_iff.1 hb).1
theorem Bx.below {w w' : World} {h : Nat} {cs : Array Value} {t : TypeId} (hb : Bx w h cs t) (hg : Below w.heap.size w w') : Bx w' h cs t := (hg.block h hb.lt).trans hb
theorem Bx.grown {W W' : World} {row : Option Nat} {h : Nat} {cs : Array Value} {t : TypeId} (hb : Bx W h cs t) (hg : W.grownBy W' row) (hne : some h ≠ row) : Bx W' h cs t := (hg.block h hb.lt hne).trans hb

/-! ### numbers -/
def Ints (w : World) (a : Option Addr) (l : List Int) : Prop :=
  l = [] ∨ ∃ b off, a = some ⟨b, off, none⟩ ∧ ∀ i, i < l.length → w.cell? ⟨b, off + i, none⟩ = some (.int .i64 (nth l i))
theorem Ints.keep {w w1 : World} {a : Option Addr} {l : List Int} (h : Ints w a l) (hb : Below w.heap.size w w1) : Ints w1 a l := by
  rcases h with h | ⟨b, off, ha, hc⟩
  · exact .inl h
  · exact .inr ⟨b, off, ha, fun i hi => (hb.cell (p := ⟨b, off + i, none⟩) (cell_lt (hc i hi))).trans (hc i hi)⟩
theorem Ints.get {w : World} {a : Option Addr} {l : List Int} (h : Ints w a l) {k : Nat} (hk : k < l.length) : ∃ b off, a = some ⟨b, off, none⟩ ∧ ∀ i, i < l.length → w.cell? ⟨b, off + i, none⟩ = some (.int .i64 (nth l i)) := by
  rcases h with rfl | h
  · simp at hk
  · exact h
def vals (l : List Int) : List Value := l.map (Value.int .i64)
theorem vals_len (l : List Int) : (vals l).length = l.length := by simp [vals]
theorem vals_get {l : List Int} {j : Nat} (h : j < l.length) : (vals l)[j]? = some (.int .i64 (nth l j)) := by simp [vals, nth, h]
theorem vals_one (l : List Int) : ∀ u ∈ vals l, u.oneCell' = true := by
  intro u hu
  obtain ⟨x, _, rfl⟩ := List.mem_map.1 hu
  rfl
theorem info_int : (Try.prog.info? 3).map (fun i => (i.zero, i.size, i.bytes)) = some (some (.int .i64 0), 1, 8) := by kernel_rfl
theorem info_span : (Try.prog.info? 38).map (fun i => (i.zero, i.size, i.bytes)) = some (some (.agg #[.int .i64 0, .int .i64 0]), 2, 16) := by kernel_rfl
theorem info_fact : (Try.prog.info? 56).map (fun i => (i.zero, i.size, i.bytes)) = some (some (.agg #[.slice none 0 0, .int .i64 0]), 2, 32) := by kernel_rfl
/-- a row of numbers of a call's own, as a slice that can be read -/
theorem ints_out {w : World} {B : Nat} {v : Value} {l : List Int} (h : w.ownsRow B 3 1 v l.length (vals l)) : ∃ a c, v = .slice a l.length c ∧ Ints w a l ∧ l.length ≤ c := by
  rcases h.2 with ⟨hv, h0⟩ | ⟨g, cap, cur, hv, _, _, hc, _⟩
  · have : l = [] := List.eq_nil_of_length_eq_zero h0
    subst this
    exact ⟨none, 0, hv, .inl rfl, Nat.le_refl _⟩
  · refine ⟨_, cap, hv, .inr ⟨g, 0, rfl, fun i hi => ?_⟩, hc⟩
    rw [hv] at h
    have := World.ownsRow.cellAt h i (by omega)
    rw [vals_get hi] at this
    simpa using this

/-! ### spans -/
def spC (s : Sp) : Array Value := #[.int .i64 s.1, .int .i64 s.2]
def spV (s : Sp) : Value := .agg #[.int .i64 s.1, .int .i64 s.2]
def SpansIn (w : World) (a : Option Addr) (ss : List Sp) : Prop :=
  ss = [] ∨ ∃ b off, a = some ⟨b, off, none⟩ ∧ ∀ i, i < ss.length → w.cell? ⟨b, off + i * 2, none⟩ = some (.int .i64 (spn ss i).1) ∧ w.cell? ⟨b, off + i * 2 + 1, none⟩ = some (.int .i64 (spn ss i).2) ∧ I64 (spn ss i).1 ∧ I64 (spn ss i).2
theorem SpansIn.keep {w w1 : World} {a : Option Addr} {ss : List Sp} (h : SpansIn w a ss) (hb : Below w.heap.size w w1) : SpansIn w1 a ss := by
  rcases h with h | ⟨b, off, ha, hc⟩
  · exact .inl h
  · refine .inr ⟨b, off, ha, fun i hi => ?_⟩
    obtain ⟨h1, h2, h3⟩ := hc i hi
    exact ⟨(hb.cell (p := ⟨b, off + i * 2, none⟩) (cell_lt h1)).trans h1, (hb.cell (p := ⟨b, off + i * 2 + 1, none⟩) (cell_lt h2)).trans h2, h3⟩
theorem SpansIn.get {w : World} {a : Option Addr} {ss : List Sp} (h : SpansIn w a ss) {k : Nat} (hk : k < ss.length) : ∃ b off, a = some ⟨b, off, none⟩ ∧ ∀ i, i < ss.length → w.cell? ⟨b, off + i * 2, none⟩ = some (.int .i64 (spn ss i).1) ∧ w.cell? ⟨b, off + i * 2 + 1, none⟩ = some (.int .i64 (spn ss i).2) ∧ I64 (spn ss i).1 ∧ I64 (spn ss i).2 := by
  rcases h with rfl | h
  · simp at hk
  · exact h
theorem SpansIn.typed {w : World} {a : Option Addr} {ss : List Sp} (h : SpansIn w a ss) : ∀ s ∈ ss, I64 s.1 ∧ I64 s.2 := fun s hs => by
  obtain ⟨i, hi, rfl⟩ := List.mem_iff_getElem.1 hs
  obtain ⟨b, off, -, hc⟩ := h.get hi
  rw [← spn_eq hi]; exact (hc i hi).2.2
theorem SpansIn.low {w : World} {a : Option Addr} {ss : List Sp} (h : SpansIn w a ss) (h0 : ss ≠ []) : ∀ p, a = some p → p.block < w.heap.size := fun p hp => by
  rcases h with h | ⟨b, off, ha, hc⟩
  · exact absurd h h0
  · rw [ha] at hp; injection hp with hp; subst hp
    exact cell_lt (hc 0 (by cases ss with | nil => exact absurd rfl h0 | cons x r => simp)).1
/-- spans that can be read, and lie below what is new -/
structure Sps (w : World) (a : Option Addr) (n c : Nat) (l : List Sp) : Prop where
  mem : SpansIn w a l
  len : l.length = n
  cap : n ≤ c
  big : c ≤ 9223372036854775807
theorem Sps.keep {w w1 : World} {a : Option Addr} {n c : Nat} {l : List Sp} (h : Sps w a n c l) (hb : Below w.heap.size w w1) : Sps w1 a n c l := ⟨h.mem.keep hb, h.len, h.cap, h.big⟩
def flatS (l : List Sp) : List Value := l.flatMap fun s => [.int .i64 s.1, .int .i64 s.2]
theorem flatS_app (l m : List Sp) : flatS (l ++ m) = flatS l ++ flatS m := by simp [flatS]
theorem flatS_len (l : List Sp) : (flatS l).length = l.length * 2 := by
  induction l with
  | nil => rfl
  | cons s r ih =>
    have : flatS (s :: r) = [.int .i64 s.1, .int .i64 s.2] ++ flatS r := rfl
    rw [this, List.length_append, ih, List.length_cons]; simp; omega
theorem flatS_get : ∀ (l : List Sp) (i : Nat), i < l.length → (flatS l)[i * 2]? = some (.int .i64 (spn l i).1) ∧ (flatS l)[i * 2 + 1]? = some (.int .i64 (spn l i).2)
  | [], i, h => by simp at h
  | s :: r, 0, _ => ⟨rfl, rfl⟩
  | s :: r, i + 1, h => by
    have ih := flatS_get r i (by simpa using h)
    have e : flatS (s :: r) = .int .i64 s.1 :: .int .i64 s.2 :: flatS r := rfl
    rw [show (i + 1) * 2 = i * 2 + 1 + 1 by omega, e]
    exact ih
theorem flatS_one (l : List Sp) : ∀ u ∈ flatS l, u.oneCell' = true := by
  intro u hu
  obtain ⟨s, _, hs⟩ := List.mem_flatMap.1 hu
  simp at hs
  rcases hs with rfl | rfl <;> rfl
/-- spans of a call's own -/
def So (B : Nat) (w : World) (v : Value) (l : List Sp) : Prop := w.ownsRow B 38 2 v l.length (flatS l)
theorem So.nil (B : Nat) (w : World) : So B w (.slice none 0 0) [] := World.ownsRow_nil _ _ _ _
theorem So.keep {B : Nat} {w w' : World} {v : Value} {l : List Sp} (h : So B w v l) (hb : Below w.heap.size w w') : So B w' v l := own_below h hb
theorem So.mono {B B' : Nat} {w : World} {v : Value} {l : List Sp} (h : So B w v l) (hb : B' ≤ B) : So B' w v l := own_mono h hb
theorem So.out {B : Nat} {w : World} {v : Value} {l : List Sp} (h : So B w v l) (ht : ∀ s ∈ l, I64 s.1 ∧ I64 s.2) : ∃ a c, v = .slice a l.length c ∧ Sps w a l.length c l := by
  rcases h.2 with ⟨hv, h0⟩ | ⟨g, cap, cur, hv, _, hgb, hc, hcm, _⟩
  · have : l = [] := List.eq_nil_of_length_eq_zero h0
    subst this
    exact ⟨none, 0, hv, .inl rfl, rfl, Nat.le_refl _, by omega⟩
  · refine ⟨_, cap, hv, .inr ⟨g, 0, rfl, fun i hi => ?_⟩, rfl, hc, by have := hcm; unfold maxLen at this; omega⟩
    have hx := World.ownsRow.cells h (g := g) (by rw [hv]; rfl)
    obtain ⟨e1, e2⟩ := flatS_get l i hi
    have h1 := hx (i * 2) _ e1
    have h2 := hx (i * 2 + 1) _ e2
    rw [addr_add] at h1 h2
    exact ⟨h1, by rw [show 0 + i * 2 + 1 = 0 + (i * 2 + 1) by omega]; exact h2, ht _ (spn_mem hi)⟩

/-! ### maps -/
def mapV (ep : Int) (a : Option Addr) (n c : Nat) : Value := .agg #[.int .u32 ep, .slice a n c]
def mapC (ep : Int) (a : Option Addr) (n c : Nat) : Array Value := #[.int .u32 ep, .slice a n c]

/-! ### facts -/
structure Ft where
  a : Option Addr
  cap : Nat
  k : List Int
  v : Int
def ftn (fs : List Ft) (i : Nat) : Ft := fs.getD i ⟨none, 0, [], 0⟩
theorem ftn_mem {fs : List Ft} {i : Nat} (h : i < fs.length) : ftn fs i ∈ fs := by simp [ftn, h]
theorem ftn_eq {fs : List Ft} {i : Nat} (h : i < fs.length) : ftn fs i = fs[i] := by simp [ftn, h]
theorem take_ftn (l : List Ft) (k : Nat) (h : k < l.length) : l.take (k + 1) = l.take k ++ [ftn l k] := by rw [List.take_succ_eq_append_getElem h, ftn_eq h]
def pf (f : Ft) : List Int × Int := (f.k, f.v)
def ftV (f : Ft) : Value := .agg #[.slice f.a f.k.length f.cap, .int .i64 f.v]
def ftC (f : Ft) : Array Value := #[.slice f.a f.k.length f.cap, .int .i64 f.v]
structure FtOk (w : World) (f : Ft) : Prop where
  mem : Ints w f.a f.k
  len : f.k.length * 8 ≤ 140737488355328
  cap : f.k.length ≤ f.cap
theorem FtOk.keep {w w1 : World} {f : Ft} (h : FtOk w f) (hb : Below w.heap.size w w1) : FtOk w1 f := ⟨h.mem.keep hb, h.len, h.cap⟩
def FactsIn (w : World) (a : Option Addr) (fs : List Ft) : Prop :=
  fs = [] ∨ ∃ b off, a = some ⟨b, off, none⟩ ∧ ∀ i, i < fs.length → w.cell? ⟨b, off + i * 2, none⟩ = some (.slice (ftn fs i).a (ftn fs i).k.length (ftn fs i).cap) ∧ w.cell? ⟨b, off + i * 2 + 1, none⟩ = some (.int .i64 (ftn fs i).v) ∧ FtOk w (ftn fs i)
theorem FactsIn.keep {w w1 : World} {a : Option Addr} {fs : List Ft} (h : FactsIn w a fs) (hb : Below w.heap.size w w1) : FactsIn w1 a fs := by
  rcases h with h | ⟨b, off, ha, hc⟩
  · exact .inl h
  · refine .inr ⟨b, off, ha, fun i hi => ?_⟩
    obtain ⟨h1, h2, h3⟩ := hc i hi
    exact ⟨(hb.cell (p := ⟨b, off + i * 2, none⟩) (cell_lt h1)).trans h1, (hb.cell (p := ⟨b, off + i * 2 + 1, none⟩) (cell_lt h2)).trans h2, h3.keep hb⟩
theorem FactsIn.get {w : World} {a : Option Addr} {fs : List Ft} (h : FactsIn w a fs) {k : Nat} (hk : k < fs.length) : ∃ b off, a = some ⟨b, off, none⟩ ∧ ∀ i, i < fs.length → w.cell? ⟨b, off + i * 2, none⟩ = some (.slice (ftn fs i).a (ftn fs i).k.length (ftn fs i).cap) ∧ w.cell? ⟨b, off + i * 2 + 1, none⟩ = some (.int .i64 (ftn fs i).v) ∧ FtOk w (ftn fs i) := by
  rcases h with rfl | h
  · simp at hk
  · exact h
/-- a fact's first place -/
def key0 (f : Ft) : Int := nth f.k 0
/-- the facts whose first place a node holds -/
def inPart (l : List Sp) (node : Int) (f : Ft) : Bool := decide (0 < f.k.length) && decide (find l (key0 f) = node)
def partsOf (l : List Sp) (fs : List Ft) (node : Int) : List Ft := fs.filter (inPart l node)

end Go.Proofs.Ytfhihkogdnbghaa.spans
