/-
 Bytes in memory: what can be read at an address, bytes of a call's own, lists of bytes, boxes; what came in.
 Slices of bytes at hand: their fronts and backs, made ones, those of a text; bytes in a row of the call's own, of which bytes are set; bytes that are combined.
-/
import Derived.Test.YtlcjllgfpfldlaaGreatRows
import Derived.WalkKit
import Derived.ProofKit
import Derived.OpenShut
import Derived.Below
import Derived.Outline
import Derived.WalkSpells
import Derived.WalkLawsBesides
import Derived.RegionTactic
import Derived.BigRegion
import Derived.BigQuiet
import Derived.Deep.LoopGhost
import Derived.Deep.DeepCutAuto
import Derived.Deep.RegionWith
import Derived.Deep.RegionHeld3
import Derived.Deep.RegionHeldLaw
import Derived.Deep.OwnRows
import Derived.Deep.AppendLies
import Derived.Deep.CutRange
import Derived.Deep.Slices
import Derived.Deep.Fields
import Derived.Laws.OwnMore
import Derived.Laws.AppendOwnNone
import Derived.Laws.IdiomStrings
import Derived.Laws.Bits64b
import Derived.OwnWalk
import Derived.Lib.SmallJoins
import Derived.ChangeOld
set_option linter.unusedVariables false
set_option maxRecDepth 100000
namespace Go.Proofs.YtlcjllgfpfldlaaGreat
namespace bytes
open Go.ChangeShapes Go.WideShapes Go.ChangeAt Go.RowKit Go.Deep Go.Joins
theorem ret_u32 {a b : Int} (h : a = b) : Ending.returned (.int .u32 a) = .returned (.int .u32 b) := by rw [h]
theorem hid {p : Prop} (h : p) : Hid p := h
def nth (l : List Int) (i : Nat) : Int := l.getD i 0
theorem addr_add (b off i : Nat) : (⟨b, off, none⟩ : Addr).add i = ⟨b, off + i, none⟩ := by by_cases e : i = 0 <;> simp [Addr.add, e]
theorem cell_lt {W : World} {c o : Nat} {v : Value} (h : W.cell? ⟨c, o, none⟩ = some v) : c < W.heap.size := by
 by_cases hc : c < W.heap.size
 ·exact hc
 ·exfalso
  have : W.heap[c]? = none := Array.getElem?_eq_none (by omega)
  simp [World.cell?, this] at h
theorem own_below {w w' : World} {base : Nat} {e : TypeId} {size : Nat} {v : Value} {n : Nat} {xs : List Value} (h : w.ownsRow base e size v n xs) (hb : Below w.heap.size w w') : w'.ownsRow base e size v n xs := by
 have hl := h.lt
 refine ⟨h.1, ?_⟩
 rcases h.2 with h0 | ⟨g, cap, cur, hv, a, hg, r⟩
 ·exact .inl h0
 ·refine .inr ⟨g, cap, cur, hv, a, ?_, r⟩
  rw [hb.block g (hl g (by rw [hv]; rfl)).2]; exact hg
theorem own_mono {w : World} {base base' : Nat} {e : TypeId} {size : Nat} {v : Value} {n : Nat} {xs : List Value} (h : w.ownsRow base e size v n xs) (hb : base' ≤ base) : w.ownsRow base' e size v n xs := by
 refine ⟨h.1, ?_⟩
 rcases h.2 with h0 | ⟨g, cap, cur, hv, a, r⟩
 ·exact .inl h0
 ·exact .inr ⟨g, cap, cur, hv, Nat.le_trans hb a, r⟩

/-! ### bytes -/
def bth (l : List UInt8) (i : Nat) : Int := ((l.getD i 0).toNat : Int)
theorem bth_drop (l : List UInt8) (k i : Nat) : bth (l.drop k) i = bth l (k + i) := by simp [bth]
theorem bth_take {l : List UInt8} {k i : Nat} (h : i < k) : bth (l.take k) i = bth l i := by simp [bth, h]
def ByIn (w : World) (a : Option Addr) (l : List UInt8) : Prop :=
 l = [] ∨ ∃ b off, a = some ⟨b, off, none⟩ ∧ ∀ i, i < l.length → w.cell? ⟨b, off + i, none⟩ = some (.int .u8 (bth l i))
theorem ByIn.keep {w w1 : World} {a : Option Addr} {l : List UInt8} (h : ByIn w a l) (hb : Below w.heap.size w w1) : ByIn w1 a l := by
 rcases h with h | ⟨b, off, ha, hc⟩
 ·exact .inl h
 ·exact .inr ⟨b, off, ha, fun i hi => (hb.cell (p := ⟨b, off + i, none⟩) (cell_lt (hc i hi))).trans (hc i hi)⟩
theorem ByIn.get {w : World} {a : Option Addr} {l : List UInt8} (h : ByIn w a l) (hk : 0 < l.length) : ∃ b off, a = some ⟨b, off, none⟩ ∧ ∀ i, i < l.length → w.cell? ⟨b, off + i, none⟩ = some (.int .u8 (bth l i)) := by
 rcases h with rfl | h
 ·simp at hk
 ·exact h
structure BytesAt (w : World) (a : Option Addr) (n c : Nat) (l : List UInt8) : Prop where
 mem : ByIn w a l
 low : l ≠ [] → ∀ p, a = some p → p.block < w.heap.size
 len : l.length = n
 cap : n ≤ c
theorem BytesAt.keep {w w1 : World} {a : Option Addr} {n c : Nat} {l : List UInt8} (h : BytesAt w a n c l) (hb : Below w.heap.size w w1) : BytesAt w1 a n c l := ⟨h.mem.keep hb, fun h0 p hp => Nat.lt_of_lt_of_le (h.low h0 p hp) hb.size, h.len, h.cap⟩
theorem BytesAt.nil (w : World) : BytesAt w none 0 0 [] := ⟨.inl rfl, (fun h => absurd rfl h), rfl, Nat.le_refl _⟩
def Bs (B : Nat) (w : World) (v : Value) (l : List UInt8) : Prop := w.ownsRow B 5 1 v l.length (Lib.byteCells l)
theorem Bs.keep {B : Nat} {w w' : World} {v : Value} {l : List UInt8} (h : Bs B w v l) (hb : Below w.heap.size w w') : Bs B w' v l := own_below h hb
theorem Bs.bytes {B : Nat} {w : World} {v : Value} {l : List UInt8} (h : Bs B w v l) : ∃ a c, v = .slice a l.length c ∧ BytesAt w a l.length c l := by
 rcases h.2 with ⟨h1, h2⟩ | ⟨g, cap, cur, h1, _, hg, hc, _⟩
 ·have : l = [] := List.eq_nil_of_length_eq_zero h2
  subst this
  exact ⟨none, 0, h1, .inl rfl, (fun _ p hp => by cases hp), rfl, by simp⟩
 ·refine ⟨some ⟨g, 0, none⟩, cap, h1, .inr ⟨g, 0, rfl, fun i hi => ?_⟩, fun _ p hp => ?_, rfl, hc⟩
  ·have := World.ownsRow.cells h (g := g) (by rw [h1]; rfl) i (.int .u8 (bth l i)) (by simp [Lib.byteCells, bth, hi])
   rw [addr_add] at this
   exact this
  ·injection hp with hp
   subst hp
   exact (Array.getElem?_eq_some_iff.1 hg).1
theorem info_u8 : (Tryz.prog.info? 5).map (fun i => (i.zero, i.size, i.bytes)) = some (some (.int .u8 0), 1, 1) := by kernel_rfl
theorem str_of {w : World} {a : Option Addr} {l : List UInt8} (h : ByIn w a l) (n c : Nat) (hn : l.length = n) : (convert 54 9 (.slice a n c)).run Tryz.prog w = .ok (.string ⟨l.toArray⟩) w := by
 subst hn
 rcases h with rfl | ⟨b, off, rfl, hc⟩
 ·show (convert 54 9 (.slice a 0 c)).run Tryz.prog w = _
  rw [run_convert_bytes_string w 54 9 5 a 0 c Tryz.underlying54 Tryz.underlying5 Tryz.underlying9]
  cases a <;> rfl
 ·refine run_convert_bytes_back (P := Tryz.prog) w 54 9 5 ⟨b, off, none⟩ c l Tryz.underlying54 Tryz.underlying5 Tryz.underlying9 fun j hj => ?_
  rw [addr_add, hc j hj]
  simp [bth, hj]

/-! ### boxes -/
def Boxed (w : World) (h : Nat) (cs : Array Value) (t : TypeId) : Prop := w.heap[h]? = some (.cells cs t (0, 0))
theorem Boxed.new (w : World) (cs : Array Value) (t : TypeId) : Boxed (w.alloc (.cells cs t)) w.heap.size cs t := heap_alloc_new w _
theorem Boxed.cell {w : World} {h : Nat} {cs : Array Value} {t : TypeId} (hb : Boxed w h cs t) {j : Nat} {x : Value} (hx : cs[j]? = some x) : w.cell? ⟨h, j, none⟩ = some x := by
 simp [World.cell?, show w.heap[h]? = _ from hb, hx]
theorem Boxed.frz {w : World} {h : Nat} {cs : Array Value} {t : TypeId} (hb : Boxed w h cs t) (j : Nat) : w.frozen? ⟨h, j, none⟩ = false := by
 simp [World.frozen?, show w.heap[h]? = _ from hb]
theorem Boxed.lt {w : World} {h : Nat} {cs : Array Value} {t : TypeId} (hb : Boxed w h cs t) : h < w.heap.size := (Array.getElem?_eq_some_iff.1 hb).1
theorem Boxed.below {w w' : World} {h : Nat} {cs : Array Value} {t : TypeId} (hb : Boxed w h cs t) (hg : Below w.heap.size w w') : Boxed w' h cs t := (hg.block h hb.lt).trans hb

/-! ### lists of bytes -/
structure Lr where
 a : Option Addr
 cap : Nat
 l : List UInt8
def ln (ls : List Lr) (i : Nat) : Lr := ls.getD i ⟨none, 0, []⟩
theorem ln_eq {ls : List Lr} {i : Nat} (h : i < ls.length) : ln ls i = ls[i] := by simp [ln, h]
def ListsIn (W : World) (a : Option Addr) (ls : List Lr) : Prop :=
 ls = [] ∨ ∃ b off, a = some ⟨b, off, none⟩ ∧ ∀ i, i < ls.length → W.cell? ⟨b, off + i, none⟩ = some (.slice (ln ls i).a (ln ls i).l.length (ln ls i).cap) ∧ ByIn W (ln ls i).a (ln ls i).l
theorem ListsIn.keep {w w1 : World} {a : Option Addr} {ls : List Lr} (h : ListsIn w a ls) (hb : Below w.heap.size w w1) : ListsIn w1 a ls := by
 rcases h with h | ⟨b, off, ha, hc⟩
 ·exact .inl h
 ·exact .inr ⟨b, off, ha, fun i hi => ⟨(hb.cell (p := ⟨b, off + i, none⟩) (cell_lt (hc i hi).1)).trans (hc i hi).1, (hc i hi).2.keep hb⟩⟩
theorem ListsIn.get {w : World} {a : Option Addr} {ls : List Lr} (h : ListsIn w a ls) {j : Nat} (hj : j < ls.length) : ∃ b off, a = some ⟨b, off, none⟩ ∧ ∀ i, i < ls.length → w.cell? ⟨b, off + i, none⟩ = some (.slice (ln ls i).a (ln ls i).l.length (ln ls i).cap) ∧ ByIn w (ln ls i).a (ln ls i).l := by
 rcases h with rfl | h
 ·simp at hj
 ·exact h

/-! ### what came in -/
structure Nums (k : IntKind) (W : World) (a : Option Addr) (len cap : Nat) (l : List Int) : Prop where
 mem : l = [] ∨ ∃ b off, a = some ⟨b, off, none⟩ ∧ ∀ i, i < l.length → W.cell? ⟨b, off + i, none⟩ = some (.int k (nth l i))
 eln : l.length = len
 lec : len ≤ cap
 max : cap ≤ maxLen
 wf : ∀ i, i < l.length → (Lit.int k (nth l i)).wf = true
end bytes
namespace bytes
open Go.ChangeShapes Go.WideShapes Go.ChangeAt Go.RowKit Go.Deep
structure Sl (w : World) (a : Option Addr) (n c : Nat) (l : List UInt8) : Prop where
 at_ : BytesAt w a n c l
 max : n ≤ 9223372036854775807
theorem Sl.keep {w w1 : World} {a : Option Addr} {n c : Nat} {l : List UInt8} (h : Sl w a n c l) (hb : Below w.heap.size w w1) : Sl w1 a n c l := ⟨h.at_.keep hb, h.max⟩
theorem Sl.nil (w : World) : Sl w none 0 0 [] := ⟨BytesAt.nil w, by omega⟩
theorem cell_marked (w : World) (C : Array Value) (e : TypeId) (fr : Nat × Nat) {j : Nat} {x : Value} (h : C[j]? = some x) : (w.alloc (.cells C e fr)).cell? ⟨w.heap.size, j, none⟩ = some x := by
 have := heap_alloc_new w (.cells C e fr)
 simp only [World.cell?]
 rw [this]
 exact h

theorem Sl.front {w : World} {a : Option Addr} {n c : Nat} {l : List UInt8} (h : Sl w a n c l) (k : Nat) (hk : k ≤ n) : Sl w a k c (l.take k) := by
 refine ⟨⟨?_, fun h0 => h.at_.low (by rintro rfl; simp at h0), by rw [List.length_take, h.at_.len]; omega, by have := h.at_.cap; omega⟩, by have := h.max; omega⟩
 rcases h.at_.mem with h0 | ⟨b, off, ha, hc⟩
 ·subst h0; exact .inl (by simp)
 ·refine .inr ⟨b, off, ha, fun i hi => ?_⟩
  rw [List.length_take] at hi
  rw [bth_take (by omega)]
  exact hc i (by omega)
def shift (a : Option Addr) (c k : Nat) : Option Addr := if c = k then a else a.map fun x => x.add k
theorem Sl.back {w : World} {a : Option Addr} {n c : Nat} {l : List UInt8} (h : Sl w a n c l) (k : Nat) (hk : k ≤ n) : Sl w (shift a c k) (n - k) (c - k) (l.drop k) := by
 have hl := h.at_.len
 refine ⟨⟨?_, fun h0 p hp => ?_, by rw [List.length_drop, hl], by have := h.at_.cap; omega⟩, by have := h.max; omega⟩
 ·rcases h.at_.mem with h0 | ⟨b, off, ha, hc⟩
  ·subst h0; exact .inl (by simp)
  ·unfold shift
   by_cases e : c = k
   ·have := h.at_.cap
    exact .inl (List.drop_eq_nil_iff.2 (by omega))
   ·rw [if_neg e, ha]
    refine .inr ⟨b, off + k, by simp [addr_add], fun i hi => ?_⟩
    rw [List.length_drop] at hi
    rw [bth_drop, Nat.add_assoc]
    exact hc (k + i) (by omega)
 ·have hl0 : l ≠ [] := by rintro rfl; simp at h0
  unfold shift at hp
  split at hp
  ·exact h.at_.low hl0 p hp
  ·rcases a with _ | x
   ·cases hp
   ·simp only [Option.map_some, Option.some.injEq] at hp
    subst hp
    have := h.at_.low hl0 x rfl
    have e : (x.add k).block = x.block := by unfold Addr.add; split <;> rfl
    rw [e]; exact this

def Own8 (B : Nat) (w : World) (g n cap : Nat) (l : List UInt8) : Prop := w.ownsRow B 5 1 (.slice (some ⟨g, 0, none⟩) n cap) n (Lib.byteCells l)
theorem Own8.len {B : Nat} {w : World} {g n cap : Nat} {l : List UInt8} (h : Own8 B w g n cap l) : l.length = n := by
 have := h.1
 simpa [Lib.byteCells] using this
theorem Own8.keep {B : Nat} {w w' : World} {g n cap : Nat} {l : List UInt8} (h : Own8 B w g n cap l) (hb : Below w.heap.size w w') : Own8 B w' g n cap l := own_below h hb
theorem Own8.cell {B : Nat} {w : World} {g n cap : Nat} {l : List UInt8} (h : Own8 B w g n cap l) (j : Nat) (hj : j < n) : w.cell? ⟨g, j, none⟩ = some (.int .u8 (bth l j)) := by
 have := World.ownsRow.cellAt h j (by omega)
 rw [this]
 have hl := h.len
 simp [Lib.byteCells, bth, hl, hj]
theorem Own8.frz {B : Nat} {w : World} {g n cap : Nat} {l : List UInt8} (h : Own8 B w g n cap l) (j : Nat) : w.frozen? ⟨g, j, none⟩ = false := World.ownsRow.frozenAt h j
theorem byteCells_set (l : List UInt8) (k : Nat) (y : UInt8) : (Lib.byteCells l).set k (.int .u8 (y.toNat : Int)) = Lib.byteCells (l.set k y) := by
 simp [Lib.byteCells, List.map_set]
theorem Own8.store {B : Nat} {w : World} {g n cap : Nat} {l : List UInt8} (h : Own8 B w g n cap l) (k : Nat) (y : UInt8) : Own8 B (w.setCell ⟨g, k, none⟩ (.int .u8 (y.toNat : Int))) g n cap (l.set k y) := by
 have := World.ownsRow.stored h k (.int .u8 (y.toNat : Int))
 unfold Own8
 rw [← byteCells_set]
 exact this.1
theorem Own8.lt {B : Nat} {w : World} {g n cap : Nat} {l : List UInt8} (h : Own8 B w g n cap l) : B ≤ g ∧ g < w.heap.size := World.ownsRow.lt h g rfl
theorem Own8.sl {B : Nat} {w : World} {g n cap : Nat} {l : List UInt8} (h : Own8 B w g n cap l) (hm : n ≤ 9223372036854775807) : Sl w (some ⟨g, 0, none⟩) n cap l := by
 have hl := h.len
 refine ⟨⟨.inr ⟨g, 0, rfl, fun i hi => by rw [Nat.zero_add]; exact h.cell i (by omega)⟩, fun _ p hp => by injection hp with hp; subst hp; exact h.lt.2, hl, ?_⟩, hm⟩
 rcases h.2 with ⟨h1, h2⟩ | ⟨g', cap', cur, h1, _, _, hc, _⟩
 ·cases h1
 ·injection h1 with e1 e2 e3
  omega
theorem Sl.news {w : World} {a : Option Addr} {n c : Nat} {l : List UInt8} (h : Sl w a n c l) (hn : 0 < n) : ∃ b off, a = some ⟨b, off, none⟩ ∧ ∀ j u, (Lib.byteCells l)[j]? = some u → w.cell? ((⟨b, off, none⟩ : Addr).add j) = some u := by
 obtain ⟨b, off, ha, hc⟩ := h.at_.mem.get (by rw [h.at_.len]; exact hn)
 refine ⟨b, off, ha, fun j u hj => ?_⟩
 rw [addr_add]
 simp only [Lib.byteCells, List.getElem?_map, Option.map_eq_some_iff] at hj
 obtain ⟨y, hy, rfl⟩ := hj
 have hjl := (List.getElem?_eq_some_iff.1 hy)
 obtain ⟨hjl, e⟩ := hjl
 rw [hc j hjl]
 simp [bth, hjl, e]
theorem byteCells_one (l : List UInt8) : ∀ u ∈ Lib.byteCells l, u.oneCell' = true := fun u hu => by
 simp only [Lib.byteCells, List.mem_map] at hu
 obtain ⟨y, -, rfl⟩ := hu
 rfl
end bytes
end Go.Proofs.YtlcjllgfpfldlaaGreat
