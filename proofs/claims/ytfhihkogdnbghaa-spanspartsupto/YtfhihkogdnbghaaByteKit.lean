/-
  Bytes in memory: what can be read at an address, bytes of a call's own, lists of bytes, boxes; what came in.
-/
import Derived.Test.YtfhihkogdnbghaaRows
import Derived.WalkKit
import Derived.ProofKit
import Derived.OpenShut
import Derived.Below
import Derived.Outline
import Derived.WalkSpells
import Derived.WalkLawsBesides
import Derived.RegionTactic
import Derived.BigRegion
import Derived.BigQuiet
import Derived.Deep.LoopGhost
import Derived.Deep.DeepCutAuto
import Derived.Deep.RegionWith
import Derived.Deep.RegionHeld3
import Derived.Deep.RegionHeldLaw
import Derived.Deep.OwnRows
import Derived.Deep.AppendLies
import Derived.Deep.CutRange
import Derived.Deep.Slices
import Derived.Deep.Fields
import Derived.Laws.OwnMore
import Derived.Laws.AppendOwnNone
import Derived.Laws.IdiomStrings
import Derived.Laws.Bits64b
import Derived.OwnWalk
import Derived.Lib.SmallJoins
import Derived.ChangeOld
namespace Go.Proofs.Ytfhihkogdnbghaa.bytes
open Go.ChangeShapes Go.WideShapes Go.ChangeAt Go.RowKit Go.Deep Go.Joins
set_option linter.unusedVariables false
set_option maxRecDepth 100000

theorem ret_bool {a b : Bool} (h : a = b) : Ending.returned (.bool a) = .returned (.bool b) := by rw [h]
theorem ret_u32 {a b : Int} (h : a = b) : Ending.returned (.int .u32 a) = .returned (.int .u32 b) := by rw [h]
theorem hid {p : Prop} (h : p) : Hid p := h
def nth (l : List Int) (i : Nat) : Int := l.getD i 0
theorem addr_add (b off i : Nat) : (⟨b, off, none⟩ : Addr).add i = ⟨b, off + i, none⟩ := by by_cases e : i = 0 <;> simp [Addr.add, e]
theorem cell_lt {W : World} {c o : Nat} {v : Value} (h : W.cell? ⟨c, o, none⟩ = some v) : c < W.heap.size := by
  by_cases hc : c < W.heap.size
  · exact hc
  · exfalso
    have : W.heap[c]? = none := Array.getElem?_eq_none (by omega)
    simp [World.cell?, this] at h
theorem own_below {w w' : World} {base : Nat} {e : TypeId} {size : Nat} {v : Value} {n : Nat} {xs : List Value} (h : w.ownsRow base e size v n xs) (hb : Below w.heap.size w w') : w'.ownsRow base e size v n xs := by
  have hl := h.lt
  refine ⟨h.1, ?_⟩
  rcases h.2 with h0 | ⟨g, cap, cur, hv, a, hg, r⟩
  · exact .inl h0
  · refine .inr ⟨g, cap, cur, hv, a, ?_, r⟩
    rw [hb.block g (hl g (by rw [hv]; rfl)).2]; exact hg
theorem own_mono {w : World} {base base' : Nat} {e : TypeId} {size : Nat} {v : Value} {n : Nat} {xs : List Value} (h : w.ownsRow base e size v n xs) (hb : base' ≤ base) : w.ownsRow base' e size v n xs := by
  refine ⟨h.1, ?_⟩
  rcases h.2 with h0 | ⟨g, cap, cur, hv, a, r⟩
  · exact .inl h0
  · exact .inr ⟨g, cap, cur, hv, Nat.le_trans hb a, r⟩

/-! ### bytes -/
def bth (l : List UInt8) (i : Nat) : Int := ((l.getD i 0).toNat : Int)
theorem bth_drop (l : List UInt8) (k i : Nat) : bth (l.drop k) i = bth l (k + i) := by simp [bth]
theorem bth_take {l : List UInt8} {k i : Nat} (h : i < k) : bth (l.take k) i = bth l i := by simp [bth, h]
/-- bytes that can be read at an address -/
def ByIn (w : World) (a : Option Addr) (l : List UInt8) : Prop :=
  l = [] ∨ ∃ b off, a = some ⟨b, off, none⟩ ∧ ∀ i, i < l.length → w.cell? ⟨b, off + i, none⟩ = some (.int .u8 (bth l i))
theorem ByIn.keep {w w1 : World} {a : Option Addr} {l : List UInt8} (h : ByIn w a l) (hb : Below w.heap.size w w1) : ByIn w1 a l := by
  rcases h with h | ⟨b, off, ha, hc⟩
  · exact .inl h
  · exact .inr ⟨b, off, ha, fun i hi => (hb.cell (p := ⟨b, off + i, none⟩) (cell_lt (hc i hi))).trans (hc i hi)⟩
theorem ByIn.get {w : World} {a : Option Addr} {l : List UInt8} (h : ByIn w a l) (hk : 0 < l.length) : ∃ b off, a = some ⟨b, off, none⟩ ∧ ∀ i, i < l.length → w.cell? ⟨b, off + i, none⟩ = some (.int .u8 (bth l i)) := by
  rcases h with rfl | h
  · simp at hk
  · exact h
/-- a slice of bytes that can be read -/
structure BytesAt (w : World) (a : Option Addr) (n c : Nat) (l : List UInt8) : Prop where
  mem : ByIn w a l
  low : l ≠ [] → ∀ p, a = some p → p.block < w.heap.size
  len : l.length = n
  cap : n ≤ c
theorem BytesAt.keep {w w1 : World} {a : Option Addr} {n c : Nat} {l : List UInt8} (h : BytesAt w a n c l) (hb : Below w.heap.size w w1) : BytesAt w1 a n c l := ⟨h.mem.keep hb, fun h0 p hp => Nat.lt_of_lt_of_le (h.low h0 p hp) hb.size, h.len, h.cap⟩
theorem BytesAt.nil (w : World) : BytesAt w none 0 0 [] := ⟨.inl rfl, (fun h => absurd rfl h), rfl, Nat.le_refl _⟩
/-- bytes of a call's own -/
def Bs (B : Nat) (w : World) (v : Value) (l : List UInt8) : Prop := w.ownsRow B 5 1 v l.length (Lib.byteCells l)
theorem Bs.keep {B : Nat} {w w' : World} {v : Value} {l : List UInt8} (h : Bs B w v l) (hb : Below w.heap.size w w') : Bs B w' v l := own_below h hb
theorem Bs.bytes {B : Nat} {w : World} {v : Value} {l : List UInt8} (h : Bs B w v l) : ∃ a c, v = .slice a l.length c ∧ BytesAt w a l.length c l := by
  rcases h.2 with ⟨h1, h2⟩ | ⟨g, cap, cur, h1, _, hg, hc, _⟩
  · have : l = [] := List.eq_nil_of_length_eq_zero h2
    subst this
    exact ⟨none, 0, h1, .inl rfl, (fun _ p hp => by cases hp), rfl, by simp⟩
  · refine ⟨some ⟨g, 0, none⟩, cap, h1, .inr ⟨g, 0, rfl, fun i hi => ?_⟩, fun _ p hp => ?_, rfl, hc⟩
    · have := World.ownsRow.cells h (g := g) (by rw [h1]; rfl) i (.int .u8 (bth l i)) (by simp [Lib.byteCells, bth, hi])
      rw [addr_add] at this
      exact this
    · injection hp with hp
      subst hp
      exact (Array.getElem?_eq_some_iff.1 hg).1
theorem info_u8 : (Try.prog.info? 5).map (fun i => (i.zero, i.size, i.bytes)) = some (some (.int .u8 0), 1, 1) := by kernel_rfl
theorem str_of {w : World} {a : Option Addr} {l : List UInt8} (h : ByIn w a l) (n c : Nat) (hn : l.length = n) : (convert 77 9 (.slice a n c)).run Try.prog w = .ok (.string ⟨l.toArray⟩) w := by
  subst hn
  rcases h with rfl | ⟨b, off, rfl, hc⟩
  · show (convert 77 9 (.slice a 0 c)).run Try.prog w = _
    rw [run_convert_bytes_string w 77 9 5 a 0 c Try.underlying77 Try.underlying5 Try.underlying9]
    cases a <;> rfl
  · refine run_convert_bytes_back (P := Try.prog) w 77 9 5 ⟨b, off, none⟩ c l Try.underlying77 Try.underlying5 Try.underlying9 fun j hj => ?_
    rw [addr_add, hc j hj]
    simp [bth, hj]

/-! ### boxes -/
def Boxed (w : World) (h : Nat) (cs : Array Value) (t : TypeId) : Prop := w.heap[h]? = some (.cells cs t (0, 0))
theorem Boxed.new (w : World) (cs : Array Value) (t : TypeId) : Boxed (w.alloc (.cells cs t)) w.heap.size cs t := heap_alloc_new w _
theorem Boxed.cell {w : World} {h : Nat} {cs : Array Value} {t : TypeId} (hb : Boxed w h cs t) {j : Nat} {x : Value} (hx : cs[j]? = some x) : w.cell? ⟨h, j, none⟩ = some x := by
  simp [World.cell?, show w.heap[h]? = _ from hb, hx]
theorem Boxed.frz {w : World} {h : Nat} {cs : Array Value} {t : TypeId} (hb : Boxed w h cs t) (j : Nat) : w.frozen? ⟨h, j, none⟩ = false := by
  simp [World.frozen?, show w.heap[h]? = _ from hb]
theorem Boxed.lt {w : World} {h : Nat} {cs : Array Value} {t : TypeId} (hb : Boxed w h cs t) : h < w.heap.size := (Array.getElem?_eq_some_iff.1 hb).1
theorem Boxed.below {w w' : World} {h : Nat} {cs : Array Value} {t : TypeId} (hb : Boxed w h cs t) (hg : Below w.heap.size w w') : Boxed w' h cs t := (hg.block h hb.lt).trans hb

/-! ### lists of bytes -/
structure Lr where
  a : Option Addr
  cap : Nat
  l : List UInt8
def ln (ls : List Lr) (i : Nat) : Lr := ls.getD i ⟨none, 0, []⟩
theorem ln_eq {ls : List Lr} {i : Nat} (h : i < ls.length) : ln ls i = ls[i] := by simp [ln, h]
def ListsIn (W : World) (a : Option Addr) (ls : List Lr) : Prop :=
  ls = [] ∨ ∃ b off, a = some ⟨b, off, none⟩ ∧ ∀ i, i < ls.length → W.cell? ⟨b, off + i, none⟩ = some (.slice (ln ls i).a (ln ls i).l.length (ln ls i).cap) ∧ ByIn W (ln ls i).a (ln ls i).l
theorem ListsIn.keep {w w1 : World} {a : Option Addr} {ls : List Lr} (h : ListsIn w a ls) (hb : Below w.heap.size w w1) : ListsIn w1 a ls := by
  rcases h with h | ⟨b, off, ha, hc⟩
  · exact .inl h
  · exact .inr ⟨b, off, ha, fun i hi => ⟨(hb.cell (p := ⟨b, off + i, none⟩) (cell_lt (hc i hi).1)).trans (hc i hi).1, (hc i hi).2.keep hb⟩⟩
theorem ListsIn.get {w : World} {a : Option Addr} {ls : List Lr} (h : ListsIn w a ls) {j : Nat} (hj : j < ls.length) : ∃ b off, a = some ⟨b, off, none⟩ ∧ ∀ i, i < ls.length → w.cell? ⟨b, off + i, none⟩ = some (.slice (ln ls i).a (ln ls i).l.length (ln ls i).cap) ∧ ByIn w (ln ls i).a (ln ls i).l := by
  rcases h with rfl | h
  · simp at hj
  · exact h

/-! ### what came in -/
/-- a slice of numbers that came in -/
structure Nums (k : IntKind) (W : World) (a : Option Addr) (len cap : Nat) (l : List Int) : Prop where
  mem : l = [] ∨ ∃ b off, a = some ⟨b, off, none⟩ ∧ ∀ i, i < l.length → W.cell? ⟨b, off + i, none⟩ = some (.int k (nth l i))
  eln : l.length = len
  lec : len ≤ cap
  max : cap ≤ maxLen
  wf : ∀ i, i < l.length → (Lit.int k (nth l i)).wf = true
theorem nums_open {H : Type} {enc : TypeId × Value → H} {W : World} {base : Nat} {spare : Nat → Bool} {held : Bool} {fuel : Nat} {t e : TypeId} {k : IntKind} {a : Option Addr} {len cap : Nat} {x : DataW H × List MemPlace}
    (ht : Try.prog.underlying t = some (.slice e)) (he : Try.prog.underlying e = some (.int k)) (hc : Try.prog.cellsOf e = 1)
    (h : DataW.trod enc Try.prog W base spare held fuel t [.slice a len cap] = some x) : ∃ l, Nums k W a len cap l := by
  rcases open_ints ht he hc h with ⟨hcs, _⟩ | ⟨y, l, c, zs, hcs, _, hl, hm, hz, _, hcell, hwz⟩
  · simp at hcs
    obtain ⟨rfl, rfl, rfl⟩ := hcs
    exact ⟨[], ⟨.inl rfl, rfl, Nat.le_refl _, Nat.zero_le _, fun i hi => by simp at hi⟩⟩
  · simp at hcs
    obtain ⟨rfl, rfl, rfl⟩ := hcs
    have hzl : len ≤ zs.length := by rw [hz]; split <;> omega
    have hlen : (zs.take len).length = len := by simp; omega
    refine ⟨zs.take len, ⟨?_, hlen, hl, hm, fun i hi => hwz _ (by
      have hi2 : i < zs.length := by omega
      have hi3 : i < len := by omega
      have e : nth (zs.take len) i = zs[i] := by simp [nth, hi2, hi3]
      rw [e]; exact List.getElem_mem _)⟩⟩
    by_cases h0 : len = 0
    · subst h0; exact .inl (by simp)
    · obtain ⟨b, off, spot⟩ := y
      have hc := hcell 0 (by omega)
      have hspot : spot = none := by simpa [Addr.add] using World.cell?_spot hc
      subst hspot
      refine .inr ⟨b, off, rfl, fun i hi => ?_⟩
      have hi2 : i < len := by omega
      have := hcell i (by omega)
      rw [addr_add] at this
      rw [this]
      simp [nth, hi2]
def bytesOf (l : List Int) : List UInt8 := l.map fun x => UInt8.ofNat x.toNat
theorem bytes_of_nums {w : World} {a : Option Addr} {n c : Nat} {l : List Int} (h : Nums .u8 w a n c l) : BytesAt w a n c (bytesOf l) := by
  have hl : (bytesOf l).length = l.length := by simp [bytesOf]
  have hw : ∀ i, i < l.length → bth (bytesOf l) i = nth l i := fun i hi => by
    have h1 := h.wf i hi
    have h2 : 0 ≤ nth l i ∧ nth l i ≤ 255 := by simpa [Lit.wf, IntKind.min, IntKind.max, IntKind.signed, IntKind.bits] using h1
    have e : nth l i = l[i] := by simp [nth, hi]
    simp only [bth, bytesOf, List.getD_eq_getElem?_getD, List.getElem?_map, List.getElem?_eq_getElem hi, Option.map_some, Option.getD_some]
    rw [← e]
    have : (UInt8.ofNat (nth l i).toNat).toNat = (nth l i).toNat := by simp; omega
    rw [this]; omega
  refine ⟨?_, fun h0 p hp => ?_, hl.trans h.eln, h.lec⟩
  · rcases h.mem with h0 | ⟨b, off, ha, hc⟩
    · subst h0; exact .inl rfl
    · exact .inr ⟨b, off, ha, fun i hi => by rw [hl] at hi; rw [hw i hi]; exact hc i hi⟩
  · rcases h.mem with h1 | ⟨b, off, ha, hc⟩
    · subst h1; exact absurd rfl h0
    · rw [ha] at hp
      injection hp with hp
      subst hp
      have : 0 < l.length := by
        rcases l with _ | ⟨x, l⟩
        · exact absurd rfl h0
        · simp
      exact cell_lt (hc 0 this)
theorem u8_byte {x : Int} (h : (Lit.int .u8 x).wf = true) : ∃ c : UInt8, x = ((c.toNat : Nat) : Int) := by
  have h2 : 0 ≤ x ∧ x ≤ 255 := by simpa [Lit.wf, IntKind.min, IntKind.max, IntKind.signed, IntKind.bits] using h
  refine ⟨UInt8.ofNat x.toNat, ?_⟩
  have : (UInt8.ofNat x.toNat).toNat = x.toNat := by simp; omega
  rw [this]; omega
end Go.Proofs.Ytfhihkogdnbghaa.bytes
