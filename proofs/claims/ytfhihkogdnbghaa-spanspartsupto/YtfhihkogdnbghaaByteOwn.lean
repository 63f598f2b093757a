/-
  Slices of bytes at hand: their fronts and backs, made ones, those of a text; bytes in a row of the call's own, of which bytes are set; bytes that are combined.
-/
import Derived.Test.YtfhihkogdnbghaaByteKit
namespace Go.Proofs.Ytfhihkogdnbghaa.bytes
open Go.ChangeShapes Go.WideShapes Go.ChangeAt Go.RowKit Go.Deep
set_option linter.unusedVariables false
set_option maxRecDepth 100000

/-- a slice of bytes at hand -/
structure Sl (w : World) (a : Option Addr) (n c : Nat) (l : List UInt8) : Prop where
  at_ : BytesAt w a n c l
  max : n ≤ 9223372036854775807
theorem Sl.keep {w w1 : World} {a : Option Addr} {n c : Nat} {l : List UInt8} (h : Sl w a n c l) (hb : Below w.heap.size w w1) : Sl w1 a n c l := ⟨h.at_.keep hb, h.max⟩
theorem Sl.nil (w : World) : Sl w none 0 0 [] := ⟨BytesAt.nil w, by omega⟩
theorem sl_of_nums {w : World} {a : Option Addr} {n c : Nat} {l : List Int} (h : Nums .u8 w a n c l) : Sl w a n c (bytesOf l) := ⟨bytes_of_nums h, by have h1 := h.lec; have h2 := h.max; unfold maxLen at h2; omega⟩
theorem cell_marked (w : World) (C : Array Value) (e : TypeId) (fr : Nat × Nat) {j : Nat} {x : Value} (h : C[j]? = some x) : (w.alloc (.cells C e fr)).cell? ⟨w.heap.size, j, none⟩ = some x := by
  have := heap_alloc_new w (.cells C e fr)
  simp only [World.cell?]
  rw [this]
  exact h

/-- a front of a slice -/
theorem Sl.front {w : World} {a : Option Addr} {n c : Nat} {l : List UInt8} (h : Sl w a n c l) (k : Nat) (hk : k ≤ n) : Sl w a k c (l.take k) := by
  refine ⟨⟨?_, fun h0 => h.at_.low (by rintro rfl; simp at h0), by rw [List.length_take, h.at_.len]; omega, by have := h.at_.cap; omega⟩, by have := h.max; omega⟩
  rcases h.at_.mem with h0 | ⟨b, off, ha, hc⟩
  · subst h0; exact .inl (by simp)
  · refine .inr ⟨b, off, ha, fun i hi => ?_⟩
    rw [List.length_take] at hi
    rw [bth_take (by omega)]
    exact hc i (by omega)
/-- where what is behind k places lies -/
def shift (a : Option Addr) (c k : Nat) : Option Addr := if c = k then a else a.map fun x => x.add k
theorem Sl.back {w : World} {a : Option Addr} {n c : Nat} {l : List UInt8} (h : Sl w a n c l) (k : Nat) (hk : k ≤ n) : Sl w (shift a c k) (n - k) (c - k) (l.drop k) := by
  have hl := h.at_.len
  refine ⟨⟨?_, fun h0 p hp => ?_, by rw [List.length_drop, hl], by have := h.at_.cap; omega⟩, by have := h.max; omega⟩
  · rcases h.at_.mem with h0 | ⟨b, off, ha, hc⟩
    · subst h0; exact .inl (by simp)
    · unfold shift
      by_cases e : c = k
      · have := h.at_.cap
        exact .inl (List.drop_eq_nil_iff.2 (by omega))
      · rw [if_neg e, ha]
        refine .inr ⟨b, off + k, by simp [addr_add], fun i hi => ?_⟩
        rw [List.length_drop] at hi
        rw [bth_drop, Nat.add_assoc]
        exact hc (k + i) (by omega)
  · have hl0 : l ≠ [] := by rintro rfl; simp at h0
    unfold shift at hp
    split at hp
    · exact h.at_.low hl0 p hp
    · rcases a with _ | x
      · cases hp
      · simp only [Option.map_some, Option.some.injEq] at hp
        subst hp
        have := h.at_.low hl0 x rfl
        have e : (x.add k).block = x.block := by unfold Addr.add; split <;> rfl
        rw [e]; exact this

theorem sl_made (w : World) (n : Nat) (hn : n ≤ 9223372036854775807) : Sl (w.alloc (.cells (madeCells #[.int .u8 0] n) 5)) (some ⟨w.heap.size, 0, none⟩) n n (List.replicate n 0) := by
  refine ⟨⟨.inr ⟨w.heap.size, 0, rfl, fun i hi => ?_⟩, fun _ p hp => by injection hp with hp; subst hp; simp, by simp, Nat.le_refl _⟩, hn⟩
  rw [Nat.zero_add]
  refine cell_marked w _ _ (0, 0) ?_
  have hi2 : i < n := by simpa  using hi
  rw [← Array.getElem?_toList, toList_madeCells_one]
  simp [bth, hi2]

/-- bytes of a text, in new memory -/
theorem sl_of_text (w : World) (l : List UInt8) (cap : Nat) (fr : Nat × Nat) (hc : l.length ≤ cap) (hm : l.length ≤ 9223372036854775807) : Sl (w.drew.alloc (.cells (bytesRow ⟨l.toArray⟩ cap) 5 fr)) (some ⟨w.heap.size, 0, none⟩) l.length cap l := by
  refine ⟨⟨.inr ⟨w.heap.size, 0, rfl, fun i hi => ?_⟩, fun _ p hp => by injection hp with hp; subst hp; simp, rfl, hc⟩, hm⟩
  rw [Nat.zero_add]
  refine cell_marked w.drew _ _ _ ?_
  rw [bytesRow_at _ _ _ (by simpa using hi)]
  simp [bth, hi]

/-- bytes in a row of the call's own -/
def Own8 (B : Nat) (w : World) (g n cap : Nat) (l : List UInt8) : Prop := w.ownsRow B 5 1 (.slice (some ⟨g, 0, none⟩) n cap) n (Lib.byteCells l)
theorem Own8.len {B : Nat} {w : World} {g n cap : Nat} {l : List UInt8} (h : Own8 B w g n cap l) : l.length = n := by
  have := h.1
  simpa [Lib.byteCells] using this
theorem Own8.keep {B : Nat} {w w' : World} {g n cap : Nat} {l : List UInt8} (h : Own8 B w g n cap l) (hb : Below w.heap.size w w') : Own8 B w' g n cap l := own_below h hb
theorem Own8.cell {B : Nat} {w : World} {g n cap : Nat} {l : List UInt8} (h : Own8 B w g n cap l) (j : Nat) (hj : j < n) : w.cell? ⟨g, j, none⟩ = some (.int .u8 (bth l j)) := by
  have := World.ownsRow.cellAt h j (by omega)
  rw [this]
  have hl := h.len
  simp [Lib.byteCells, bth, hl, hj]
theorem Own8.frz {B : Nat} {w : World} {g n cap : Nat} {l : List UInt8} (h : Own8 B w g n cap l) (j : Nat) : w.frozen? ⟨g, j, none⟩ = false := World.ownsRow.frozenAt h j
theorem byteCells_set (l : List UInt8) (k : Nat) (y : UInt8) : (Lib.byteCells l).set k (.int .u8 (y.toNat : Int)) = Lib.byteCells (l.set k y) := by
  simp [Lib.byteCells, List.map_set]
theorem Own8.store {B : Nat} {w : World} {g n cap : Nat} {l : List UInt8} (h : Own8 B w g n cap l) (k : Nat) (y : UInt8) : Own8 B (w.setCell ⟨g, k, none⟩ (.int .u8 (y.toNat : Int))) g n cap (l.set k y) := by
  have := World.ownsRow.stored h k (.int .u8 (y.toNat : Int))
  unfold Own8
  rw [← byteCells_set]
  exact this.1
theorem Own8.lt {B : Nat} {w : World} {g n cap : Nat} {l : List UInt8} (h : Own8 B w g n cap l) : B ≤ g ∧ g < w.heap.size := World.ownsRow.lt h g rfl
theorem Own8.sl {B : Nat} {w : World} {g n cap : Nat} {l : List UInt8} (h : Own8 B w g n cap l) (hm : n ≤ 9223372036854775807) : Sl w (some ⟨g, 0, none⟩) n cap l := by
  have hl := h.len
  refine ⟨⟨.inr ⟨g, 0, rfl, fun i hi => by rw [Nat.zero_add]; exact h.cell i (by omega)⟩, fun _ p hp => by injection hp with hp; subst hp; exact h.lt.2, hl, ?_⟩, hm⟩
  rcases h.2 with ⟨h1, h2⟩ | ⟨g', cap', cur, h1, _, _, hc, _⟩
  · cases h1
  · injection h1 with e1 e2 e3
    omega
/-- the cells of bytes at hand, as an append reads them -/
theorem Sl.news {w : World} {a : Option Addr} {n c : Nat} {l : List UInt8} (h : Sl w a n c l) (hn : 0 < n) : ∃ b off, a = some ⟨b, off, none⟩ ∧ ∀ j u, (Lib.byteCells l)[j]? = some u → w.cell? ((⟨b, off, none⟩ : Addr).add j) = some u := by
  obtain ⟨b, off, ha, hc⟩ := h.at_.mem.get (by rw [h.at_.len]; exact hn)
  refine ⟨b, off, ha, fun j u hj => ?_⟩
  rw [addr_add]
  simp only [Lib.byteCells, List.getElem?_map, Option.map_eq_some_iff] at hj
  obtain ⟨y, hy, rfl⟩ := hj
  have hjl := (List.getElem?_eq_some_iff.1 hy)
  obtain ⟨hjl, e⟩ := hjl
  rw [hc j hjl]
  simp [bth, hjl, e]
theorem byteCells_one (l : List UInt8) : ∀ u ∈ Lib.byteCells l, u.oneCell' = true := fun u hu => by
  simp only [Lib.byteCells, List.mem_map] at hu
  obtain ⟨y, -, rfl⟩ := hu
  rfl
theorem xor_u8 (a b : UInt8) : bits .xor .u8 (a.toNat : Int) (b.toNat : Int) = ((a ^^^ b).toNat : Int) := by
  have h1 : ∀ x : UInt8, (BitVec.ofInt 8 (x.toNat : Int)).toNat = x.toNat := fun x => by
    rw [BitVec.ofInt_natCast, BitVec.toNat_ofNat]; exact Nat.mod_eq_of_lt x.toNat_lt
  show IntKind.u8.wrap ((BitVec.ofInt 8 (a.toNat : Int) ^^^ BitVec.ofInt 8 (b.toNat : Int)).toNat : Int) = _
  rw [BitVec.toNat_xor, h1, h1, ← UInt8.toNat_xor]
  have := (a ^^^ b).toNat_lt
  rw [IntKind.wrap_u8]
  omega
theorem xor_other {a b : UInt8} (h : b ≠ 0) : a ≠ a ^^^ b := by
  intro e
  apply h
  have : a ^^^ a = a ^^^ (a ^^^ b) := congrArg (a ^^^ ·) e
  rw [← UInt8.xor_assoc, UInt8.xor_self, UInt8.zero_xor] at this
  exact this.symm
theorem set_parts (l : List UInt8) (k : Nat) (y : UInt8) (h : k < l.length) : l.set k y = l.take k ++ y :: l.drop (k + 1) := by
  rw [List.set_eq_take_append_cons_drop, if_pos h]
theorem self_parts (l : List UInt8) (k : Nat) (h : k < l.length) : l = l.take k ++ l.getD k 0 :: l.drop (k + 1) := by
  have e : l.getD k 0 = l[k] := by simp [h]
  rw [e, ← List.drop_eq_getElem_cons h, List.take_append_drop]
end Go.Proofs.Ytfhihkogdnbghaa.bytes
