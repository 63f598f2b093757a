/-
  Rows and facts in memory; the table of powers that the numerals' text reads; what a call hands out.
-/
import Derived.Test.YtfchpcmiipnbjaaDoorDimsJ
import Derived.Test.YtfchpcmiipnbjaaDoorDimsCmp
import Derived.Test.YtfchpcmiipnbjaaDoorCellJ
import Derived.Test.YtfchpcmiipnbjaaDoorTableMath
import Derived.Test.YtfchpcmiipnbjaaDoorTableText
import Derived.Lib.AppendIntMem
namespace Go.Proofs.YtfchpcmiipnbjaaDoor.table
open Go.ChangeShapes Go.WideShapes Go.ChangeAt Go.RowKit Go.Deep
open Go.Proofs.YtfchpcmiipnbjaaDoor.dims (nth Ints cell_lt cmpL vals vals_len vals_get vals_one vals_app own_below own_mono own_out RowOut info_int)
open Go.Proofs.YtfchpcmiipnbjaaDoor.cell (C4 mrg all one zero In64)
set_option linter.unusedVariables false
set_option maxRecDepth 100000

/-- the library's powers of ten lie as their text lays them -/
def Pow (w : World) : Prop := Lib.TabIs Tryd.prog w (Rows.tableOneRow.named.headD "") .u64 Lib.pow10Tab
theorem Pow.keep {w w1 : World} (h : Pow w) (hb : Below w.heap.size w w1) : Pow w1 := Lib.tabBelow_of_tabIs h w1 hb
theorem Pow.below {w : World} (h : Pow w) : Lib.TabBelow Tryd.prog w.heap.size w (Rows.tableOneRow.named.headD "") .u64 Lib.pow10Tab := Lib.tabBelow_of_tabIs h

/-- a row: where its key lies, the key, its cell -/
structure Rw where
  a : Option Addr
  cap : Nat
  k : List Int
  c : C4
def rwn (rs : List Rw) (i : Nat) : Rw := rs.getD i ⟨none, 0, [], zero⟩
def plain (r : Rw) : PRow := (r.k, r.c)
def rowCells (r : Rw) : List Value := [.slice r.a r.k.length r.cap, .int .i64 r.c.n, .int .i64 r.c.s, .int .i64 r.c.lo, .int .i64 r.c.hi]
/-- a key that can be read at an address -/
structure KeyOk (w : World) (a : Option Addr) (n cap : Nat) (l : List Int) : Prop where
  mem : Ints w a l
  len : l.length = n
  lec : n ≤ cap
  max : cap ≤ 9223372036854775807
  wf : ∀ v ∈ l, In64 v
theorem KeyOk.keep {w w1 : World} {a : Option Addr} {n cap : Nat} {l : List Int} (h : KeyOk w a n cap l) (hb : Below w.heap.size w w1) : KeyOk w1 a n cap l := ⟨h.mem.keep hb, h.len, h.lec, h.max, h.wf⟩
theorem KeyOk.nil (w : World) : KeyOk w none 0 0 [] := ⟨.inl rfl, rfl, Nat.le_refl _, by omega, by simp⟩

def CellsAt (w : World) (b p : Nat) (r : Rw) : Prop :=
  w.cell? ⟨b, p, none⟩ = some (.slice r.a r.k.length r.cap) ∧ w.cell? ⟨b, p + 1, none⟩ = some (.int .i64 r.c.n) ∧ w.cell? ⟨b, p + 2, none⟩ = some (.int .i64 r.c.s) ∧ w.cell? ⟨b, p + 3, none⟩ = some (.int .i64 r.c.lo) ∧ w.cell? ⟨b, p + 4, none⟩ = some (.int .i64 r.c.hi)
theorem CellsAt.keep {w w1 : World} {b p : Nat} {r : Rw} (h : CellsAt w b p r) (hb : Below w.heap.size w w1) : CellsAt w1 b p r := by
  obtain ⟨h0, h1, h2, h3, h4⟩ := h
  have k : ∀ {c o : Nat} {v : Value}, w.cell? ⟨c, o, none⟩ = some v → w1.cell? ⟨c, o, none⟩ = some v := fun {c o v} hv => (hb.cell (p := ⟨c, o, none⟩) (cell_lt hv)).trans hv
  exact ⟨k h0, k h1, k h2, k h3, k h4⟩

/-- rows that can be read at an address -/
def RowsIn (w : World) (a : Option Addr) (rs : List Rw) : Prop :=
  rs = [] ∨ ∃ b off, a = some ⟨b, off, none⟩ ∧ ∀ i, i < rs.length → CellsAt w b (off + i * 5) (rwn rs i) ∧ KeyOk w (rwn rs i).a (rwn rs i).k.length (rwn rs i).cap (rwn rs i).k
theorem RowsIn.keep {w w1 : World} {a : Option Addr} {rs : List Rw} (h : RowsIn w a rs) (hb : Below w.heap.size w w1) : RowsIn w1 a rs := by
  rcases h with h | ⟨b, off, ha, hc⟩
  · exact .inl h
  · exact .inr ⟨b, off, ha, fun i hi => ⟨(hc i hi).1.keep hb, (hc i hi).2.keep hb⟩⟩
theorem RowsIn.get {w : World} {a : Option Addr} {rs : List Rw} (h : RowsIn w a rs) {k : Nat} (hk : k < rs.length) : ∃ b off, a = some ⟨b, off, none⟩ ∧ ∀ i, i < rs.length → CellsAt w b (off + i * 5) (rwn rs i) ∧ KeyOk w (rwn rs i).a (rwn rs i).k.length (rwn rs i).cap (rwn rs i).k := by
  rcases h with rfl | h
  · simp at hk
  · exact h
theorem rwn_mem {rs : List Rw} {i : Nat} (h : i < rs.length) : rwn rs i ∈ rs := by simp [rwn, h]
theorem rwn_eq {rs : List Rw} {i : Nat} (h : i < rs.length) : rwn rs i = rs[i] := by simp [rwn, h]

/-- a table that a call hands out -/
def TabOut (w : World) (v : Value) (t : List PRow) : Prop := ∃ a cap rs, v = .slice a rs.length cap ∧ RowsIn w a rs ∧ rs.map plain = t ∧ rs.length ≤ cap ∧ cap ≤ 9223372036854775807
theorem TabOut.keep {w w1 : World} {v : Value} {t : List PRow} (h : TabOut w v t) (hb : Below w.heap.size w w1) : TabOut w1 v t := by
  obtain ⟨a, cap, rs, e, hI, r⟩ := h
  exact ⟨a, cap, rs, e, hI.keep hb, r⟩
theorem TabOut.nil (w : World) : TabOut w (.slice none 0 0) [] := ⟨none, 0, [], rfl, .inl rfl, rfl, Nat.le_refl _, by omega⟩

/-- rows, cell by cell -/
def flatR (rs : List Rw) : List Value := rs.flatMap rowCells
theorem flatR_len (rs : List Rw) : (flatR rs).length = rs.length * 5 := by
  induction rs with
  | nil => rfl
  | cons c l ih => unfold flatR at *; simp only [List.flatMap_cons, List.length_append, List.length_cons, ih]; simp [rowCells]; omega
theorem flatR_snoc (l : List Rw) (c : Rw) : flatR (l ++ [c]) = flatR l ++ rowCells c := by simp [flatR]
theorem flatR_append (l m : List Rw) : flatR (l ++ m) = flatR l ++ flatR m := by simp [flatR]
theorem flatR_get (rs : List Rw) : ∀ i j, i < rs.length → j < 5 → (flatR rs)[i * 5 + j]? = (rowCells (rwn rs i))[j]? := by
  induction rs with
  | nil => intro i j h; simp at h
  | cons c l ih =>
    intro i j hi hj
    have e : flatR (c :: l) = rowCells c ++ flatR l := by simp [flatR]
    rw [e]
    cases i with
    | zero => rw [List.getElem?_append_left (by simp [rowCells]; omega)]; simp [rwn]
    | succ k =>
      rw [List.getElem?_append_right (by simp [rowCells]; omega)]
      have e2 : (k + 1) * 5 + j - (rowCells c).length = k * 5 + j := by simp [rowCells]; omega
      rw [e2, ih k j (by simpa using hi) hj]
      simp [rwn]
theorem rowCells_one (r : Rw) : ∀ u ∈ rowCells r, u.oneCell' = true := by
  intro u hu
  simp only [rowCells, List.mem_cons, List.not_mem_nil, or_false] at hu
  rcases hu with rfl | rfl | rfl | rfl | rfl <;> rfl
theorem flatR_one (rs : List Rw) : ∀ u ∈ flatR rs, u.oneCell' = true := by
  intro u hu
  obtain ⟨r, _, hr⟩ := List.mem_flatMap.1 hu
  exact rowCells_one r u hr

theorem info_row : (Tryd.prog.info? 57).map (fun i => (i.zero, i.size, i.bytes)) = some (some (.agg #[.slice none 0 0, .int .i64 0, .int .i64 0, .int .i64 0, .int .i64 0]), 5, 56) := by kernel_rfl
theorem info_u8 : (Tryd.prog.info? 5).map (fun i => (i.zero, i.size, i.bytes)) = some (some (.int .u8 0), 1, 1) := by kernel_rfl
theorem info_keys : (Tryd.prog.info? 38).map (fun i => (i.zero, i.size, i.bytes)) = some (some (.slice none 0 0), 1, 24) := by kernel_rfl
theorem maxLen_le2 : maxLen ≤ 9223372036854775807 := by unfold maxLen; omega

/-- rows of a call's own, cell by cell, whose keys can be read -/
theorem own_rows {w : World} {base : Nat} {v : Value} {rs : List Rw} (h : w.ownsRow base 57 5 v rs.length (flatR rs)) (hk : ∀ i, i < rs.length → KeyOk w (rwn rs i).a (rwn rs i).k.length (rwn rs i).cap (rwn rs i).k) : TabOut w v (rs.map plain) := by
  rcases h.2 with ⟨hv, h0⟩ | ⟨g, cap, cur, hv, _, _, hc, hm, _⟩
  · have : rs = [] := List.eq_nil_of_length_eq_zero h0
    subst this
    rw [hv]; exact TabOut.nil w
  · refine ⟨some ⟨g, 0, none⟩, cap, rs, hv, ?_, rfl, hc, Nat.le_trans hm maxLen_le2⟩
    refine .inr ⟨g, 0, rfl, fun i hi => ⟨?_, hk i hi⟩⟩
    rw [hv] at h
    have c : ∀ j, j < 5 → w.cell? ⟨g, i * 5 + j, none⟩ = (rowCells (rwn rs i))[j]? := fun j hj => by
      rw [World.ownsRow.cellAt h (i * 5 + j) (by omega), flatR_get rs i j hi hj]
    unfold CellsAt
    rw [Nat.zero_add]
    exact ⟨by simpa [rowCells] using c 0 (by omega), by simpa [rowCells] using c 1 (by omega), by simpa [rowCells] using c 2 (by omega), by simpa [rowCells] using c 3 (by omega), by simpa [rowCells] using c 4 (by omega)⟩
end Go.Proofs.YtfchpcmiipnbjaaDoor.table
