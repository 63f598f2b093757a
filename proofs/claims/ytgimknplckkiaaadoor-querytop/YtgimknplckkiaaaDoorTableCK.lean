/-
  The contract of table.Make: the table of facts.
  The chapter's example holds: the contract of the statements' own 'known'.
  The contract of the statements' own 'heavy': what it lets by is small.
  What the row's reading tells of facts and of rows that came in.
  The walk of TableMakes: of whatever facts the call answers true.
  What the row's reading tells of rows that came in.
-/
import Derived.Test.YtgimknplckkiaaaDoorTableBK
import Derived.Test.YtgimknplckkiaaaDoorTableAK
import Derived.Test.YtgimknplckkiaaaDoorTableSoundT
import Derived.Test.YtgimknplckkiaaaDoorDimsK
import Derived.Deep.Fields
import Derived.SizedLaws
import Derived.Test.YtgimknplckkiaaaDoorTableRefMake
import Derived.Lib.SmallJoins
namespace Go.Proofs.YtgimknplckkiaaaDoor.table
open Go.ChangeShapes Go.WideShapes Go.ChangeAt Go.RowKit Go.Deep
open Go.Proofs.YtgimknplckkiaaaDoor.dims (nth Ints cell_lt cmpL own_below)
open Go.Proofs.YtgimknplckkiaaaDoor.cell (C4 mrg all one zero In64 of_any)
set_option linter.unusedVariables false
set_option maxRecDepth 100000

def row0 : Rw := ⟨none, 0, [], zero⟩
/-- the rows of some facts, the others not yet made -/
def fill (fs : List Ft) (k : Nat) : List Rw := (fs.take k).map factRow ++ List.replicate (fs.length - k) row0
theorem fill_len {fs : List Ft} {k : Nat} (h : k ≤ fs.length) : (fill fs k).length = fs.length := by unfold fill; simp; omega
theorem fill_at {fs : List Ft} {k : Nat} (h : k < fs.length) : rwn (fill fs k) k = row0 := by
  unfold fill rwn
  rw [List.getD_eq_getElem?_getD, List.getElem?_append_right (by simp; omega)]
  have e : k - ((fs.take k).map factRow).length = 0 := by simp; omega
  rw [e, List.getElem?_replicate, if_pos (by omega)]; rfl
theorem fill_all (fs : List Ft) : fill fs fs.length = fs.map factRow := by unfold fill; simp
theorem fill_set {fs : List Ft} {k : Nat} (h : k < fs.length) : (fill fs k).set k (factRow (ftn fs k)) = fill fs (k + 1) := by
  unfold fill
  obtain ⟨m, hm⟩ : ∃ m, fs.length - k = m + 1 := ⟨fs.length - k - 1, by omega⟩
  have e : fs.length - (k + 1) = m := by omega
  have hl : ((fs.take k).map factRow).length = k := by simp; omega
  rw [List.set_append_right _ _ (by omega), hl, Nat.sub_self, hm, e, List.replicate_succ, List.take_succ_eq_append_getElem h, List.map_append, ftn_eq h]
  simp

theorem flatR_set : ∀ (rs : List Rw) (k : Nat) (r : Rw), k < rs.length →
    (((((flatR rs).set (k * 5) (.slice r.a r.k.length r.cap)).set (k * 5 + 1) (.int .i64 r.c.n)).set (k * 5 + 2) (.int .i64 r.c.s)).set (k * 5 + 3) (.int .i64 r.c.lo)).set (k * 5 + 4) (.int .i64 r.c.hi) = flatR (rs.set k r)
  | [], k, r, h => by simp at h
  | q :: rs, 0, r, _ => by simp [flatR, rowCells]
  | q :: rs, k + 1, r, h => by
    have ih := flatR_set rs k r (by simpa using h)
    have e : ∀ (l : List Rw) (x : Rw), flatR (x :: l) = rowCells x ++ flatR l := fun l x => by simp [flatR]
    have hs : ∀ (l : List Value) (j : Nat) (v : Value), (rowCells q ++ l).set ((k + 1) * 5 + j) v = rowCells q ++ l.set (k * 5 + j) v := fun l j v => by
      rw [List.set_append_right _ _ (by simp [rowCells]; omega)]
      congr 2
      simp [rowCells]; omega
    have h0 := fun l v => hs l 0 v
    simp only [Nat.add_zero] at h0
    rw [List.set_cons_succ, e, e, h0, hs, hs, hs, hs, ih]

theorem made_rows (n : Nat) : (madeCells #[Value.slice none 0 0, .int .i64 0, .int .i64 0, .int .i64 0, .int .i64 0] (n * 5)).toList = flatR (List.replicate n row0) := by
  apply List.ext_getElem?
  intro j
  by_cases h : j < n * 5
  · have e : j = j / 5 * 5 + j % 5 := by omega
    have hL : (flatR (List.replicate n row0))[j]? = (rowCells row0)[j % 5]? := by
      conv => lhs; rw [e]
      rw [flatR_get _ _ _ (by simp; omega) (by omega)]
      have hd : j / 5 < n := by omega
      have : rwn (List.replicate n row0) (j / 5) = row0 := by simp [rwn, hd]
      rw [this]
    rw [hL]
    have h5 : j % 5 = 0 ∨ j % 5 = 1 ∨ j % 5 = 2 ∨ j % 5 = 3 ∨ j % 5 = 4 := by omega
    rcases h5 with h5 | h5 | h5 | h5 | h5 <;> simp [madeCells, h, h5, rowCells, row0, zero]
  · rw [List.getElem?_eq_none (by simp [size_madeCells]; omega), List.getElem?_eq_none (by rw [flatR_len]; simp; omega)]

structure MS (w : World) (fs : List Ft) (n k : Nat) (W : World) : Prop where
  own : W.ownsRow w.heap.size 63 5 (.slice (some ⟨w.heap.size, 0, none⟩) n n) n (flatR (fill fs k))
  bel : Below w.heap.size w W

theorem MS.keep {w W W1 : World} {fs : List Ft} {n k : Nat} (h : MS w fs n k W) (hb : Below W.heap.size W W1) : MS w fs n k W1 := ⟨own_below h.own hb, h.bel.trans (hb.mono h.bel.size)⟩
theorem MS.cells {w W : World} {fs : List Ft} {n k : Nat} (h : MS w fs n k W) (hn : fs.length = n) (hk : k < n) : CellsAt W w.heap.size (k * 5) row0 ∧ ∀ j, W.frozen? ⟨w.heap.size, j, none⟩ = false := by
  refine ⟨?_, fun j => World.ownsRow.frozenAt h.own j⟩
  have hl : k < (fill fs k).length := by rw [fill_len (by omega)]; omega
  have c : ∀ j, j < 5 → W.cell? ⟨w.heap.size, k * 5 + j, none⟩ = (rowCells row0)[j]? := fun j hj => by
    rw [World.ownsRow.cellAt h.own (k * 5 + j) (by omega), flatR_get _ k j hl hj, fill_at (by omega)]
  unfold CellsAt
  exact ⟨c 0 (by omega), c 1 (by omega), c 2 (by omega), c 3 (by omega), c 4 (by omega)⟩

theorem MS.put {w W W2 : World} {fs : List Ft} {n k : Nat} {f : Ft} (h : MS w fs n k W) (hn : fs.length = n) (hk : k < n) (hf : ftn fs k = f) (hb : Below W.heap.size W W2) :
    MS w fs n (k + 1) (((((W2.setCell ⟨w.heap.size, k * 5, none⟩ (.slice f.a f.k.length f.cap)).setCell ⟨w.heap.size, k * 5 + 1, none⟩ (.int .i64 1)).setCell ⟨w.heap.size, k * 5 + 2, none⟩ (.int .i64 f.v)).setCell ⟨w.heap.size, k * 5 + 3, none⟩ (.int .i64 f.v)).setCell ⟨w.heap.size, k * 5 + 4, none⟩ (.int .i64 f.v)) := by
  have h2 := own_below h.own hb
  have s0 := (World.ownsRow.stored h2 (k * 5) (.slice f.a f.k.length f.cap)).1
  have s1 := (World.ownsRow.stored s0 (k * 5 + 1) (.int .i64 1)).1
  have s2 := (World.ownsRow.stored s1 (k * 5 + 2) (.int .i64 f.v)).1
  have s3 := (World.ownsRow.stored s2 (k * 5 + 3) (.int .i64 f.v)).1
  have s4 := (World.ownsRow.stored s3 (k * 5 + 4) (.int .i64 f.v)).1
  have e := flatR_set (fill fs k) k (factRow f) (by rw [fill_len (by omega)]; omega)
  rw [← hf, fill_set (by omega), hf] at e
  refine ⟨by rw [← e]; exact s4, ?_⟩
  have hB := h.bel.trans (hb.mono h.bel.size)
  exact ((((hB.setCell (Nat.le_refl _) _).setCell (Nat.le_refl _) _).setCell (Nat.le_refl _) _).setCell (Nat.le_refl _) _).setCell (Nat.le_refl _) _

theorem MS.rows {w W : World} {fs : List Ft} {n k : Nat} (h : MS w fs n k W) (hn : fs.length = n) (hk : k = n) (hK : ∀ i, i < fs.length → KeyOk w (ftn fs i).a (ftn fs i).k.length (ftn fs i).cap (ftn fs i).k) : RowsIn W (some ⟨w.heap.size, 0, none⟩) (fs.map factRow) := by
  have ho := h.own
  rw [hk, ← hn, fill_all] at ho
  refine .inr ⟨w.heap.size, 0, rfl, fun i hi => ?_⟩
  have hi2 : i < fs.length := by simpa using hi
  have er : rwn (fs.map factRow) i = factRow (ftn fs i) := by simp [rwn, ftn, hi2]
  rw [er]
  have c : ∀ j, j < 5 → W.cell? ⟨w.heap.size, i * 5 + j, none⟩ = (rowCells (factRow (ftn fs i)))[j]? := fun j hj => by
    rw [World.ownsRow.cellAt ho (i * 5 + j) (by omega), flatR_get _ i j hi hj, er]
  refine ⟨?_, (hK i hi2).keep h.bel⟩
  unfold CellsAt
  rw [Nat.zero_add]
  exact ⟨c 0 (by omega), c 1 (by omega), c 2 (by omega), c 3 (by omega), c 4 (by omega)⟩

theorem told_id (fs : List Ft) : told (fun l => l) (fs.map factRow) = rowsOf (fs.map pf) := by
  unfold told rowsOf
  rw [List.map_map, List.map_map]; rfl

end Go.Proofs.YtgimknplckkiaaaDoor.table

namespace Go.Proofs.YtgimknplckkiaaaDoor.table
open Go.ChangeShapes Go.WideShapes Go.ChangeAt Go.RowKit Go.Deep
open Go.Proofs.YtgimknplckkiaaaDoor.dims (nth Ints cell_lt cmpL own_below ret_bool)
open Go.Proofs.YtgimknplckkiaaaDoor.cell (C4 mrg all one zero In64)
set_option linter.unusedVariables false
set_option maxRecDepth 100000

def exF (B : Nat) : List Ft := [⟨some ⟨B, 0, none⟩, 2, [1, 0], 3⟩, ⟨some ⟨B + 1, 0, none⟩, 2, [0, 2], 4⟩, ⟨some ⟨B + 1 + 1, 0, none⟩, 2, [1, 0], 5⟩]
def exT : List PRow := [([0, 2], ⟨1, 4, 4, 4⟩), ([1, 0], ⟨2, 8, 3, 5⟩)]
theorem ex_tab (B : Nat) : tab (rowsOf ((exF B).map pf)) = exT := by
  show tab (rowsOf [([1, 0], 3), ([0, 2], 4), ([1, 0], 5)]) = exT
  kernel_rfl
theorem ex_rows {rs : List Rw} (h : rs.map plain = exT) : rs.length = 2 ∧ (rwn rs 0).k = [0, 2] ∧ (rwn rs 0).c = ⟨1, 4, 4, 4⟩ ∧ (rwn rs 1).k = [1, 0] ∧ (rwn rs 1).c = ⟨2, 8, 3, 5⟩ := by
  have hl : rs.length = 2 := by simpa [exT] using congrArg List.length h
  rcases rs with _ | ⟨a, _ | ⟨b, _ | ⟨c, t⟩⟩⟩
  · simp at hl
  · simp at hl
  · simp only [exT, List.map_cons, List.map_nil, plain, List.cons.injEq, Prod.mk.injEq, and_true] at h
    obtain ⟨⟨h1, h2⟩, h3, h4⟩ := h
    exact ⟨rfl, h1, h2, h3, h4⟩
  · simp at hl
theorem ex_two {rs : List Rw} (h : rs.map plain = exT) : sndT rs 2 = true := by
  obtain ⟨h0, h1, h2, h3, h4⟩ := ex_rows h
  unfold sndT okAt sndR
  rw [h0]
  simp [List.range, List.range.loop, h1, h2, h3, h4, posK]
  decide
theorem ex_one {rs : List Rw} (h : rs.map plain = exT) : sndT rs 1 = false := by
  obtain ⟨h0, h1, h2, h3, h4⟩ := ex_rows h
  refine sndT_not (k := 0) (by omega) ?_
  unfold okAt sndR
  rw [h1]; rfl

end Go.Proofs.YtgimknplckkiaaaDoor.table

namespace Go.Proofs.YtgimknplckkiaaaDoor.table
open Go.ChangeShapes Go.WideShapes Go.ChangeAt Go.RowKit Go.Deep
open Go.Proofs.YtgimknplckkiaaaDoor.dims (nth Ints cell_lt cmpL own_below)
open Go.Proofs.YtgimknplckkiaaaDoor.cell (C4 mrg all one zero In64)
set_option linter.unusedVariables false
set_option maxRecDepth 100000

def wt : List Nat → Int
  | [] => 0
  | n :: l => 1 + (n : Int) + wt l
theorem wt_snoc : ∀ (l : List Nat) (n : Nat), wt (l ++ [n]) = wt l + (1 + (n : Int))
  | [], n => by simp [wt]
  | m :: l, n => by simp only [List.cons_append, wt, wt_snoc l n]; omega
theorem wt_nonneg : ∀ (l : List Nat), 0 ≤ wt l
  | [] => by simp [wt]
  | m :: l => by have := wt_nonneg l; simp only [wt]; omega
theorem wt_bound : ∀ (l : List Nat), (∀ n ∈ l, n ≤ 17592186044416) → wt l ≤ (l.length : Int) * 17592186044417
  | [], _ => by simp [wt]
  | m :: l, h => by
    have := wt_bound l fun n hn => h n (by simp [hn])
    have := h m (by simp)
    simp only [wt, List.length_cons]; omega
theorem wt_mem : ∀ {l : List Nat} {n : Nat}, n ∈ l → (n : Int) ≤ wt l
  | m :: l, n, h => by
    have := wt_nonneg l
    rcases List.mem_cons.1 h with rfl | h
    · simp only [wt]; omega
    · have := wt_mem h; simp only [wt]; omega
theorem take_nat (l : List Nat) (k : Nat) (h : k < l.length) : l.take (k + 1) = l.take k ++ [l[k]] := List.take_succ_eq_append_getElem h

def lens (rs : List Rw) : List Nat := rs.map fun r => r.k.length
def flens (fs : List Ft) : List Nat := fs.map fun f => f.k.length
theorem lens_succ {rs : List Rw} {k : Nat} (h : k < rs.length) : wt ((lens rs).take (k + 1)) = wt ((lens rs).take k) + (1 + ((rwn rs k).k.length : Int)) := by
  rw [take_nat _ _ (by simpa [lens] using h), wt_snoc, rwn_eq h]; simp [lens]
theorem flens_succ {fs : List Ft} {k : Nat} (h : k < fs.length) : wt ((flens fs).take (k + 1)) = wt ((flens fs).take k) + (1 + ((ftn fs k).k.length : Int)) := by
  rw [take_nat _ _ (by simpa [flens] using h), wt_snoc, ftn_eq h]; simp [flens]
/-- what is let by -/
def Light (rs : List Rw) (fs : List Ft) : Prop := rs.length ≤ 300 ∧ fs.length ≤ 300 ∧ (∀ r ∈ rs, r.k.length ≤ 2000) ∧ ∀ f ∈ fs, f.k.length ≤ 2000
theorem take_bound {l : List Nat} {k : Nat} (h : ∀ n ∈ l, n ≤ 17592186044416) (hk : k ≤ 300) : 0 ≤ wt (l.take k) ∧ wt (l.take k) ≤ 300 * 17592186044417 := by
  have h1 := wt_bound (l.take k) fun n hn => h n (List.mem_of_mem_take hn)
  have h2 : (l.take k).length ≤ k := List.length_take_le _ _
  exact ⟨wt_nonneg _, by omega⟩

end Go.Proofs.YtgimknplckkiaaaDoor.table

namespace Go.Proofs.YtgimknplckkiaaaDoor.table
open Go.ChangeShapes Go.WideShapes Go.ChangeAt Go.RowKit Go.Deep Go.Joins
open Go.Proofs.YtgimknplckkiaaaDoor.dims (nth Ints cell_lt Nums nums_open addr_add)
open Go.Proofs.YtgimknplckkiaaaDoor.cell (C4 mrg all one zero)
set_option linter.unusedVariables false
set_option maxRecDepth 100000

theorem i64_of_wf2 {n : Int} (h : (Lit.int .i64 n).wf = true) : cell.In64 n := by
  simpa [Lit.wf, IntKind.min, IntKind.max, IntKind.signed, IntKind.bits, cell.In64] using h
theorem key_of_nums {w : World} {a : Option Addr} {n cap : Nat} {l : List Int} (h : Nums .i64 w a n cap l) : KeyOk w a n cap l :=
  ⟨h.mem, h.eln, h.lec, Nat.le_trans h.max maxLen_le2, fun v hv => by
    obtain ⟨i, hi, rfl⟩ := List.mem_iff_getElem.1 hv
    have := i64_of_wf2 (h.wf i hi)
    simpa [nth, hi] using this⟩

theorem weightsAll_in {H : Type} {P : Program} {e : TypeId} : ∀ {l : List (DataW H)} {d : DataW H}, d ∈ l → ∀ n ∈ d.weights P e, n ∈ DataW.weightsAll P e l
  | d' :: r, d, hd, n, hn => by
    simp only [DataW.weightsAll, List.mem_append]
    rcases List.mem_cons.1 hd with rfl | h
    · exact Or.inl hn
    · exact Or.inr (weightsAll_in h n hn)

/-- what is within the form's reach -/
def Reach {H : Type} (t : TypeId) (d : DataW H) : Prop := ∀ n ∈ d.weights Tryd.prog t, n ≤ reachBytes

theorem key_cell {H : Type} {enc : TypeId × Value → H} {W : World} {base : Nat} {spare : Nat → Bool} {held : Bool} {n : Nat} {c : Value} {y : DataW H × List MemPlace}
    (h : DataW.trod enc Tryd.prog W base spare held n 24 [c] = some y) : ∃ a cap l, c = .slice a l.length cap ∧ KeyOk W a l.length cap l ∧ (Reach 24 y.1 → l.length ≤ 17592186044416) := by
  have hsl : ∃ a len cap, c = .slice a len cap ∧ (Reach 24 y.1 → len ≤ 17592186044416) := by
    rcases open_slice Tryd.underlying24 h with ⟨hcs, _⟩ | ⟨a', len, cap, m, n', D, Pl, hcs, _, _, _, _, hy, _⟩
    · simp only [List.cons.injEq, and_true] at hcs; exact ⟨_, _, _, hcs, fun _ => by omega⟩
    · simp only [List.cons.injEq, and_true] at hcs
      refine ⟨_, _, _, hcs, fun hr => ?_⟩
      have e8 : Tryd.prog.bytesOf 3 = 8 := by kernel_rfl
      have := hr ((((List.range len).map D).length + ((List.range (m - len)).map fun j => D (len + j)).length) * Tryd.prog.bytesOf 3) (by rw [hy]; simp [DataW.weights, Tryd.underlying24])
      rw [e8] at this
      simp only [List.length_map, List.length_range, reachBytes] at this
      omega
  obtain ⟨a, len, cap, rfl, hr⟩ := hsl
  obtain ⟨l, hl⟩ := nums_open Tryd.underlying24 Tryd.underlying3 (by kernel_rfl) h
  obtain rfl := hl.eln
  exact ⟨a, cap, l, rfl, key_of_nums hl, hr⟩

set_option maxRecDepth 100000 in
theorem facts_open {H : Type} {enc : TypeId × Value → H} {W : World} {base : Nat} {spare : Nat → Bool} {held : Bool} {fuel : Nat} {a : Option Addr} {len cap : Nat} {x : DataW H × List MemPlace}
    (h : DataW.trod enc Tryd.prog W base spare held fuel 49 [.slice a len cap] = some x) : ∃ fs, FactsIn W a fs ∧ (fs.length = len ∧ len ≤ cap ∧ cap ≤ maxLen) ∧ (Reach 49 x.1 → ∀ f ∈ fs, f.k.length ≤ 17592186044416) := by
  rcases open_slice Tryd.underlying49 h with ⟨h0, _⟩ | ⟨a', len', cap', m, n, D, Pl, hcs, hb, hl, hm, hmm, hxe, hx⟩
  · simp at h0
    obtain ⟨rfl, rfl, rfl⟩ := h0
    exact ⟨[], .inl rfl, ⟨rfl, Nat.le_refl _, Nat.zero_le _⟩, fun _ f hf => by simp at hf⟩
  · simp at hcs
    obtain ⟨rfl, rfl, rfl⟩ := hcs
    by_cases hz : len = 0
    · subst hz; exact ⟨[], .inl rfl, ⟨rfl, hl, hm⟩, fun _ f hf => by simp at hf⟩
    · have hlm : len ≤ m := by rw [hmm]; split <;> omega
      have n2 : Tryd.prog.cellsOf 59 = 2 := by kernel_rfl
      have nk : Tryd.prog.cellsOf 24 = 1 := by kernel_rfl
      have nv : Tryd.prog.cellsOf 2 = 1 := by kernel_rfl
      have each : ∀ i, i < len → ∃ f : Ft, W.cell? (a'.add (i * 2)) = some (.slice f.a f.k.length f.cap) ∧ W.cell? ((a'.add (i * 2)).add 1) = some (.int .i64 f.v) ∧ KeyOk W f.a f.k.length f.cap f.k ∧ (Reach 49 x.1 → f.k.length ≤ 17592186044416) := by
        intro i hi
        obtain ⟨cs', h1, h2⟩ := hx i (by omega)
        rw [n2] at h1
        obtain ⟨_, hlen, hget⟩ := World.cells?_some h1
        obtain ⟨y0, y1, n', hagg, _, g0, g1⟩ := trod_struct2 Tryd.underlying59 h2
        match cs', hlen with
        | [c0, c1], _ =>
          obtain ⟨ka, kc, kl, e0, hk, hkr⟩ := key_cell (c := c0) (by simpa [nk] using g0)
          obtain ⟨v, e1, _, hw⟩ := DataW.trod_int Tryd.underlying2 (show DataW.trod enc Tryd.prog W base spare held _ 2 [c1] = some y1 by simpa [nv] using g1)
          simp only [List.cons.injEq, and_true] at e1
          refine ⟨⟨ka, kc, kl, v⟩, ?_, ?_, hk, fun hr => hkr fun m hm2 => hr m ?_⟩
          rotate_left 2
          · rw [hxe]
            simp only [DataW.weights, Tryd.underlying49, List.mem_cons, List.mem_append]
            refine Or.inr (Or.inl (weightsAll_in (List.mem_map.2 ⟨i, List.mem_range.2 hi, rfl⟩) m ?_))
            have eD : D i = .agg [y0.1, y1.1] := congrArg Prod.fst hagg
            rw [eD]
            simp only [DataW.weights, Tryd.underlying59, List.map_cons, List.map_nil, DataW.weightsEach, List.mem_append]
            exact Or.inl hm2
          · rw [← e0]
            have := hget 0 (by omega)
            simpa [Addr.add] using this
          · rw [← e1]; exact hget 1 (by omega)
      obtain ⟨d0, hc0, _⟩ := each 0 (by omega)
      obtain ⟨b, off, spot⟩ := a'
      have hspot : spot = none := by
        have := World.cell?_spot hc0
        simpa [Addr.add] using this
      subst hspot
      obtain ⟨f, hf⟩ : ∃ f : Nat → Ft, ∀ i, i < len → W.cell? ((⟨b, off, none⟩ : Addr).add (i * 2)) = some (.slice (f i).a (f i).k.length (f i).cap) ∧ W.cell? (((⟨b, off, none⟩ : Addr).add (i * 2)).add 1) = some (.int .i64 (f i).v) ∧ KeyOk W (f i).a (f i).k.length (f i).cap (f i).k ∧ (Reach 49 x.1 → (f i).k.length ≤ 17592186044416) := by
        refine ⟨fun i => if h : i < len then Classical.choose (each i h) else ⟨none, 0, [], 0⟩, fun i hi => ?_⟩
        simp only [hi, dif_pos]
        exact Classical.choose_spec (each i hi)
      refine ⟨(List.range len).map f, .inr ⟨b, off, rfl, fun i hi => ?_⟩, ⟨by simp, hl, hm⟩, fun hr q hq => by
        obtain ⟨i, hi, rfl⟩ := List.mem_map.1 hq
        exact (hf i (List.mem_range.1 hi)).2.2.2 hr⟩
      simp only [List.length_map, List.length_range] at hi
      have hn : ftn ((List.range len).map f) i = f i := by simp [ftn, hi]
      have := hf i hi
      rw [addr_add, addr_add] at this
      rw [hn]; exact ⟨this.1, this.2.1, this.2.2.1⟩
end Go.Proofs.YtgimknplckkiaaaDoor.table

namespace Go.Proofs.YtgimknplckkiaaaDoor.table
open Go.ChangeShapes Go.WideShapes Go.ChangeAt Go.RowKit Go.Deep
open Go.Proofs.YtgimknplckkiaaaDoor.dims (nth Ints cell_lt cmpL own_below ret_bool)
open Go.Proofs.YtgimknplckkiaaaDoor.cell (C4 mrg all one zero In64)
set_option linter.unusedVariables false
set_option maxRecDepth 100000

theorem same_tabs {W : World} {v1 v2 : Value} {t : List PRow} (h1 : TabOut W v1 t) (h2 : TabOut W v2 t) :
    Calls Tryd.prog 13 #[v1, v2] W fun e w' => e = .returned (.bool true) ∧ Below W.heap.size W w' := by
  obtain ⟨a1, c1, rs, rfl, hR1, e1, hc1, hm1⟩ := h1
  obtain ⟨a2, c2, qs, rfl, hR2, e2, hc2, hm2⟩ := h2
  have hl : qs.length = rs.length := by
    have := congrArg List.length (e1.trans e2.symm)
    simpa using this.symm
  rw [hl]
  exact refSame_any a1 a2 rs.length c1 c2 rs qs W hR1 hR2 (e1.trans e2.symm) rfl (Nat.le_trans hc1 hm1)

end Go.Proofs.YtgimknplckkiaaaDoor.table

namespace Go.Proofs.YtgimknplckkiaaaDoor.table
open Go.ChangeShapes Go.WideShapes Go.ChangeAt Go.RowKit Go.Deep Go.Joins
open Go.Proofs.YtgimknplckkiaaaDoor.dims (nth Ints cell_lt Nums nums_open addr_add)
open Go.Proofs.YtgimknplckkiaaaDoor.cell (C4 mrg all one zero)
set_option linter.unusedVariables false
set_option maxRecDepth 100000

set_option maxRecDepth 100000 in
theorem rows_open {H : Type} {enc : TypeId × Value → H} {W : World} {base : Nat} {spare : Nat → Bool} {held : Bool} {fuel : Nat} {a : Option Addr} {len cap : Nat} {x : DataW H × List MemPlace}
    (h : DataW.trod enc Tryd.prog W base spare held fuel 23 [.slice a len cap] = some x) : ∃ fs, RowsIn W a fs ∧ (fs.length = len ∧ len ≤ cap ∧ cap ≤ maxLen) ∧ (Reach 23 x.1 → ∀ f ∈ fs, f.k.length ≤ 17592186044416) := by
  rcases open_slice Tryd.underlying23 h with ⟨h0, _⟩ | ⟨a', len', cap', m, n, D, Pl, hcs, hb, hl, hm, hmm, hxe, hx⟩
  · simp at h0
    obtain ⟨rfl, rfl, rfl⟩ := h0
    exact ⟨[], .inl rfl, ⟨rfl, Nat.le_refl _, Nat.zero_le _⟩, fun _ f hf => by simp at hf⟩
  · simp at hcs
    obtain ⟨rfl, rfl, rfl⟩ := hcs
    by_cases hz : len = 0
    · subst hz; exact ⟨[], .inl rfl, ⟨rfl, hl, hm⟩, fun _ f hf => by simp at hf⟩
    · have hlm : len ≤ m := by rw [hmm]; split <;> omega
      have n5 : Tryd.prog.cellsOf 63 = 5 := by kernel_rfl
      have nk : Tryd.prog.cellsOf 24 = 1 := by kernel_rfl
      have nc : Tryd.prog.cellsOf 61 = 4 := by kernel_rfl
      have nv : Tryd.prog.cellsOf 2 = 1 := by kernel_rfl
      have each : ∀ i, i < len → ∃ f : Rw, W.cell? (a'.add (i * 5)) = some (.slice f.a f.k.length f.cap) ∧ W.cell? ((a'.add (i * 5)).add 1) = some (.int .i64 f.c.n) ∧ W.cell? ((a'.add (i * 5)).add 2) = some (.int .i64 f.c.s) ∧ W.cell? ((a'.add (i * 5)).add 3) = some (.int .i64 f.c.lo) ∧ W.cell? ((a'.add (i * 5)).add 4) = some (.int .i64 f.c.hi) ∧ KeyOk W f.a f.k.length f.cap f.k ∧ (Reach 23 x.1 → f.k.length ≤ 17592186044416) := by
        intro i hi
        obtain ⟨cs', h1, h2⟩ := hx i (by omega)
        rw [n5] at h1
        obtain ⟨_, hlen, hget⟩ := World.cells?_some h1
        obtain ⟨y0, y1, n', hagg, _, g0, g1⟩ := trod_struct2 Tryd.underlying63 h2
        match cs', hlen with
        | [c0, c1, c2, c3, c4], _ =>
          obtain ⟨ka, kc, kl, e0, hk, hkr⟩ := key_cell (c := c0) (by simpa [nk] using g0)
          have g1' : DataW.trod enc Tryd.prog W base spare held n' 61 [c1, c2, c3, c4] = some y1 := by simpa [nc] using g1
          obtain ⟨z0, z1, z2, z3, n2, _, _, f0, f1, f2, f3⟩ := trod_struct4 Tryd.underlying61 g1'
          obtain ⟨v0, q0, _, _⟩ := DataW.trod_int Tryd.underlying2 (show DataW.trod enc Tryd.prog W base spare held n2 2 [c1] = some z0 by simpa [nv] using f0)
          obtain ⟨v1, q1, _, _⟩ := DataW.trod_int Tryd.underlying2 (show DataW.trod enc Tryd.prog W base spare held n2 2 [c2] = some z1 by simpa [nv] using f1)
          obtain ⟨v2, q2, _, _⟩ := DataW.trod_int Tryd.underlying2 (show DataW.trod enc Tryd.prog W base spare held n2 2 [c3] = some z2 by simpa [nv] using f2)
          obtain ⟨v3, q3, _, _⟩ := DataW.trod_int Tryd.underlying2 (show DataW.trod enc Tryd.prog W base spare held n2 2 [c4] = some z3 by simpa [nv] using f3)
          simp only [List.cons.injEq, and_true] at q0 q1 q2 q3
          refine ⟨⟨ka, kc, kl, ⟨v0, v1, v2, v3⟩⟩, ?_, ?_, ?_, ?_, ?_, hk, fun hr => hkr fun m hm2 => hr m ?_⟩
          · rw [← e0]
            have := hget 0 (by omega)
            simpa [Addr.add] using this
          · rw [← q0]; exact hget 1 (by omega)
          · rw [← q1]; exact hget 2 (by omega)
          · rw [← q2]; exact hget 3 (by omega)
          · rw [← q3]; exact hget 4 (by omega)
          · rw [hxe]
            simp only [DataW.weights, Tryd.underlying23, List.mem_cons, List.mem_append]
            refine Or.inr (Or.inl (weightsAll_in (List.mem_map.2 ⟨i, List.mem_range.2 hi, rfl⟩) m ?_))
            have eD : D i = .agg [y0.1, y1.1] := congrArg Prod.fst hagg
            rw [eD]
            simp only [DataW.weights, Tryd.underlying63, List.map_cons, List.map_nil, DataW.weightsEach, List.mem_append]
            exact Or.inl hm2
      obtain ⟨d0, hc0, _⟩ := each 0 (by omega)
      obtain ⟨b, off, spot⟩ := a'
      have hspot : spot = none := by
        have := World.cell?_spot hc0
        simpa [Addr.add] using this
      subst hspot
      obtain ⟨f, hf⟩ : ∃ f : Nat → Rw, ∀ i, i < len → W.cell? ((⟨b, off, none⟩ : Addr).add (i * 5)) = some (.slice (f i).a (f i).k.length (f i).cap) ∧ W.cell? (((⟨b, off, none⟩ : Addr).add (i * 5)).add 1) = some (.int .i64 (f i).c.n) ∧ W.cell? (((⟨b, off, none⟩ : Addr).add (i * 5)).add 2) = some (.int .i64 (f i).c.s) ∧ W.cell? (((⟨b, off, none⟩ : Addr).add (i * 5)).add 3) = some (.int .i64 (f i).c.lo) ∧ W.cell? (((⟨b, off, none⟩ : Addr).add (i * 5)).add 4) = some (.int .i64 (f i).c.hi) ∧ KeyOk W (f i).a (f i).k.length (f i).cap (f i).k ∧ (Reach 23 x.1 → (f i).k.length ≤ 17592186044416) := by
        refine ⟨fun i => if h : i < len then Classical.choose (each i h) else ⟨none, 0, [], zero⟩, fun i hi => ?_⟩
        simp only [hi, dif_pos]
        exact Classical.choose_spec (each i hi)
      refine ⟨(List.range len).map f, .inr ⟨b, off, rfl, fun i hi => ?_⟩, ⟨by simp, hl, hm⟩, fun hr q hq => by
        obtain ⟨i, hi, rfl⟩ := List.mem_map.1 hq
        exact (hf i (List.mem_range.1 hi)).2.2.2.2.2.2 hr⟩
      simp only [List.length_map, List.length_range] at hi
      have hn : rwn ((List.range len).map f) i = f i := by simp [rwn, hi]
      have := hf i hi
      rw [addr_add, addr_add, addr_add, addr_add, addr_add] at this
      rw [hn]; exact ⟨⟨this.1, this.2.1, this.2.2.1, this.2.2.2.1, this.2.2.2.2.1⟩, this.2.2.2.2.2.1⟩
end Go.Proofs.YtgimknplckkiaaaDoor.table
