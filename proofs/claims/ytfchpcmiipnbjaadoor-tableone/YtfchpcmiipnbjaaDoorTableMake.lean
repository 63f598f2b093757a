/-
  The contract of table.Make: the table of facts.
-/
import Derived.Test.YtfchpcmiipnbjaaDoorTableGatherW
import Derived.Test.YtfchpcmiipnbjaaDoorTableApp
namespace Go.Proofs.YtfchpcmiipnbjaaDoor.table
open Go.ChangeShapes Go.WideShapes Go.ChangeAt Go.RowKit Go.Deep
open Go.Proofs.YtfchpcmiipnbjaaDoor.dims (nth Ints cell_lt cmpL own_below)
open Go.Proofs.YtfchpcmiipnbjaaDoor.cell (C4 mrg all one zero In64 of_any)
set_option linter.unusedVariables false
set_option maxRecDepth 100000

def row0 : Rw := ⟨none, 0, [], zero⟩
/-- the rows of some facts, the others not yet made -/
def fill (fs : List Ft) (k : Nat) : List Rw := (fs.take k).map factRow ++ List.replicate (fs.length - k) row0
theorem fill_len {fs : List Ft} {k : Nat} (h : k ≤ fs.length) : (fill fs k).length = fs.length := by unfold fill; simp; omega
theorem fill_at {fs : List Ft} {k : Nat} (h : k < fs.length) : rwn (fill fs k) k = row0 := by
  unfold fill rwn
  rw [List.getD_eq_getElem?_getD, List.getElem?_append_right (by simp; omega)]
  have e : k - ((fs.take k).map factRow).length = 0 := by simp; omega
  rw [e, List.getElem?_replicate, if_pos (by omega)]; rfl
theorem fill_all (fs : List Ft) : fill fs fs.length = fs.map factRow := by unfold fill; simp
theorem fill_set {fs : List Ft} {k : Nat} (h : k < fs.length) : (fill fs k).set k (factRow (ftn fs k)) = fill fs (k + 1) := by
  unfold fill
  obtain ⟨m, hm⟩ : ∃ m, fs.length - k = m + 1 := ⟨fs.length - k - 1, by omega⟩
  have e : fs.length - (k + 1) = m := by omega
  have hl : ((fs.take k).map factRow).length = k := by simp; omega
  rw [List.set_append_right _ _ (by omega), hl, Nat.sub_self, hm, e, List.replicate_succ, List.take_succ_eq_append_getElem h, List.map_append, ftn_eq h]
  simp

theorem flatR_set : ∀ (rs : List Rw) (k : Nat) (r : Rw), k < rs.length →
    (((((flatR rs).set (k * 5) (.slice r.a r.k.length r.cap)).set (k * 5 + 1) (.int .i64 r.c.n)).set (k * 5 + 2) (.int .i64 r.c.s)).set (k * 5 + 3) (.int .i64 r.c.lo)).set (k * 5 + 4) (.int .i64 r.c.hi) = flatR (rs.set k r)
  | [], k, r, h => by simp at h
  | q :: rs, 0, r, _ => by simp [flatR, rowCells]
  | q :: rs, k + 1, r, h => by
    have ih := flatR_set rs k r (by simpa using h)
    have e : ∀ (l : List Rw) (x : Rw), flatR (x :: l) = rowCells x ++ flatR l := fun l x => by simp [flatR]
    have hs : ∀ (l : List Value) (j : Nat) (v : Value), (rowCells q ++ l).set ((k + 1) * 5 + j) v = rowCells q ++ l.set (k * 5 + j) v := fun l j v => by
      rw [List.set_append_right _ _ (by simp [rowCells]; omega)]
      congr 2
      simp [rowCells]; omega
    have h0 := fun l v => hs l 0 v
    simp only [Nat.add_zero] at h0
    rw [List.set_cons_succ, e, e, h0, hs, hs, hs, hs, ih]

theorem made_rows (n : Nat) : (madeCells #[Value.slice none 0 0, .int .i64 0, .int .i64 0, .int .i64 0, .int .i64 0] (n * 5)).toList = flatR (List.replicate n row0) := by
  apply List.ext_getElem?
  intro j
  by_cases h : j < n * 5
  · have e : j = j / 5 * 5 + j % 5 := by omega
    have hL : (flatR (List.replicate n row0))[j]? = (rowCells row0)[j % 5]? := by
      conv => lhs; rw [e]
      rw [flatR_get _ _ _ (by simp; omega) (by omega)]
      have hd : j / 5 < n := by omega
      have : rwn (List.replicate n row0) (j / 5) = row0 := by simp [rwn, hd]
      rw [this]
    rw [hL]
    have h5 : j % 5 = 0 ∨ j % 5 = 1 ∨ j % 5 = 2 ∨ j % 5 = 3 ∨ j % 5 = 4 := by omega
    rcases h5 with h5 | h5 | h5 | h5 | h5 <;> simp [madeCells, h, h5, rowCells, row0, zero]
  · rw [List.getElem?_eq_none (by simp [size_madeCells]; omega), List.getElem?_eq_none (by rw [flatR_len]; simp; omega)]

structure MS (w : World) (fs : List Ft) (n k : Nat) (W : World) : Prop where
  own : W.ownsRow w.heap.size 57 5 (.slice (some ⟨w.heap.size, 0, none⟩) n n) n (flatR (fill fs k))
  bel : Below w.heap.size w W

theorem MS.keep {w W W1 : World} {fs : List Ft} {n k : Nat} (h : MS w fs n k W) (hb : Below W.heap.size W W1) : MS w fs n k W1 := ⟨own_below h.own hb, h.bel.trans (hb.mono h.bel.size)⟩
theorem MS.cells {w W : World} {fs : List Ft} {n k : Nat} (h : MS w fs n k W) (hn : fs.length = n) (hk : k < n) : CellsAt W w.heap.size (k * 5) row0 ∧ ∀ j, W.frozen? ⟨w.heap.size, j, none⟩ = false := by
  refine ⟨?_, fun j => World.ownsRow.frozenAt h.own j⟩
  have hl : k < (fill fs k).length := by rw [fill_len (by omega)]; omega
  have c : ∀ j, j < 5 → W.cell? ⟨w.heap.size, k * 5 + j, none⟩ = (rowCells row0)[j]? := fun j hj => by
    rw [World.ownsRow.cellAt h.own (k * 5 + j) (by omega), flatR_get _ k j hl hj, fill_at (by omega)]
  unfold CellsAt
  exact ⟨c 0 (by omega), c 1 (by omega), c 2 (by omega), c 3 (by omega), c 4 (by omega)⟩

theorem MS.put {w W W2 : World} {fs : List Ft} {n k : Nat} {f : Ft} (h : MS w fs n k W) (hn : fs.length = n) (hk : k < n) (hf : ftn fs k = f) (hb : Below W.heap.size W W2) :
    MS w fs n (k + 1) (((((W2.setCell ⟨w.heap.size, k * 5, none⟩ (.slice f.a f.k.length f.cap)).setCell ⟨w.heap.size, k * 5 + 1, none⟩ (.int .i64 1)).setCell ⟨w.heap.size, k * 5 + 2, none⟩ (.int .i64 f.v)).setCell ⟨w.heap.size, k * 5 + 3, none⟩ (.int .i64 f.v)).setCell ⟨w.heap.size, k * 5 + 4, none⟩ (.int .i64 f.v)) := by
  have h2 := own_below h.own hb
  have s0 := (World.ownsRow.stored h2 (k * 5) (.slice f.a f.k.length f.cap)).1
  have s1 := (World.ownsRow.stored s0 (k * 5 + 1) (.int .i64 1)).1
  have s2 := (World.ownsRow.stored s1 (k * 5 + 2) (.int .i64 f.v)).1
  have s3 := (World.ownsRow.stored s2 (k * 5 + 3) (.int .i64 f.v)).1
  have s4 := (World.ownsRow.stored s3 (k * 5 + 4) (.int .i64 f.v)).1
  have e := flatR_set (fill fs k) k (factRow f) (by rw [fill_len (by omega)]; omega)
  rw [← hf, fill_set (by omega), hf] at e
  refine ⟨by rw [← e]; exact s4, ?_⟩
  have hB := h.bel.trans (hb.mono h.bel.size)
  exact ((((hB.setCell (Nat.le_refl _) _).setCell (Nat.le_refl _) _).setCell (Nat.le_refl _) _).setCell (Nat.le_refl _) _).setCell (Nat.le_refl _) _

theorem MS.rows {w W : World} {fs : List Ft} {n k : Nat} (h : MS w fs n k W) (hn : fs.length = n) (hk : k = n) (hK : ∀ i, i < fs.length → KeyOk w (ftn fs i).a (ftn fs i).k.length (ftn fs i).cap (ftn fs i).k) : RowsIn W (some ⟨w.heap.size, 0, none⟩) (fs.map factRow) := by
  have ho := h.own
  rw [hk, ← hn, fill_all] at ho
  refine .inr ⟨w.heap.size, 0, rfl, fun i hi => ?_⟩
  have hi2 : i < fs.length := by simpa using hi
  have er : rwn (fs.map factRow) i = factRow (ftn fs i) := by simp [rwn, ftn, hi2]
  rw [er]
  have c : ∀ j, j < 5 → W.cell? ⟨w.heap.size, i * 5 + j, none⟩ = (rowCells (factRow (ftn fs i)))[j]? := fun j hj => by
    rw [World.ownsRow.cellAt ho (i * 5 + j) (by omega), flatR_get _ i j hi hj, er]
  refine ⟨?_, (hK i hi2).keep h.bel⟩
  unfold CellsAt
  rw [Nat.zero_add]
  exact ⟨c 0 (by omega), c 1 (by omega), c 2 (by omega), c 3 (by omega), c 4 (by omega)⟩

theorem told_id (fs : List Ft) : told (fun l => l) (fs.map factRow) = rowsOf (fs.map pf) := by
  unfold told rowsOf
  rw [List.map_map, List.map_map]; rfl

set_option maxHeartbeats 4000000 in
theorem make_any (a : Option Addr) (n cap : Nat) (fs : List Ft) (w : World) (hp : Pow w) (hF : FactsIn w a fs) (hn : fs.length = n) (hn2 : n ≤ 100000) (hk : ∀ f ∈ fs, f.k.length ≤ 1000000) :
    Calls Tryd.prog 14 #[.slice a n cap] w fun e w' => ∃ v, e = .returned v ∧ TabOut w' v (tab (rowsOf (fs.map pf))) ∧ Below w.heap.size w w' := by
  obtain ⟨i0, hi, hz0, hz1, hz2⟩ := info_parts info_row
  have HH : Aside (Pow w ∧ FactsIn w a fs ∧ fs.length = n ∧ ∀ f ∈ fs, f.k.length ≤ 1000000) := ⟨hp, hF, hn, hk⟩
  clear hp hF hn hk
  go_enter Tryd.func14, Tryd.ntmps14
  go_wp2_with (at_make; refine wpList_make_full _ rfl _ _ 22 rfl w.heap.size 57 i0 _ 5 Tryd.underlying22 hi hz0 hz1 .i64 .i64 _ _ n rfl rfl rfl rfl (by rw [hz2]; omega) (by unfold maxLen; omega) (Nat.le_refl _) ?_; intro w1 hown1 hg1; refine Hid.out ?_)
  refine Lib.hid ?_
  have hb1 : Below w.heap.size w w1 := (Below.refl _ _).grown hg1 (Nat.le_refl _) (fun q hq => by cases hq)
  have S1 : Aside (MS w fs n 0 w1) := by
    refine ⟨?_, hb1⟩
    have e : flatR (fill fs 0) = (madeCells #[Value.slice none 0 0, .int .i64 0, .int .i64 0, .int .i64 0, .int .i64 0] (n * 5)).toList := by
      rw [made_rows]; unfold fill; simp [HH.out.2.2.1]
    rw [e]; exact hown1
  clear hown1 hg1 hb1
  go_wp2_with fail
  go_loopg [11] n (fun g1 vi wr => ∃ (k : Nat), vi = .int .i64 k ∧ k ≤ n ∧ n - k ≤ g1 ∧ Aside (MS w fs n k wr))
  case atStart => exact ⟨0, rfl, Nat.zero_le _, Nat.le_refl _, S1⟩
  case round =>
    clear S1
    obtain ⟨k, rfl, hk, hg1, SK⟩ := hrel
    by_cases hlt : k < n
    · have hltz : (k : Int) < (n : Int) := by omega
      have hkl : k < fs.length := by rw [HH.out.2.2.1]; exact hlt
      obtain ⟨b, off, ha, hc⟩ := (HH.out.2.1.keep SK.out.bel).get hkl
      subst ha
      obtain ⟨r0, r1, -⟩ := hc k hkl
      clear hc
      obtain ⟨⟨z0, z1, z2, z3, z4⟩, hfz⟩ := SK.out.cells HH.out.2.2.1 hlt
      have y0 := hfz (k * 5)
      have y1 := hfz (k * 5 + 1)
      have y2 := hfz (k * 5 + 2)
      have y3 := hfz (k * 5 + 3)
      have y4 := hfz (k * 5 + 4)
      have hwl : w.heap.size < wr.heap.size := (SK.out.own.lt _ rfl).2
      simp only [row0, zero, List.length_nil] at z0 z1 z2 z3 z4
      obtain ⟨f, hf⟩ : ∃ f, ftn fs k = f := ⟨_, rfl⟩
      rw [hf] at r0 r1
      have S2 : Aside (∀ W2, Below wr.heap.size wr W2 → MS w fs n (k + 1) (((((W2.setCell ⟨w.heap.size, k * 5, none⟩ (.slice f.a f.k.length f.cap)).setCell ⟨w.heap.size, k * 5 + 1, none⟩ (.int .i64 1)).setCell ⟨w.heap.size, k * 5 + 2, none⟩ (.int .i64 f.v)).setCell ⟨w.heap.size, k * 5 + 3, none⟩ (.int .i64 f.v)).setCell ⟨w.heap.size, k * 5 + 4, none⟩ (.int .i64 f.v))) := fun W2 hb => SK.out.put HH.out.2.2.1 hlt hf hb
      clear hf hfz
      generalize f.k.length = nk at r0 S2
      generalize f.v = fv at r1 S2
      go_wp2_with fail
      have hsz := SK.out.bel.size
      have hne : wr.heap.size ≠ w.heap.size := by omega
      go_region_held3 (fun w' => Below w.heap.size w w' ∧ w.heap.size ≤ w'.heap.size ∧ w'.cell? ⟨wr.heap.size, 0, none⟩ = some (.slice f.a nk f.cap) ∧ w'.cell? ⟨wr.heap.size, 0 + 1, none⟩ = some (.int .i64 fv))
        (first | (with_reducible assumption) | (refine ⟨?_, by simp; omega, by simp [go_sem], by simp [go_sem]⟩; repeat (first | with_reducible exact SK.out.bel | (with_reducible refine Below.drew ?_) | (with_reducible refine Below.alloc ?_ (by first | omega | (simp; done) | (simp; omega)) _) | (with_reducible refine Below.setCell ?_ (by first | exact Nat.le_refl _ | omega | (simp; done) | (simp; omega)) _))))
        ((go_at_call 28; refine (of_any _ _).mono ?_; rintro e w2 ⟨rfl, rfl⟩))
      go_wp2
      go_roundg (n - (k + 1))
      case measure => omega
      case rel =>
        refine ⟨k + 1, by go_num, by omega, by omega, MS.keep (S2.out wr (Below.refl _ _)) ?_⟩
        (repeat (first | with_reducible exact Below.refl _ _ | (with_reducible refine Below.drew ?_) | (with_reducible refine Below.alloc ?_ (by first | omega | (simp; done) | (simp; omega)) _) | (with_reducible refine Below.setCell ?_ (by first | exact Nat.le_refl _ | omega | (simp; done) | (simp; omega)) _)))
    · have hltz : ¬ (k : Int) < (n : Int) := by omega
      have hkn : k = n := by omega
      have hK : ∀ i, i < fs.length → KeyOk w (ftn fs i).a (ftn fs i).k.length (ftn fs i).cap (ftn fs i).k := fun i hi => by
        obtain ⟨b, off, ha, hc⟩ := HH.out.2.1.get hi
        exact (hc i hi).2.2
      have hR := SK.out.rows HH.out.2.2.1 hkn hK
      have hC := gather_any (some ⟨w.heap.size, 0, none⟩) n n (fs.map factRow) 30 #[] (fun l => l) wr (HH.out.1.keep SK.out.bel) hR (by rw [List.length_map]; exact HH.out.2.2.1) hn2 (enters_of Tryd.func30 (by kernel_rfl) rfl)
        (fun W r hW hr => by
          obtain ⟨f, hf, rfl⟩ := List.mem_map.1 hr
          obtain ⟨i, hi, rfl⟩ := List.mem_iff_getElem.1 hf
          have := hK i hi
          rw [ftn_eq hi] at this
          exact same_any _ _ _ _ W ((this.keep SK.out.bel).keep hW) (HH.out.2.2.2 _ hf))
        (fun r hr => by
          obtain ⟨f, hf, rfl⟩ := List.mem_map.1 hr
          exact HH.out.2.2.2 _ hf)
      rw [told_id] at hC
      clear hR hK
      go_wp2_with (go_at_call 29; refine hC.mono ?_; rintro e w5 ⟨v, rfl, hR, hb5⟩)
      go_ret
      exact ⟨_, rfl, hR, SK.out.bel.trans (hb5.mono SK.out.bel.size)⟩
end Go.Proofs.YtfchpcmiipnbjaaDoor.table
