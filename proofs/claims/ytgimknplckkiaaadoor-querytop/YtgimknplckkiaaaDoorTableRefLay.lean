/-
  The contract of the chapter's Lay: one row more, at its place.
-/
import Derived.Test.YtgimknplckkiaaaDoorTableAK
import Derived.Deep.MidRow
namespace Go.Proofs.YtgimknplckkiaaaDoor.table
open Go.ChangeShapes Go.WideShapes Go.ChangeAt Go.RowKit Go.Deep
open Go.Proofs.YtgimknplckkiaaaDoor.dims (nth Ints cell_lt cmpL vals vals_len vals_get vals_one vals_app own_below own_mono own_out RowOut info_int ret_bool ret_int cmp_any refCmp_any)
open Go.Proofs.YtgimknplckkiaaaDoor.cell (C4 mrg all one zero In64 refMerge_any)
set_option linter.unusedVariables false
set_option maxRecDepth 100000

theorem lay_skip : ∀ (t : List PRow) (r : PRow) (k : Nat), (∀ x ∈ t.take k, cmpL x.1 r.1 < 0) → lay t r = t.take k ++ lay (t.drop k) r
  | t, r, 0, _ => by simp
  | [], r, k + 1, _ => by simp
  | x :: t, r, k + 1, h => by
    rw [List.take_succ_cons] at h
    rw [lay, if_pos (h x (by simp)), List.take_succ_cons, List.drop_succ_cons, lay_skip t r k fun y hy => h y (by simp [hy])]
    rfl

theorem rwn_drop {rs : List Rw} {k : Nat} (h : k < rs.length) : rs.drop k = rwn rs k :: rs.drop (k + 1) := by
  rw [List.drop_eq_getElem_cons h, rwn_eq h]

/-- what Lay's row is, and what is behind it -/
def LayX (rs : List Rw) (r : Rw) (k k2 : Nat) (c : C4) : Prop :=
  (k2 = k ∧ c = r.c ∧ (k < rs.length → ¬ cmpL (rwn rs k).k r.k < 0 ∧ ¬ cmpL (rwn rs k).k r.k = 0)) ∨ (k2 = k + 1 ∧ k < rs.length ∧ cmpL (rwn rs k).k r.k = 0 ∧ c = mrg (rwn rs k).c r.c)

theorem lay_rows {rs : List Rw} {r x : Rw} {k k2 : Nat} {c : C4} (hf : ∀ i, i < k → cmpL (rwn rs i).k r.k < 0) (hk : k ≤ rs.length) (hx : x.k = r.k) (hc : x.c = c) (h : LayX rs r k k2 c) : (rs.take k ++ [x] ++ rs.drop k2).map plain = lay (rs.map plain) (plain r) := by
  rw [lay_skip (rs.map plain) (plain r) k]
  · rw [List.map_append, List.map_append, List.map_take, List.append_assoc]
    congr 1
    rw [← List.map_drop]
    rcases h with ⟨rfl, e, h⟩ | ⟨rfl, hl, e0, e⟩
    · by_cases hl : k2 < rs.length
      · obtain ⟨h1, h2⟩ := h hl
        have e2 : plain x = plain r := by simp [plain, hx, hc, e]
        rw [rwn_drop hl, List.map_cons, List.map_cons, List.map_nil, lay, if_neg (show ¬ cmpL (plain (rwn rs k2)).1 (plain r).1 < 0 from h1), if_neg (show ¬ cmpL (plain (rwn rs k2)).1 (plain r).1 = 0 from h2), e2]; rfl
      · rw [List.drop_of_length_le (by omega)]
        simp [lay, plain, hx, hc, e]
    · have e2 : plain x = ((plain r).1, mrg (plain (rwn rs k)).2 (plain r).2) := by simp [plain, hx, hc, e]
      rw [rwn_drop hl, List.map_cons, List.map_cons, List.map_nil, lay, if_neg (show ¬ cmpL (plain (rwn rs k)).1 (plain r).1 < 0 by show ¬ cmpL (rwn rs k).k r.k < 0; omega), if_pos (show cmpL (plain (rwn rs k)).1 (plain r).1 = 0 from e0), e2]; rfl
  · intro y hy
    rw [← List.map_take] at hy
    obtain ⟨z, hz, rfl⟩ := List.mem_map.1 hy
    obtain ⟨i, hi, rfl⟩ := List.mem_iff_getElem.1 hz
    have hi2 : i < k := by simp at hi; omega
    have hi3 : i < rs.length := by simp at hi; omega
    have := hf i hi2
    rw [rwn_eq hi3] at this
    simpa [plain] using this

/-- the box of the row that is laid -/
abbrev boxR (w : World) (r : Rw) : World := w.alloc (.cells #[.slice r.a r.k.length r.cap, .int .i64 r.c.n, .int .i64 r.c.s, .int .i64 r.c.lo, .int .i64 r.c.hi] 63)

/-- the loop's world -/
structure LS (w : World) (rs : List Rw) (r : Rw) (k : Nat) (v : Value) (W : World) : Prop where
  own : W.ownsRow (w.heap.size + 1) 63 5 v k (flatR (rs.take k))
  bel : Below (w.heap.size + 1) (boxR w r) W

theorem LS.keep {w W W1 : World} {rs : List Rw} {r : Rw} {k : Nat} {v : Value} (h : LS w rs r k v W) (hb : Below W.heap.size W W1) : LS w rs r k v W1 :=
  ⟨own_below h.own hb, h.bel.trans (hb.mono (by have := h.bel.size; simp at this; omega))⟩
theorem LS.low {w W : World} {rs : List Rw} {r : Rw} {k : Nat} {v : Value} (h : LS w rs r k v W) : Below w.heap.size w W :=
  ((Below.refl _ _).alloc (Nat.le_refl _) _).trans (h.bel.mono (by omega))
theorem LS.box {w W : World} {rs : List Rw} {r : Rw} {k : Nat} {v : Value} (h : LS w rs r k v W) : CellsAt W w.heap.size 0 r := by
  have c := fun o => h.bel.cell (p := ⟨w.heap.size, o, none⟩) (by show w.heap.size < w.heap.size + 1; omega)
  unfold CellsAt
  refine ⟨(c 0).trans ?_, (c (0 + 1)).trans ?_, (c (0 + 2)).trans ?_, (c (0 + 3)).trans ?_, (c (0 + 4)).trans ?_⟩ <;> simp [go_sem]
theorem LS.siz {w W : World} {rs : List Rw} {r : Rw} {k : Nat} {v : Value} (h : LS w rs r k v W) : w.heap.size < W.heap.size := by have := h.bel.size; simp at this; omega

/-- the world behind the row that is laid is made -/
structure XS (w : World) (rs : List Rw) (r : Rw) (k : Nat) (v : Value) (bx : Nat) (x : Rw) (W : World) : Prop where
  ls : LS w rs r k v W
  key : KeyOk W x.a x.k.length x.cap x.k
  cel : CellsAt W bx 0 x
  fro : ∀ j, W.frozen? ⟨bx, j, none⟩ = false
  lob : w.heap.size + 1 ≤ bx
  nob : v.ownBlock ≠ some bx
  far : x.k = [] ∨ ∀ b o, x.a = some ⟨b, o, none⟩ → b ≠ bx
  apa : x.k = [] ∨ ∀ b o, x.a = some ⟨b, o, none⟩ → v.ownBlock ≠ some b

theorem XS.newA {w wc w2 : World} {rs : List Rw} {r : Rw} {k : Nat} {v : Value} {a2 : Option Addr} {c2 : Nat} (h : LS w rs r k v wc) (hw : Below wc.heap.size wc w2) (hK : KeyOk w2 a2 r.k.length c2 r.k) (hf : ∀ b o m c, Value.slice a2 r.k.length c2 = .slice (some ⟨b, o, none⟩) m c → wc.heap.size ≤ b) :
    XS w rs r k v w2.heap.size ⟨a2, c2, r.k, r.c⟩ (w2.alloc (.cells #[.slice a2 r.k.length c2, .int .i64 r.c.n, .int .i64 r.c.s, .int .i64 r.c.lo, .int .i64 r.c.hi] 63)) := by
  have hb : Below w2.heap.size w2 (w2.alloc (.cells #[.slice a2 r.k.length c2, .int .i64 r.c.n, .int .i64 r.c.s, .int .i64 r.c.lo, .int .i64 r.c.hi] 63)) := (Below.refl _ _).alloc (Nat.le_refl _) _
  have h1 := h.siz
  have h2 := hw.size
  refine ⟨(h.keep hw).keep hb, hK.keep hb, ?_, fun j => by simp [go_sem], by omega, fun e => ?_, ?_, .inr fun b o e e2 => ?_⟩
  rotate_left 3
  · have h3 := (h.own.lt _ e2).2
    have := hf b o r.k.length c2 (by rw [show a2 = _ from e])
    omega
  · unfold CellsAt; simp [go_sem]
  · have := (h.own.lt _ e).2; omega
  · rcases hK.mem with e | ⟨b, off, ha, hc⟩
    · exact .inl e
    · by_cases e : r.k = []
      · exact .inl e
      · refine .inr fun b2 o2 e2 => ?_
        simp only [ha, Option.some.injEq, Addr.mk.injEq] at e2
        have := cell_lt (hc 0 (by cases hr : r.k <;> simp_all))
        omega

theorem XS.keep {w W W1 : World} {rs : List Rw} {r x : Rw} {k bx : Nat} {v : Value} (h : XS w rs r k v bx x W) (hb : Below W.heap.size W W1) : XS w rs r k v bx x W1 := by
  have hl := cell_lt h.cel.1
  refine ⟨h.ls.keep hb, h.key.keep hb, h.cel.keep hb, fun j => (hb.frozen (p := ⟨bx, j, none⟩) hl).trans (h.fro j), h.lob, h.nob, h.far, h.apa⟩

theorem key_far {W : World} {a : Option Addr} {n cap g o : Nat} {l : List Int} {u : Value} (h : KeyOk W a n cap l) (hf : ∀ b o m c, Value.slice a n cap = .slice (some ⟨b, o, none⟩) m c → g < b) : KeyOk (W.setCell ⟨g, o, none⟩ u) a n cap l := by
  refine ⟨?_, h.len, h.lec, h.max, h.wf⟩
  rcases h.mem with e | ⟨b, off, ha, hc⟩
  · exact .inl e
  · refine .inr ⟨b, off, ha, fun i hi => ?_⟩
    have := hf b off n cap (by rw [ha])
    rw [World.cell?_setCell_other _ _ _ _ (by intro e; injection e with e1; omega)]
    exact hc i hi

theorem LS.set {w W : World} {rs : List Rw} {r : Rw} {k g o : Nat} {v u : Value} (h : LS w rs r k v W) (hg : w.heap.size + 1 ≤ g) (hn : v.ownBlock ≠ some g) : LS w rs r k v (W.setCell ⟨g, o, none⟩ u) := by
  refine ⟨?_, h.bel.setCell hg _⟩
  have ho := h.own
  refine ⟨ho.1, ?_⟩
  rcases ho.2 with h0 | ⟨g', cap, cur, hv, hb, hh, rest⟩
  · exact .inl h0
  · refine .inr ⟨g', cap, cur, hv, hb, ?_, rest⟩
    have hne : g' ≠ g := fun e => hn (by rw [hv, e]; rfl)
    rw [heap_setCell_other _ _ _ _ hne]; exact hh

theorem key_far2 {W : World} {a : Option Addr} {n cap g o : Nat} {l : List Int} {u : Value} (h : KeyOk W a n cap l) (hf : l = [] ∨ ∀ b o, a = some ⟨b, o, none⟩ → b ≠ g) : KeyOk (W.setCell ⟨g, o, none⟩ u) a n cap l := by
  refine ⟨?_, h.len, h.lec, h.max, h.wf⟩
  rcases hf with e | hf
  · exact .inl e
  · rcases h.mem with e | ⟨b, off, ha, hc⟩
    · exact .inl e
    · refine .inr ⟨b, off, ha, fun i hi => ?_⟩
      have := hf b off ha
      rw [World.cell?_setCell_other _ _ _ _ (by intro e; injection e with e1; exact this e1.symm)]
      exact hc i hi

theorem XS.setC {w W : World} {rs : List Rw} {r x : Rw} {k bx : Nat} {v : Value} (h : XS w rs r k v bx x W) (c : C4) :
    XS w rs r k v bx ⟨x.a, x.cap, x.k, c⟩ ((((W.setCell ⟨bx, 1, none⟩ (.int .i64 c.n)).setCell ⟨bx, 2, none⟩ (.int .i64 c.s)).setCell ⟨bx, 3, none⟩ (.int .i64 c.lo)).setCell ⟨bx, 4, none⟩ (.int .i64 c.hi)) := by
  obtain ⟨d0, d1, d2, d3, d4⟩ := h.cel
  simp only [Nat.zero_add] at d1 d2 d3 d4
  refine ⟨(((h.ls.set h.lob h.nob).set h.lob h.nob).set h.lob h.nob).set h.lob h.nob, key_far2 (key_far2 (key_far2 (key_far2 h.key h.far) h.far) h.far) h.far, ?_, fun j => by simp [World.frozen?_setCell, h.fro j], h.lob, h.nob, h.far, h.apa⟩
  unfold CellsAt
  simp [go_sem, d0, d1, d2, d3, d4]

def S8 (w W : World) (b p g : Nat) (c d : C4) : Prop := Below w.heap.size w W ∧ w.heap.size ≤ W.heap.size ∧ W.cell? ⟨b, p + 1, none⟩ = some (.int .i64 c.n) ∧ W.cell? ⟨b, p + 2, none⟩ = some (.int .i64 c.s) ∧ W.cell? ⟨b, p + 3, none⟩ = some (.int .i64 c.lo) ∧ W.cell? ⟨b, p + 4, none⟩ = some (.int .i64 c.hi) ∧ W.cell? ⟨g, 1, none⟩ = some (.int .i64 d.n) ∧ W.cell? ⟨g, 2, none⟩ = some (.int .i64 d.s) ∧ W.cell? ⟨g, 3, none⟩ = some (.int .i64 d.lo) ∧ W.cell? ⟨g, 4, none⟩ = some (.int .i64 d.hi)
theorem S8.keep {w W W1 : World} {b p g : Nat} {c d : C4} (hb : Below W.heap.size W W1) (h : S8 w W b p g c d) : S8 w W1 b p g c d := by
  obtain ⟨g0, g1, h1, h2, h3, h4, h5, h6, h7, h8⟩ := h
  have k : ∀ {c o : Nat} {v : Value}, W.cell? ⟨c, o, none⟩ = some v → W1.cell? ⟨c, o, none⟩ = some v := fun {c o v} hv => (hb.cell (p := ⟨c, o, none⟩) (cell_lt hv)).trans hv
  exact ⟨g0.trans (hb.mono g1), Nat.le_trans g1 hb.size, k h1, k h2, k h3, k h4, k h5, k h6, k h7, k h8⟩
theorem S8.set {w W : World} {b p g bx o : Nat} {c d : C4} {u : Value} (h : S8 w W b p g c d) (hB : w.heap.size ≤ bx) (n1 : b ≠ bx) (n2 : g ≠ bx) : S8 w (W.setCell ⟨bx, o, none⟩ u) b p g c d := by
  obtain ⟨g0, g1, h1, h2, h3, h4, h5, h6, h7, h8⟩ := h
  have k : ∀ {c o2 : Nat} {v : Value}, c ≠ bx → W.cell? ⟨c, o2, none⟩ = some v → (W.setCell ⟨bx, o, none⟩ u).cell? ⟨c, o2, none⟩ = some v := fun {c o2 v} hc hv => by
    rw [World.cell?_setCell_other _ _ _ _ (by intro e; injection e with e1; exact hc e1.symm)]; exact hv
  exact ⟨g0.setCell hB _, by simpa using g1, k n1 h1, k n1 h2, k n1 h3, k n1 h4, k n2 h5, k n2 h6, k n2 h7, k n2 h8⟩

theorem KeyOk.grown {W W1 : World} {row : Option Nat} {a : Option Addr} {n cap : Nat} {l : List Int} (h : KeyOk W a n cap l) (hg : W.grownBy W1 row) (hne : l = [] ∨ ∀ b o, a = some ⟨b, o, none⟩ → row ≠ some b) : KeyOk W1 a n cap l := by
  refine ⟨?_, h.len, h.lec, h.max, h.wf⟩
  rcases hne with e | hne
  · exact .inl e
  · rcases h.mem with e | ⟨b, off, ha, hc⟩
    · exact .inl e
    · refine .inr ⟨b, off, ha, fun i hi => ?_⟩
      rw [hg.cell_far ⟨b, off + i, none⟩ (cell_lt (hc i hi)) (fun e => hne b off ha e.symm)]
      exact hc i hi

theorem CellsAt.get {W : World} {b p : Nat} {r : Rw} (h : CellsAt W b p r) : ∀ j, j < 5 → W.cell? ⟨b, p + j, none⟩ = (rowCells r)[j]? := by
  obtain ⟨h0, h1, h2, h3, h4⟩ := h
  intro j hj
  have : j = 0 ∨ j = 1 ∨ j = 2 ∨ j = 3 ∨ j = 4 := by omega
  rcases this with rfl | rfl | rfl | rfl | rfl
  · exact h0
  · exact h1
  · exact h2
  · exact h3
  · exact h4

theorem rows_news {W : World} {b off : Nat} {rs : List Rw} (h : RowsIn W (some ⟨b, off, none⟩) rs) (k : Nat) : ∀ j u, (flatR (rs.drop k))[j]? = some u → W.cell? ((⟨b, off + k * 5, none⟩ : Addr).add j) = some u := by
  intro j u hj
  have hl : j < (flatR (rs.drop k)).length := (List.getElem?_eq_some_iff.1 hj).1
  rw [flatR_len, List.length_drop] at hl
  have hi : k + j / 5 < rs.length := by omega
  obtain ⟨b', off', ha, hc⟩ := h.get hi
  simp only [Option.some.injEq, Addr.mk.injEq, and_true] at ha
  obtain ⟨rfl, rfl⟩ := ha
  have c := (hc _ hi).1.get (j % 5) (by omega)
  have e : j = j / 5 * 5 + j % 5 := by omega
  have hd : rwn (rs.drop k) (j / 5) = rwn rs (k + j / 5) := by simp [rwn]
  rw [e, flatR_get _ _ _ (by rw [List.length_drop]; omega) (by omega), hd] at hj
  rw [Addr.add_mid, show off + k * 5 + j = off + (k + j / 5) * 5 + j % 5 by omega, c]
  exact hj

/-- behind both appends -/
theorem XS.done {w W4 : World} {rs : List Rw} {r : Rw} {a : Option Addr} {k k2 : Nat} {v4 : Value} {a2 : Option Addr} {c2 : Nat} {c : C4} (hx : LayX rs r k k2 c) (hR : RowsIn w a rs) (hf : ∀ i, i < k → cmpL (rwn rs i).k r.k < 0) (hk : k ≤ rs.length) (hlow : Below w.heap.size w W4)
    (hkey : KeyOk W4 a2 r.k.length c2 r.k)
    (hown : W4.ownsRow (w.heap.size + 1) 63 5 v4 (k + 1 + (rs.length - k2)) (flatR (rs.take k) ++ rowCells ⟨a2, c2, r.k, c⟩ ++ flatR (rs.drop k2))) : TabOut W4 v4 (lay (rs.map plain) (plain r)) := by
  rw [← lay_rows (x := ⟨a2, c2, r.k, c⟩) hf hk rfl rfl hx]
  have el : (rs.take k ++ [(⟨a2, c2, r.k, c⟩ : Rw)] ++ rs.drop k2).length = k + 1 + (rs.length - k2) := by simp; omega
  refine own_rows (base := w.heap.size + 1) ?_ ?_
  · rw [el, flatR_append, flatR_append]
    have e1 : flatR [(⟨a2, c2, r.k, c⟩ : Rw)] = rowCells ⟨a2, c2, r.k, c⟩ := by simp [flatR]
    rw [e1]; exact hown
  · have each : ∀ q ∈ rs, KeyOk W4 q.a q.k.length q.cap q.k := fun q hq => by
      obtain ⟨i, hi, rfl⟩ := List.mem_iff_getElem.1 hq
      obtain ⟨b, off, ha, hc⟩ := hR.get hi
      have := (hc i hi).2
      rw [rwn_eq hi] at this
      exact this.keep hlow
    intro i hi
    have hm := rwn_mem hi
    rcases List.mem_append.1 hm with hm | hm
    · rcases List.mem_append.1 hm with hm | hm
      · exact each _ (List.mem_of_mem_take hm)
      · simp only [List.mem_singleton] at hm
        rw [hm]; exact hkey
    · exact each _ (List.mem_of_mem_drop hm)

theorem XS.newB {w wc w2 : World} {rs : List Rw} {r : Rw} {k : Nat} {v : Value} {a2 : Option Addr} {c2 : Nat} (h : LS w rs r k v wc) (hw : Below wc.heap.size wc w2) (hK : KeyOk w2 a2 r.k.length c2 r.k)
    (hf : ∀ b o m c, Value.slice a2 r.k.length c2 = .slice (some ⟨b, o, none⟩) m c → wc.heap.size < b) {z0 z1 z2 z3 z4 : Value}
    (d0 : w2.cell? ⟨wc.heap.size, 0, none⟩ = some z0) (d1 : w2.cell? ⟨wc.heap.size, 1, none⟩ = some z1) (d2 : w2.cell? ⟨wc.heap.size, 2, none⟩ = some z2) (d3 : w2.cell? ⟨wc.heap.size, 3, none⟩ = some z3) (d4 : w2.cell? ⟨wc.heap.size, 4, none⟩ = some z4)
    (hz : ∀ j, w2.frozen? ⟨wc.heap.size, j, none⟩ = false) :
    XS w rs r k v wc.heap.size ⟨a2, c2, r.k, r.c⟩ (((((w2.setCell ⟨wc.heap.size, 0, none⟩ (.slice a2 r.k.length c2)).setCell ⟨wc.heap.size, 1, none⟩ (.int .i64 r.c.n)).setCell ⟨wc.heap.size, 2, none⟩ (.int .i64 r.c.s)).setCell ⟨wc.heap.size, 3, none⟩ (.int .i64 r.c.lo)).setCell ⟨wc.heap.size, 4, none⟩ (.int .i64 r.c.hi)) := by
  have h1 := h.siz
  have hn : v.ownBlock ≠ some wc.heap.size := fun e => by have := (h.own.lt _ e).2; omega
  have hl : w.heap.size + 1 ≤ wc.heap.size := by omega
  refine ⟨((((((h.keep hw).set hl hn).set hl hn).set hl hn).set hl hn).set hl hn), key_far (key_far (key_far (key_far (key_far hK hf) hf) hf) hf) hf, ?_, fun j => by simp [World.frozen?_setCell, hz], hl, hn, .inr fun b o e => by have := hf b o r.k.length c2 (by rw [show a2 = _ from e]); omega, .inr fun b o e e2 => by have h3 := (h.own.lt _ e2).2; have := hf b o r.k.length c2 (by rw [show a2 = _ from e]); omega⟩
  unfold CellsAt
  simp [go_sem, d0, d1, d2, d3, d4]

theorem flatR_take {rs : List Rw} {k : Nat} (h : k < rs.length) : flatR (rs.take (k + 1)) = flatR (rs.take k) ++ rowCells (rwn rs k) := by
  rw [List.take_succ_eq_append_getElem h, flatR_snoc, rwn_eq h]

theorem two_keep {W0 W w' : World} {B b1 p1 b2 p2 : Nat} {x0 y0 : Value} (hb : Below W.heap.size W w')
    (h : Below B W0 W ∧ B ≤ W.heap.size ∧ W.cell? ⟨b1, p1, none⟩ = some x0 ∧ W.cell? ⟨b2, p2, none⟩ = some y0) :
    Below B W0 w' ∧ B ≤ w'.heap.size ∧ w'.cell? ⟨b1, p1, none⟩ = some x0 ∧ w'.cell? ⟨b2, p2, none⟩ = some y0 := by
  obtain ⟨g0, g1, h0, h1⟩ := h
  have k : ∀ {c o : Nat} {v : Value}, W.cell? ⟨c, o, none⟩ = some v → w'.cell? ⟨c, o, none⟩ = some v := fun {c o v} hv => (hb.cell (p := ⟨c, o, none⟩) (cell_lt hv)).trans hv
  exact ⟨g0.trans (hb.mono g1), Nat.le_trans g1 hb.size, k h0, k h1⟩

theorem five_at (w : World) (B : Nat) (hB : w.heap.size = B) (v0 v1 v2 v3 v4 : Value) (t : TypeId) : ∀ j u, [v0, v1, v2, v3, v4][j]? = some u → (w.alloc (.cells #[v0, v1, v2, v3, v4] t)).cell? ((⟨B, 0, none⟩ : Addr).add j) = some u := by
  subst hB
  intro j u hj
  have h5 : j < 5 := by
    have := (List.getElem?_eq_some_iff.1 hj).1
    simpa using this
  have : j = 0 ∨ j = 1 ∨ j = 2 ∨ j = 3 ∨ j = 4 := by omega
  rcases this with rfl | rfl | rfl | rfl | rfl <;> (simp at hj; subst hj; simp [Addr.add, go_sem])
theorem five_ones (a : Option Addr) (n cap : Nat) (x0 x1 x2 x3 : Int) : ∀ u ∈ [Value.slice a n cap, .int .i64 x0, .int .i64 x1, .int .i64 x2, .int .i64 x3], u.oneCell' = true := by
  intro u hu
  simp only [List.mem_cons, List.not_mem_nil, or_false] at hu
  rcases hu with rfl | rfl | rfl | rfl | rfl <;> rfl

set_option maxHeartbeats 8000000 in
theorem refLay_any (a : Option Addr) (n cap : Nat) (rs : List Rw) (r : Rw) (w : World) (hR : RowsIn w a rs) (hn : rs.length = n) (hn2 : n ≤ 1000000) (hnc : n ≤ cap) (hk : KeyOk w r.a r.k.length r.cap r.k) (hkl : r.k.length ≤ 1000000) :
    Calls Tryd.prog 39 #[.slice a n cap, .agg #[.slice r.a r.k.length r.cap, .int .i64 r.c.n, .int .i64 r.c.s, .int .i64 r.c.lo, .int .i64 r.c.hi]] w fun e w' => ∃ v, e = .returned v ∧ TabOut w' v (lay (rs.map plain) (plain r)) ∧ Below w.heap.size w w' := by
  obtain ⟨i0, hi, hz0, hz1, hz2⟩ := info_parts info_row
  have H : Aside (RowsIn w a rs ∧ rs.length = n ∧ KeyOk w r.a r.k.length r.cap r.k ∧ r.k.length ≤ 1000000) := ⟨hR, hn, hk, hkl⟩
  have S0 : Aside (LS w rs r 0 (.slice none 0 0) (boxR w r)) := ⟨World.ownsRow_nil _ _ _ _, Below.refl _ _⟩
  unfold boxR at S0
  clear hR hn hk hkl
  obtain ⟨nk, hnk⟩ : ∃ nk, r.k.length = nk := ⟨_, rfl⟩
  have HNK : Hid (r.k.length = nk) := hnk
  rw [hnk] at S0 ⊢
  clear hnk
  go_enter Tryd.func39, Tryd.ntmps39
  go_wp2_with fail
  go_loopg [5, 6] n (fun g1 v vi wr => ∃ (k : Nat), vi = .int .i64 k ∧ k ≤ n ∧ n - k ≤ g1 ∧ Aside (LS w rs r k v wr ∧ ∀ i, i < k → cmpL (rwn rs i).k r.k < 0))
  case atStart => exact ⟨0, rfl, Nat.zero_le _, Nat.le_refl _, S0.out, fun i hi => by omega⟩
  case round =>
    clear S0
    obtain ⟨k, rfl, hk, hg1, SK⟩ := hrel
    go_upto_region 3 with fail
    go_cut [22] from 8 to 31 (fun t wx => ∃ z : Bool, t = .bool z ∧ Hid (decide (k < n ∧ cmpL (rwn rs k).k r.k < 0) = z) ∧ Aside (Below wr.heap.size wr wx))
    case first =>
      as_aux_lemma =>
        by_cases hlt : k < n
        · have hltz : (k : Int) < (n : Int) := by omega
          have hkl : k < rs.length := by rw [H.out.2.1]; exact hlt
          obtain ⟨b, off, ha, hc⟩ := (H.out.1.keep SK.out.1.low).get hkl
          subst ha
          obtain ⟨⟨r0, -, -, -, -⟩, K1⟩ := hc k hkl
          clear hc
          have q0 := SK.out.1.box.1
          have K2 := H.out.2.2.1.keep SK.out.1.low
          have hC := fun W (j1 : Ints W (rwn rs k).a (rwn rs k).k) (j2 : Ints W r.a r.k) => refCmp_any (rwn rs k).a r.a (rwn rs k).k.length r.k.length (rwn rs k).cap r.cap (rwn rs k).k r.k W j1 j2 rfl rfl (Nat.le_trans K1.lec K1.max) (Nat.le_trans K2.lec K2.max)
          have J1 : Aside (Ints wr (rwn rs k).a (rwn rs k).k) := K1.mem
          have J2 : Aside (Ints wr r.a r.k) := K2.mem
          obtain ⟨c, hcc⟩ : ∃ c, cmpL (rwn rs k).k r.k = c := ⟨_, rfl⟩
          rw [hcc] at hC
          have HCC : Hid (decide (k < n ∧ cmpL (rwn rs k).k r.k < 0) = decide (c < 0)) := by show _ = _; simp [hlt, hcc]
          rw [HNK.out] at hC q0
          clear K1 K2 hcc
          generalize (rwn rs k).k.length = t1 at r0 hC
          generalize (rwn rs k).cap = t2 at r0 hC
          generalize (rwn rs k).a = t3 at r0 hC J1
          generalize (rwn rs k).k = t4 at hC J1
          go_region_held3 (fun w' => Below wr.heap.size wr w' ∧ wr.heap.size ≤ w'.heap.size ∧ w'.cell? ⟨b, off + k * 5, none⟩ = some (.slice t3 t1 t2) ∧ w'.cell? ⟨w.heap.size, 0, none⟩ = some (.slice r.a nk r.cap))
            (first | assumption | (exact ⟨(Below.refl _ _).drew, Nat.le_refl _, r0, q0⟩) | (exact ⟨Below.refl _ _, Nat.le_refl _, r0, q0⟩) | (refine two_keep (W0 := wr) (B := wr.heap.size) (b1 := b) (p1 := off + k * 5) (b2 := w.heap.size) (p2 := 0) (x0 := .slice t3 t1 t2) (y0 := .slice r.a nk r.cap) hb2 ?_; assumption))
            ((go_at_call 31; refine (hC _ (J1.out.keep (by apply And.left; assumption)) (J2.out.keep (by apply And.left; assumption))).mono ?_; rintro e w2 ⟨rfl, hb2⟩))
          go_wp2
          go_meet
          case rel => exact ⟨_, rfl, HCC, by show Below _ _ _; apply And.left; assumption⟩
        · have hltz : ¬ (k : Int) < (n : Int) := by omega
          have HCC : Hid (decide (k < n ∧ cmpL (rwn rs k).k r.k < 0) = false) := by show _ = _; simp [hlt]
          go_quiet (fail)
          go_wp2
          go_meet
          case rel => exact ⟨_, rfl, HCC, below_drewN (Below.refl _ _) nq⟩
    case rest =>
      obtain ⟨z, rfl, HZ, SB⟩ := hcut
      have S1 : Aside (LS w rs r k u5 wc) := SK.out.1.keep SB.out
      have HF : Aside (∀ i, i < k → cmpL (rwn rs i).k r.k < 0) := SK.out.2
      clear SK SB
      have hown := S1.out.own
      have hsz := S1.out.siz
      cases z with
      | true =>
        · skip
          obtain ⟨hlt, hcm⟩ := of_decide_eq_true HZ.out
          have HCM : Aside (cmpL (rwn rs k).k r.k < 0) := hcm
          have hltz : (k : Int) < (n : Int) := by omega
          have hkl : k < rs.length := by rw [H.out.2.1]; exact hlt
          obtain ⟨b, off, ha, hc⟩ := (H.out.1.keep S1.out.low).get hkl
          subst ha
          obtain ⟨⟨r0, r1, r2, r3, r4⟩, -⟩ := hc k hkl
          have HT : Hid (flatR (rs.take (k + 1)) = flatR (rs.take k) ++ rowCells (rwn rs k)) := flatR_take hkl
          have HRC : Hid (rowCells (rwn rs k) = [.slice (rwn rs k).a (rwn rs k).k.length (rwn rs k).cap, .int .i64 (rwn rs k).c.n, .int .i64 (rwn rs k).c.s, .int .i64 (rwn rs k).c.lo, .int .i64 (rwn rs k).c.hi]) := rfl
          obtain ⟨q, hq⟩ : ∃ q, rwn rs k = q := ⟨_, rfl⟩
          rw [hq] at r0 r1 r2 r3 r4 HT HRC
          have HQ : Hid (rwn rs k = q) := hq
          clear hc hcm hq
          obtain ⟨t1, ht1⟩ : ∃ t1, q.k.length = t1 := ⟨_, rfl⟩
          rw [ht1] at r0 HRC
          clear ht1
          have hC5 := five_at wc wc.heap.size rfl (.slice q.a t1 q.cap) (.int .i64 q.c.n) (.int .i64 q.c.s) (.int .i64 q.c.lo) (.int .i64 q.c.hi) 63
          go_wp2_with (at_builtin; refine wpList_append_lies _ rfl (.tmp 23) (.tmp 28) 23 rfl (w.heap.size + 1) 63 i0 _ 5 56 Tryd.underlying23 hi hz0 hz1 hz2 rfl (by decide) _ k (flatR (rs.take k)) rfl (hown.alloc _) ⟨wc.heap.size, 0, none⟩ 1 1 [.slice q.a t1 q.cap, .int .i64 q.c.n, .int .i64 q.c.s, .int .i64 q.c.lo, .int .i64 q.c.hi] rfl rfl hC5 (five_ones _ _ _ _ _ _ _) (by decide) (by unfold maxLen; omega) (by omega) (by simp; omega) _ rfl ?_; intro g3 cap3 w3 hown3 hg3 _ _; refine Hid.out ?_)
          refine Lib.hid ?_
          have S3 : Aside (LS w rs r (k + 1) (.slice (some ⟨g3, 0, none⟩) (k + 1) cap3) w3) := by
            refine ⟨?_, (S1.out.bel.alloc (by omega) _).grown hg3 (by simp; omega) fun q hq => (hown.lt q hq).1⟩
            rw [HT.out, HRC.out]; exact hown3
          clear hown3 hg3 S1 hown hC5 r0 r1 r2 r3 r4
          go_wp2
          go_roundg (n - (k + 1))
          case measure => omega
          case rel =>
            refine ⟨k + 1, by go_num, by omega, by omega, S3.out, fun i hi => ?_⟩
            by_cases e : i = k
            · subst e; exact HCM.out
            · exact HF.out i (by omega)
      | false =>
        have HP : Aside (k < n → ¬ cmpL (rwn rs k).k r.k < 0) := fun h1 h2 => of_decide_eq_false HZ.out ⟨h1, h2⟩
        go_upto_region 6 with fail
        go_cut [7] (fun t wx => ∃ bx a2 c2, t = .pointer (some ⟨bx, 0, none⟩) ∧ Aside (XS w rs r k u5 bx ⟨a2, c2, r.k, r.c⟩ wx))
        case first =>
          obtain ⟨q0, q1, q2, q3, q4⟩ := S1.out.box
          rw [HNK.out] at q0
          rw [Nat.zero_add] at q1 q2 q3 q4
          have hI : ∀ W, Below wc.heap.size wc W → Calls Tryd.prog 67 #[.slice r.a r.k.length r.cap] W fun e w' => ∃ v, e = .returned v ∧ KeyOut w' v r.k ∧ Aside (∀ b o m c, v = .slice (some ⟨b, o, none⟩) m c → W.heap.size ≤ b) ∧ Below W.heap.size W w' ∧ Below wc.heap.size wc w' ∧ w'.cell? ⟨w.heap.size, 1, none⟩ = some (.int .i64 r.c.n) ∧ w'.cell? ⟨w.heap.size, 2, none⟩ = some (.int .i64 r.c.s) ∧ w'.cell? ⟨w.heap.size, 3, none⟩ = some (.int .i64 r.c.lo) ∧ w'.cell? ⟨w.heap.size, 4, none⟩ = some (.int .i64 r.c.hi) ∧ w.heap.size < w'.heap.size ∧ (wc.heap.size < W.heap.size → (w'.cell? ⟨wc.heap.size, 0, none⟩ = W.cell? ⟨wc.heap.size, 0, none⟩ ∧ w'.cell? ⟨wc.heap.size, 1, none⟩ = W.cell? ⟨wc.heap.size, 1, none⟩ ∧ w'.cell? ⟨wc.heap.size, 2, none⟩ = W.cell? ⟨wc.heap.size, 2, none⟩ ∧ w'.cell? ⟨wc.heap.size, 3, none⟩ = W.cell? ⟨wc.heap.size, 3, none⟩ ∧ w'.cell? ⟨wc.heap.size, 4, none⟩ = W.cell? ⟨wc.heap.size, 4, none⟩) ∧ (w'.frozen? ⟨wc.heap.size, 0, none⟩ = W.frozen? ⟨wc.heap.size, 0, none⟩ ∧ w'.frozen? ⟨wc.heap.size, 1, none⟩ = W.frozen? ⟨wc.heap.size, 1, none⟩ ∧ w'.frozen? ⟨wc.heap.size, 2, none⟩ = W.frozen? ⟨wc.heap.size, 2, none⟩ ∧ w'.frozen? ⟨wc.heap.size, 3, none⟩ = W.frozen? ⟨wc.heap.size, 3, none⟩ ∧ w'.frozen? ⟨wc.heap.size, 4, none⟩ = W.frozen? ⟨wc.heap.size, 4, none⟩)) := fun W hW =>
            (ints_any r.a r.k.length r.cap r.k W ((H.out.2.2.1.keep S1.out.low).keep hW) H.out.2.2.2).mono fun e w' ⟨v, h1, h2, h3, h4⟩ => by
              have hw := hW.trans (h3.mono hW.size)
              have k : ∀ {o : Nat} {v : Value}, wc.cell? ⟨w.heap.size, o, none⟩ = some v → w'.cell? ⟨w.heap.size, o, none⟩ = some v := fun {o v} hv => (hw.cell (p := ⟨w.heap.size, o, none⟩) (cell_lt hv)).trans hv
              have kc : ∀ o : Nat, wc.heap.size < W.heap.size → w'.cell? ⟨wc.heap.size, o, none⟩ = W.cell? ⟨wc.heap.size, o, none⟩ := fun o hz => h3.cell (p := ⟨wc.heap.size, o, none⟩) hz
              have kf : ∀ o : Nat, wc.heap.size < W.heap.size → w'.frozen? ⟨wc.heap.size, o, none⟩ = W.frozen? ⟨wc.heap.size, o, none⟩ := fun o hz => h3.frozen (p := ⟨wc.heap.size, o, none⟩) hz
              exact ⟨v, h1, h2, h4, h3, hw, k q1, k q2, k q3, k q4, Nat.lt_of_lt_of_le hsz hw.size, fun hz => ⟨⟨kc 0 hz, kc 1 hz, kc 2 hz, kc 3 hz, kc 4 hz⟩, kf 0 hz, kf 1 hz, kf 2 hz, kf 3 hz, kf 4 hz⟩⟩
          rw [HNK.out] at hI
          go_region_with (go_at_call 67; refine (hI _ ?_).mono ?_; (focus ((repeat (first | with_reducible exact Below.refl _ _ | (with_reducible refine Below.drew ?_) | (with_reducible refine Below.alloc ?_ (by first | omega | (simp; done) | (simp; omega)) _) | (with_reducible refine Below.setCell ?_ (by first | exact Nat.le_refl _ | omega | (simp; done) | (simp; omega)) _))))); rintro e w2 ⟨v2, rfl, ⟨a2, c2, rfl, hK2⟩, hfr, hb2, hw2, d1, d2, d3, d4, hs2, hkp⟩; simp [go_sem] at hkp)
          all_goals
            go_wp2_with fail
            go_meet
            case rel =>
              refine ⟨_, a2, c2, rfl, ?_⟩
              show XS _ _ _ _ _ _ _ _
              first
                | (with_reducible refine XS.newA S1.out hw2 hK2 ?_
                   intro b o m c e
                   have h := hfr.out b o m c e
                   exact h)
                | (with_reducible refine XS.newB S1.out hw2 hK2 ?_ hkp.1.1 hkp.1.2.1 hkp.1.2.2.1 hkp.1.2.2.2.1 hkp.1.2.2.2.2 ?_
                   · intro b o m c e
                     have h := hfr.out b o m c e
                     have h2 : wc.heap.size + 1 ≤ b := by simpa using h
                     omega
                   · intro j
                     refine (hb2.frozen (p := ⟨wc.heap.size, j, none⟩) ?_).trans ?_
                     · simp
                     · simp [go_sem])
        case rest =>
          clear S1 hown hsz
          obtain ⟨bx, a2, c2, rfl, SX⟩ := hcut
          go_upto_region 7 with fail
          go_cut [52] (fun t wx => ∃ z : Bool, t = .bool z ∧ Hid (decide (k < n ∧ cmpL (rwn rs k).k r.k = 0) = z) ∧ Aside (XS w rs r k u5 bx ⟨a2, c2, r.k, r.c⟩ wx))
          case first =>
            by_cases hlt : k < n
            · have hltz : (k : Int) < (n : Int) := by omega
              have hkl : k < rs.length := by rw [H.out.2.1]; exact hlt
              obtain ⟨b, off, ha, hc⟩ := (H.out.1.keep SX.out.ls.low).get hkl
              subst ha
              obtain ⟨⟨r0, -, -, -, -⟩, K1⟩ := hc k hkl
              clear hc
              have q0 := SX.out.ls.box.1
              have K2 := H.out.2.2.1.keep SX.out.ls.low
              have hC := fun W (j1 : Ints W (rwn rs k).a (rwn rs k).k) (j2 : Ints W r.a r.k) => refCmp_any (rwn rs k).a r.a (rwn rs k).k.length r.k.length (rwn rs k).cap r.cap (rwn rs k).k r.k W j1 j2 rfl rfl (Nat.le_trans K1.lec K1.max) (Nat.le_trans K2.lec K2.max)
              have J1 : Aside (Ints wc (rwn rs k).a (rwn rs k).k) := K1.mem
              have J2 : Aside (Ints wc r.a r.k) := K2.mem
              obtain ⟨c, hcc⟩ : ∃ c, cmpL (rwn rs k).k r.k = c := ⟨_, rfl⟩
              rw [hcc] at hC
              have HCC : Hid (decide (k < n ∧ cmpL (rwn rs k).k r.k = 0) = (c == 0)) := by show _ = _; rw [hcc]; by_cases e : c = 0 <;> simp [hlt, e]
              rw [HNK.out] at hC q0
              clear K1 K2 hcc
              generalize (rwn rs k).k.length = t1 at r0 hC
              generalize (rwn rs k).cap = t2 at r0 hC
              generalize (rwn rs k).a = t3 at r0 hC J1
              generalize (rwn rs k).k = t4 at hC J1
              go_region_held3 (fun w' => Below wc.heap.size wc w' ∧ wc.heap.size ≤ w'.heap.size ∧ w'.cell? ⟨b, off + k * 5, none⟩ = some (.slice t3 t1 t2) ∧ w'.cell? ⟨w.heap.size, 0, none⟩ = some (.slice r.a nk r.cap))
                (first | assumption | (exact ⟨(Below.refl _ _).drew, Nat.le_refl _, r0, q0⟩) | (exact ⟨Below.refl _ _, Nat.le_refl _, r0, q0⟩) | (refine two_keep (W0 := wc) (B := wc.heap.size) (b1 := b) (p1 := off + k * 5) (b2 := w.heap.size) (p2 := 0) (x0 := .slice t3 t1 t2) (y0 := .slice r.a nk r.cap) hb2 ?_; assumption))
                ((go_at_call 31; refine (hC _ (J1.out.keep (by apply And.left; assumption)) (J2.out.keep (by apply And.left; assumption))).mono ?_; rintro e w2 ⟨rfl, hb2⟩))
              have hBB : Below wc.heap.size wc w2 := by apply And.left; assumption
              have S2 : Aside (XS w rs r k u5 bx ⟨a2, c2, r.k, r.c⟩ w2) := SX.out.keep hBB
              go_wp2
              go_meet
              case rel => exact ⟨_, rfl, HCC, S2⟩
            · have hltz : ¬ (k : Int) < (n : Int) := by omega
              have HCC : Hid (decide (k < n ∧ cmpL (rwn rs k).k r.k = 0) = false) := by show _ = _; simp [hlt]
              go_quiet (fail)
              have S2 : Aside (XS w rs r k u5 bx ⟨a2, c2, r.k, r.c⟩ (wc.drewN nq)) := SX.out.keep (below_drewN (Below.refl _ _) nq)
              go_wp2
              go_meet
              case rel => exact ⟨_, rfl, HCC, S2⟩
          case rest =>
            clear SX
            obtain ⟨z, rfl, HZ2, SX⟩ := hcut
            go_upto_if 52 with fail
            go_cut [6] (fun t wx => ∃ (k2 : Nat) (c : C4), t = .int .i64 k2 ∧ k2 ≤ n ∧ Hid (LayX rs r k k2 c) ∧ Aside (XS w rs r k u5 bx ⟨a2, c2, r.k, c⟩ wx))
            case first =>
              cases z with
              | false =>
                have HX : Hid (LayX rs r k k r.c) := by
                  show LayX _ _ _ _ _
                  refine .inl ⟨rfl, rfl, fun hk1 => ⟨HP.out (by rw [← H.out.2.1]; exact hk1), fun e => of_decide_eq_false HZ2.out ⟨by rw [← H.out.2.1]; exact hk1, e⟩⟩⟩
                go_wp2
                go_meet
                case rel => exact ⟨k, r.c, rfl, hk, HX, SX⟩
              | true =>
                obtain ⟨hlt, hcm⟩ := of_decide_eq_true HZ2.out
                have hltz : (k : Int) < (n : Int) := by omega
                have hkl : k < rs.length := by rw [H.out.2.1]; exact hlt
                have HX : Hid (LayX rs r k (k + 1) (mrg (rwn rs k).c r.c)) := by
                  show LayX _ _ _ _ _
                  exact .inr ⟨rfl, hkl, hcm, rfl⟩
                obtain ⟨b0, off0, ha0, hc0⟩ := H.out.1.get hkl
                have hb0 := cell_lt (hc0 k hkl).1.1
                clear hc0 hcm
                obtain ⟨b, off, ha, hc⟩ := (H.out.1.keep SX.out.ls.low).get hkl
                rw [ha] at ha0
                simp only [Option.some.injEq, Addr.mk.injEq, and_true] at ha0
                obtain ⟨e1, e2⟩ := ha0
                subst e1 e2 ha
                obtain ⟨⟨-, r1, r2, r3, r4⟩, -⟩ := hc k hkl
                obtain ⟨-, q1, q2, q3, q4⟩ := SX.out.ls.box
                simp only [Nat.zero_add] at q1 q2 q3 q4
                clear hc
                obtain ⟨q, hq⟩ : ∃ q, (rwn rs k).c = q := ⟨_, rfl⟩
                rw [hq] at r1 r2 r3 r4 HX
                clear hq
                have hlob := SX.out.lob
                have S0 : S8 w wc b (off + k * 5) w.heap.size q r.c := ⟨SX.out.ls.low, SX.out.ls.low.size, r1, r2, r3, r4, q1, q2, q3, q4⟩
                have hM : ∀ W, Below wc.heap.size wc W → Calls Tryd.prog 68 #[.agg #[.int .i64 q.n, .int .i64 q.s, .int .i64 q.lo, .int .i64 q.hi], .agg #[.int .i64 r.c.n, .int .i64 r.c.s, .int .i64 r.c.lo, .int .i64 r.c.hi]] W fun e w' => e = .returned (.agg #[.int .i64 (mrg q r.c).n, .int .i64 (mrg q r.c).s, .int .i64 (mrg q r.c).lo, .int .i64 (mrg q r.c).hi]) ∧ Below wc.heap.size wc w' ∧ Aside (XS w rs r k u5 bx ⟨a2, c2, r.k, r.c⟩ w') ∧ (w'.cell? ⟨bx, 1, none⟩ = some (.int .i64 r.c.n) ∧ w'.cell? ⟨bx, 2, none⟩ = some (.int .i64 r.c.s) ∧ w'.cell? ⟨bx, 3, none⟩ = some (.int .i64 r.c.lo) ∧ w'.cell? ⟨bx, 4, none⟩ = some (.int .i64 r.c.hi)) ∧ (w'.frozen? ⟨bx, 1, none⟩ = false ∧ w'.frozen? ⟨bx, 2, none⟩ = false ∧ w'.frozen? ⟨bx, 3, none⟩ = false ∧ w'.frozen? ⟨bx, 4, none⟩ = false) := fun W hW =>
                  (refMerge_any q r.c W).mono fun e w' ⟨h1, h2⟩ => by
                    have hw := hW.trans (h2.mono hW.size)
                    have hx := SX.out.keep hw
                    obtain ⟨-, d1, d2, d3, d4⟩ := hx.cel
                    simp only [Nat.zero_add] at d1 d2 d3 d4
                    exact ⟨h1, hw, hx, ⟨d1, d2, d3, d4⟩, hx.fro 1, hx.fro 2, hx.fro 3, hx.fro 4⟩
                have hne1 : b ≠ bx := by omega
                have hne2 : w.heap.size ≠ bx := by omega
                have hlw : w.heap.size ≤ bx := by omega
                have S0A : Aside (S8 w wc b (off + k * 5) w.heap.size q r.c) := S0
                generalize mrg q r.c = mc at hM HX
                clear S0 r1 r2 r3 r4 q1 q2 q3 q4
                go_wp2_with fail
                go_region_held3 (fun w' => Below w.heap.size w w' ∧ w.heap.size ≤ w'.heap.size ∧ w'.cell? ⟨b, off + k * 5 + 1, none⟩ = some (.int .i64 q.n) ∧ w'.cell? ⟨b, off + k * 5 + 2, none⟩ = some (.int .i64 q.s) ∧ w'.cell? ⟨b, off + k * 5 + 3, none⟩ = some (.int .i64 q.lo) ∧ w'.cell? ⟨b, off + k * 5 + 4, none⟩ = some (.int .i64 q.hi) ∧ w'.cell? ⟨w.heap.size, 1, none⟩ = some (.int .i64 r.c.n) ∧ w'.cell? ⟨w.heap.size, 2, none⟩ = some (.int .i64 r.c.s) ∧ w'.cell? ⟨w.heap.size, 3, none⟩ = some (.int .i64 r.c.lo) ∧ w'.cell? ⟨w.heap.size, 4, none⟩ = some (.int .i64 r.c.hi))
                  (first | with_reducible assumption | (exact S8.keep ((Below.refl _ _).drew) S0A.out) | (exact S8.keep hb2 S0A.out) | (exact S8.set (S8.set (S8.set (S8.set (S8.keep hb2 S0A.out) hlw hne1 hne2) hlw hne1 hne2) hlw hne1 hne2) hlw hne1 hne2))
                  ((go_at_call 68; refine (hM _ ?_).mono ?_; (focus (exact (Below.refl _ _).drew)); rintro e w2 ⟨rfl, hb2, hX2, ⟨e1, e2, e3, e4⟩, f1, f2, f3, f4⟩))
                have S3 : Aside (XS w rs r k u5 bx ⟨a2, c2, r.k, mc⟩ _) := hX2.out.setC mc
                clear hX2 hb2 e1 e2 e3 e4 f1 f2 f3 f4 S0A hM
                go_wp2
                go_meet
                case rel => exact ⟨k + 1, mc, by go_num, by omega, HX, S3⟩
            case rest =>
              clear SX
              obtain ⟨k2, c, rfl, hk2, HX, SX⟩ := hcut
              obtain ⟨e0, e1, e2, e3, e4⟩ := SX.out.cel
              simp only [Nat.zero_add] at e1 e2 e3 e4
              rw [HNK.out] at e0
              have hown := SX.out.ls.own
              have hsz := SX.out.ls.siz
              have hC5 := five_at wc wc.heap.size rfl (.slice a2 nk c2) (.int .i64 c.n) (.int .i64 c.s) (.int .i64 c.lo) (.int .i64 c.hi) 63
              go_wp2_with (at_builtin; refine wpList_append_lies _ rfl (.tmp 64) (.tmp 66) 23 rfl (w.heap.size + 1) 63 i0 _ 5 56 Tryd.underlying23 hi hz0 hz1 hz2 rfl (by decide) _ k (flatR (rs.take k)) rfl (hown.alloc _) ⟨wc.heap.size, 0, none⟩ 1 1 [.slice a2 nk c2, .int .i64 c.n, .int .i64 c.s, .int .i64 c.lo, .int .i64 c.hi] rfl rfl hC5 (five_ones _ _ _ _ _ _ _) (by decide) (by unfold maxLen; omega) (by omega) (by simp; omega) _ rfl ?_; intro g3 cap3 w3 hown3 hg3 hat3 hlt3; refine Hid.out ?_)
              refine Lib.hid ?_
              have B3 : Aside (Below (w.heap.size + 1) (boxR w r) w3) := (SX.out.ls.bel.alloc (by omega) _).grown hg3 (by simp; omega) fun q hq => (hown.lt q hq).1
              have K3 : Aside (KeyOk w3 a2 r.k.length c2 r.k) := KeyOk.grown (SX.out.key.keep ((Below.refl _ _).alloc (Nat.le_refl _) _)) hg3 SX.out.apa
              have A3 : Aside (r.k = [] ∨ ∀ b o, a2 = some ⟨b, o, none⟩ → some g3 ≠ some b) := by
                show _ ∨ _
                rcases SX.out.apa with e | h
                · exact .inl e
                · rcases SX.out.key.mem with e | ⟨b, o, ha, hc⟩
                  · exact .inl e
                  · by_cases er : r.k = []
                    · exact .inl er
                    · refine .inr fun b2 o2 e2 e => ?_
                      injection e with e
                      have hbl := cell_lt (hc 0 (by cases hr : r.k <;> simp_all))
                      have ha' : a2 = some ⟨b, o, none⟩ := ha
                      rw [ha'] at e2
                      simp only [Option.some.injEq, Addr.mk.injEq, and_true] at e2
                      have hat5 : u5.ownBlock = some g3 ∨ g3 = (wc.alloc _).heap.size := hat3
                      rcases hat5 with hat | hat
                      · exact h b o ha' (by rw [hat, e, e2.1])
                      · have : g3 = wc.heap.size + 1 := by rw [hat]; simp
                        omega
              have L3 : Aside (Below w.heap.size w w3) := ((Below.refl _ _).alloc (Nat.le_refl _) _).trans (B3.out.mono (by omega))
              have HRC : Hid (rowCells ⟨a2, c2, r.k, c⟩ = [.slice a2 nk c2, .int .i64 c.n, .int .i64 c.s, .int .i64 c.lo, .int .i64 c.hi]) := by show _ = _; simp [rowCells, HNK.out]
              have HO3 : Aside (w3.ownsRow (w.heap.size + 1) 63 5 (.slice (some ⟨g3, 0, none⟩) (k + 1) cap3) (k + 1) (flatR (rs.take k) ++ rowCells ⟨a2, c2, r.k, c⟩)) := by
                show World.ownsRow _ _ _ _ _ _ _
                rw [HRC.out]; exact hown3
              have hg3l := (hown3.lt g3 rfl).1
              clear hown3 hg3 hat3 hown hC5 e0 e1 e2 e3 e4 SX
              have hk2z : (k2 : Int) ≤ (n : Int) := by omega
              have hncz : (n : Int) ≤ (cap : Int) := by omega
              by_cases hkn : k2 = n
              · subst hkn
                have HO4 := HO3.out
                by_cases hcap : cap = k2
                all_goals
                  go_wp2_with (at_builtin; refine wpList_append_zero rfl (.tmp 68) (.tmp 71) 23 rfl (w.heap.size + 1) 63 i0 5 Tryd.underlying23 hi _ _ _ rfl HO4 _ _ rfl ?_)
                  go_ret
                  refine ⟨_, rfl, XS.done HX.out H.out.1 HF.out (by rw [H.out.2.1]; omega) L3.out K3.out (v4 := .slice (some ⟨g3, 0, none⟩) (k + 1) cap3) ?_, L3.out⟩
                  rw [H.out.2.1, List.drop_of_length_le (by rw [H.out.2.1]; exact Nat.le_refl _), Nat.sub_self]
                  simpa [flatR] using HO4
              · have hk2n : k2 < rs.length := by rw [H.out.2.1]; omega
                obtain ⟨b, off, ha, -⟩ := H.out.1.get hk2n
                subst ha
                have hcap : ¬ cap = k2 := by omega
                have hnews := rows_news (H.out.1.keep L3.out) k2
                have hlen : (flatR (rs.drop k2)).length = (n - k2) * 5 := by rw [flatR_len, List.length_drop, H.out.2.1]
                have hones := flatR_one (rs.drop k2)
                have HO4 := HO3.out
                have HD : Aside (flatR (rs.drop k2) = flatR (rs.drop k2)) := rfl
                generalize hfd : flatR (rs.drop k2) = fd at hnews hlen hones
                have HFD : Hid (flatR (rs.drop k2) = fd) := hfd
                clear hfd HD
                have hsz3 : w.heap.size + 1 ≤ w3.heap.size := by have := B3.out.size; simp at this; omega
                go_wp2_with (at_builtin; refine wpList_append_lies _ rfl (.tmp 68) (.tmp 71) 23 rfl (w.heap.size + 1) 63 i0 _ 5 56 Tryd.underlying23 hi hz0 hz1 hz2 rfl (by decide) _ (k + 1) _ rfl HO4 ⟨b, off + k2 * 5, none⟩ (n - k2) (cap - k2) fd rfl hlen hnews hones (by omega) (by unfold maxLen; omega) (by omega) hsz3 _ rfl ?_; intro g4 cap4 w4 hown4 hg4 hat4 hlt4)
                go_ret
                have L4 : Below w.heap.size w w4 := L3.out.grown hg4 L3.out.size fun q hq => by have h : some g3 = some q := hq; injection h with h; omega
                refine ⟨_, rfl, XS.done HX.out H.out.1 HF.out (by rw [H.out.2.1]; omega) L4 (K3.out.grown hg4 A3.out) (v4 := .slice (some ⟨g4, 0, none⟩) (k + 1 + (n - k2)) cap4) ?_, L4⟩
                rw [H.out.2.1, HFD.out]
                exact hown4
end Go.Proofs.YtgimknplckkiaaaDoor.table
