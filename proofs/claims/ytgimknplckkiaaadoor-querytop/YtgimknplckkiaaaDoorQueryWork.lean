/-
  What the statements' walks carry: what is asked of tables of facts, and joined.
-/
import Derived.Test.YtgimknplckkiaaaDoorQueryRun
import Derived.Test.YtgimknplckkiaaaDoorQueryAsk
namespace Go.Proofs.YtgimknplckkiaaaDoor.query
open Go.ChangeShapes Go.WideShapes Go.ChangeAt Go.RowKit Go.Deep
open Go.Proofs.YtgimknplckkiaaaDoor.dims
open Go.Proofs.YtgimknplckkiaaaDoor.table
open Go.Proofs.YtgimknplckkiaaaDoor.dice (wtn wtn_iff bx bx_at bxAt cutR)
open Go.Proofs.YtgimknplckkiaaaDoor.cell (C4 In64)
set_option linter.unusedVariables false
set_option maxRecDepth 100000

theorem run_made (a p aL a1 a2 : Option Addr) (n cap m q cL c1 c2 : Nat) (ds : List Dm) (t : List PRow) (F : List PFact) (L lo hi : List Int) (w : World) (hp : Pow w) (hI : DimsIn w a ds) (hd : Dims ds n) (hT : TabL w p m q t) (hM : MT n t F) (hm : m ≤ 1000) (hF : F.length ≤ 500) (hL : Ints w aL L) (hl : Lev ds n (zeros n) L) (h1 : Ints w a1 lo) (h2 : Ints w a2 hi) (hb : Box ds n lo hi) :
    Calls Tryd.prog 11 #[.slice a n cap, .slice p m q, .agg #[.slice aL n cL, .slice a1 n c1, .slice a2 n c2]] w fun e w' => ∃ x, e = .returned x ∧ ROut w .u16 (runF ds L lo hi F).length (runT ds t L lo hi) x w' := by
  obtain ⟨rs, b1, b2, b3, b4, b5⟩ := hT
  have hn4 := hd.few
  refine (run_any a p aL a1 a2 n cap m q n cL n c1 n c2 ds rs L lo hi w hp hI hd.len (by omega) b1 b3 (by omega) hL hl.lt h1 hb.ll h2 hb.lh).mono ?_
  rintro e w1 ⟨v, rfl, hT, hbl⟩
  obtain ⟨e1, e2⟩ := MT.ran hM b2 hd.snd hd.len hl hb hF
  rw [e2] at hT
  obtain ⟨p', m', q', hv, hL', hml⟩ := hT.tabL
  refine ⟨_, rfl, ⟨p', m', q', by rw [e1, hv], hL', ?_⟩, hbl⟩
  rw [hml]
  exact rows_le (MT.run hM hl hd.len hd.snd).m
/-- a box that is none is refused -/
theorem run_none (a p aL a1 a2 : Option Addr) (n cap m q cL c1 c2 : Nat) (ds : List Dm) (t : List PRow) (L lo hi : List Int) (w : World) (hp : Pow w) (hI : DimsIn w a ds) (hd : Dims ds n) (hT : TabL w p m q t) (hm : m ≤ 1000) (hL : Ints w aL L) (hl : Lev ds n (zeros n) L) (h1 : Ints w a1 lo) (e1 : lo.length = n) (h2 : Ints w a2 hi) (e2 : hi.length = n) (hb : bx ds lo hi = false) :
    Calls Tryd.prog 11 #[.slice a n cap, .slice p m q, .agg #[.slice aL n cL, .slice a1 n c1, .slice a2 n c2]] w fun e w' => ∃ v, e = .returned (.tuple #[v, .int .u16 60]) ∧ Below w.heap.size w w' := by
  obtain ⟨rs, b1, b2, b3, b4, b5⟩ := hT
  have hn4 := hd.few
  refine (run_any a p aL a1 a2 n cap m q n cL n c1 n c2 ds rs L lo hi w hp hI hd.len (by omega) b1 b3 (by omega) hL hl.lt h1 e1 h2 e2).mono ?_
  rintro e w1 ⟨v, rfl, hT, hbl⟩
  have hc := check_60 hd.snd (lvq_lev hl hd.len) hb
  have hr := run_bad (rs := rs) (ds := ds) (L := L) (lo := lo) (hi := hi) (by rw [hc]; omega)
  exact ⟨v, by rw [hr.1, hc], hbl⟩

theorem MT.nil (n : Nat) : MT n [] [] := ⟨⟨List.Pairwise.nil, fun k => rfl⟩, ⟨fun f hf => by simp at hf, by simp⟩, fun f hf => by simp at hf⟩
theorem TabL.nil (w : World) : TabL w none 0 0 [] := ⟨[], .inl rfl, rfl, rfl, Nat.le_refl _, by omega⟩
theorem wtn_empty {n : Nat} {lo k : List Int} (h : lo.length = n) (hn : 1 ≤ n) : wtn lo lo k = false := by
  cases e : wtn lo lo k with
  | false => rfl
  | true =>
    obtain ⟨h1, -, h3⟩ := wtn_iff.1 e
    have := h3 0 (by omega)
    omega
theorem runF_empty {ds : List Dm} {n : Nat} {L lo : List Int} (h : lo.length = n) (hn : 1 ≤ n) (F : List PFact) : runF ds L lo lo F = [] := by
  unfold runF cutF
  rw [List.filter_eq_nil_iff.2 (fun f hf => by rw [wtn_empty h hn]; simp)]
  rfl
theorem box_same {ds : List Dm} {n : Nat} {lo hi : List Int} (h : Box ds n lo hi) : Box ds n lo lo := ⟨h.ll, h.ll, fun i hi => by have := h.at_ i hi; omega⟩
theorem bx_back {ds : List Dm} {n : Nat} {lo hi : List Int} (hn : ds.length = n) (h1 : 1 ≤ n) (h : nth lo 0 < nth hi 0) : bx ds hi lo = false := by
  refine bx_at (i := 0) (by omega) ?_
  unfold bxAt
  rw [decide_eq_false (p := nth hi 0 ≤ nth lo 0) (by omega)]
  simp

/-- the cells of a query's variable -/
structure Cel3 (g : Nat) (x1 x2 x3 : Value) (W : World) : Prop where
  c1 : W.cell? ⟨g, 0, none⟩ = some x1
  c2 : W.cell? ⟨g, 1, none⟩ = some x2
  c3 : W.cell? ⟨g, 2, none⟩ = some x3
theorem Cel3.keep {g : Nat} {x1 x2 x3 : Value} {W W1 : World} (h : Cel3 g x1 x2 x3 W) (hb : Below W.heap.size W W1) : Cel3 g x1 x2 x3 W1 := by
  have k : ∀ {c o : Nat} {v : Value}, W.cell? ⟨c, o, none⟩ = some v → W1.cell? ⟨c, o, none⟩ = some v := fun {c o v} hv => (hb.cell (p := ⟨c, o, none⟩) (cell_lt hv)).trans hv
  exact ⟨k h.c1, k h.c2, k h.c3⟩

theorem three_of {W0 W : World} {B : Nat} {x1 x2 x3 : Value} (hb : Below W0.heap.size W0 W) (h1 : W0.cell? ⟨B, 0, none⟩ = some x1) (h2 : W0.cell? ⟨B, 1, none⟩ = some x2) (h3 : W0.cell? ⟨B, 2, none⟩ = some x3) :
    Below W0.heap.size W0 W ∧ W.cell? ⟨B, 0, none⟩ = some x1 ∧ W.cell? ⟨B, 1, none⟩ = some x2 ∧ W.cell? ⟨B, 2, none⟩ = some x3 :=
  ⟨hb, (hb.cell (p := ⟨B, 0, none⟩) (cell_lt h1)).trans h1, (hb.cell (p := ⟨B, 1, none⟩) (cell_lt h2)).trans h2, (hb.cell (p := ⟨B, 2, none⟩) (cell_lt h3)).trans h3⟩

/-- a query in a new variable, with a new list -/
structure NW (w : World) (g : Nat) (x1 x2 x3 : Value) (p : Option Addr) (l : List Int) (W : World) : Prop where
  cel : Cel3 g x1 x2 x3 W
  ints : Ints W p l
  bel : Below w.heap.size w W
theorem NW.newA {w W : World} {x1 x2 x3 : Value} {p : Option Addr} {l : List Int} {t : TypeId} (hb : Below w.heap.size w W) (hI : Ints W p l) : NW w W.heap.size x1 x2 x3 p l (W.alloc (.cells #[x1, x2, x3] t)) := by
  have h := QB.start W x1 x2 x3 t
  exact ⟨⟨h.c1, h.c2, h.c3⟩, hI.keep h.bel, hb.trans (h.bel.mono hb.size)⟩
theorem NW.newB {w W : World} {x1 x2 x3 : Value} {p : Option Addr} {l : List Int} (hb : Below w.heap.size w W) (hI : Ints W p l) (z0 : W.cell? ⟨w.heap.size, 0, none⟩ = some (.slice none 0 0)) (z1 : W.cell? ⟨w.heap.size, 1, none⟩ = some (.slice none 0 0)) (z2 : W.cell? ⟨w.heap.size, 2, none⟩ = some (.slice none 0 0)) :
    NW w w.heap.size x1 x2 x3 p l (((W.setCell ⟨w.heap.size, 0, none⟩ x1).setCell ⟨w.heap.size, 1, none⟩ x2).setCell ⟨w.heap.size, 2, none⟩ x3) := by
  have e1 : (W.setCell ⟨w.heap.size, 0, none⟩ x1).cell? ⟨w.heap.size, 1, none⟩ = some (.slice none 0 0) := (World.cell?_setCell_other _ _ _ _ (by intro e; simp at e)).trans z1
  have e2 : ((W.setCell ⟨w.heap.size, 0, none⟩ x1).setCell ⟨w.heap.size, 1, none⟩ x2).cell? ⟨w.heap.size, 2, none⟩ = some (.slice none 0 0) := (World.cell?_setCell_other _ _ _ _ (by intro e; simp at e)).trans ((World.cell?_setCell_other _ _ _ _ (by intro e; simp at e)).trans z2)
  refine ⟨⟨?_, ?_, ?_⟩, ints_oth x3 (ints_oth x2 (ints_oth x1 hI z0) e1) e2, ((hb.setCell (Nat.le_refl _) _).setCell (Nat.le_refl _) _).setCell (Nat.le_refl _) _⟩
  · simp [go_sem, z0]
  · simp [go_sem, z1]
  · simp [go_sem, z2]
end Go.Proofs.YtgimknplckkiaaaDoor.query
