/-
  Rows that a call makes for itself, each with a key of its own; those of rows whose keys are in.
-/
import Derived.Test.YthbjfbkjbggkbaaDiceWithin
import Derived.Test.YthbjfbkjbggkbaaDiceSame
import Derived.Test.YthbjfbkjbggkbaaTableRefSame
import Derived.Test.YthbjfbkjbggkbaaTableApp
namespace Go.Proofs.Ythbjfbkjbggkbaa.dice
open Go.ChangeShapes Go.WideShapes Go.ChangeAt Go.RowKit Go.Deep
open Go.Proofs.Ythbjfbkjbggkbaa.dims
open Go.Proofs.Ythbjfbkjbggkbaa.table (Rw rwn plain PRow rowCells KeyOk TabOut flatR flatR_len flatR_snoc flatR_one rowCells_one info_row own_rows rwn_mem rwn_eq wpList_append_zero refSame_any)
open Go.Proofs.Ythbjfbkjbggkbaa.cell (C4 In64)
set_option linter.unusedVariables false
set_option maxRecDepth 100000

def cutR (p : List Int → Bool) (rs : List Rw) : List PRow := (rs.filter fun r => p r.k).map plain
theorem cutR_in {p : List Int → Bool} {l : List Rw} {r : Rw} (h : p r.k = true) : cutR p (l ++ [r]) = cutR p l ++ [plain r] := by simp [cutR, List.filter_append, h]
theorem cutR_off {p : List Int → Bool} {l : List Rw} {r : Rw} (h : p r.k = false) : cutR p (l ++ [r]) = cutR p l := by simp [cutR, List.filter_append, h]

/-- the rows so far -/
structure PK (w : World) (rs : List Rw) (p : List Int → Bool) (k : Nat) (os : List Rw) (v : Value) (W : World) : Prop where
  own : W.ownsRow w.heap.size 47 5 v os.length (flatR os)
  key : ∀ i, i < os.length → W.ownsRow w.heap.size 3 1 (.slice (rwn os i).a (rwn os i).k.length (rwn os i).cap) (rwn os i).k.length (vals (rwn os i).k)
  wf : ∀ r ∈ os, ∀ x ∈ r.k, In64 x
  eqp : os.map plain = cutR p (rs.take k)
  bel : Below w.heap.size w W

theorem PK.start (w : World) (rs : List Rw) (p : List Int → Bool) : PK w rs p 0 [] (.slice none 0 0) w := ⟨World.ownsRow_nil _ _ _ _, fun i hi => by simp at hi, by simp, by simp [cutR], Below.refl _ _⟩
theorem PK.keep {w W W' : World} {rs : List Rw} {p : List Int → Bool} {k : Nat} {os : List Rw} {v : Value} (h : PK w rs p k os v W) (hb : Below W.heap.size W W') : PK w rs p k os v W' := ⟨own_below h.own hb, fun i hi => own_below (h.key i hi) hb, h.wf, h.eqp, h.bel.trans (hb.mono h.bel.size)⟩
theorem PK.skip {w W : World} {rs : List Rw} {p : List Int → Bool} {k : Nat} {os : List Rw} {v : Value} (h : PK w rs p k os v W) (hk : k < rs.length) (hp : p (rwn rs k).k = false) : PK w rs p (k + 1) os v W := by
  refine ⟨h.own, h.key, h.wf, ?_, h.bel⟩
  rw [rwn_eq hk] at hp
  rw [h.eqp, List.take_succ_eq_append_getElem hk, cutR_off hp]
theorem rwn_snoc_lt {os : List Rw} {r : Rw} {i : Nat} (h : i < os.length) : rwn (os ++ [r]) i = rwn os i := by simp [rwn, List.getElem?_append_left h]
theorem rwn_snoc_eq {os : List Rw} {r : Rw} : rwn (os ++ [r]) os.length = r := by simp [rwn]

theorem PK.push {w W W' : World} {rs : List Rw} {p : List Int → Bool} {k : Nat} {os : List Rw} {v v' : Value} {r : Rw} (h : PK w rs p k os v W) (hk : k < rs.length) (hp : p (rwn rs k).k = true) (hr : plain r = plain (rwn rs k)) (hw : ∀ x ∈ r.k, In64 x)
    (hd : W.ownsRow w.heap.size 3 1 (.slice r.a r.k.length r.cap) r.k.length (vals r.k))
    (ho : W'.ownsRow w.heap.size 47 5 v' (os.length + 1) (flatR os ++ rowCells r)) (hg : W.grownBy W' v.ownBlock) : PK w rs p (k + 1) (os ++ [r]) v' W' := by
  refine ⟨by rw [flatR_snoc]; simpa using ho, fun i hi => ?_, ?_, ?_, h.bel.grown hg h.bel.size fun q hq => (h.own.lt q hq).1⟩
  · simp only [List.length_append, List.length_singleton] at hi
    by_cases e : i = os.length
    · subst e
      rw [rwn_snoc_eq]
      exact hd.kept hg (own_apart hd h.own (by decide))
    · rw [rwn_snoc_lt (by omega)]
      exact (h.key i (by omega)).kept hg (own_apart (h.key i (by omega)) h.own (by decide))
  · intro q hq
    rcases List.mem_append.1 hq with hq | hq
    · exact h.wf q hq
    · simp at hq; subst hq; exact hw
  · rw [rwn_eq hk] at hp hr
    rw [List.map_append, h.eqp, List.take_succ_eq_append_getElem hk, cutR_in hp, ← hr]; rfl

theorem PK.out {w W : World} {rs : List Rw} {p : List Int → Bool} {k : Nat} {os : List Rw} {v : Value} (h : PK w rs p k os v W) (hk : rs.length ≤ k) : TabOut W v (cutR p rs) := by
  have e := h.eqp
  rw [List.take_of_length_le hk] at e
  rw [← e]
  refine own_rows h.own fun i hi => ?_
  have hd := h.key i hi
  obtain ⟨a2, cap2, e2, hI2, hc2⟩ := (own_out hd).1
  simp only [Value.slice.injEq] at e2
  obtain ⟨e1, -, e3⟩ := e2
  rw [e1, e3]
  refine ⟨hI2, rfl, hc2, ?_, h.wf _ (rwn_mem hi)⟩
  rcases hd.2 with ⟨h3, h4⟩ | ⟨g3, cap3, cur3, hv3, _, _, hc3, hm3, _⟩
  · simp only [Value.slice.injEq] at h3
    omega
  · simp only [Value.slice.injEq] at hv3
    have := maxLen_le
    omega

theorem cells_five_new (w : World) (v1 v2 v3 v4 v5 : Value) (t : TypeId) : ∀ j u, [v1, v2, v3, v4, v5][j]? = some u → (w.alloc (.cells #[v1, v2, v3, v4, v5] t)).cell? ((⟨w.heap.size, 0, none⟩ : Addr).add j) = some u := by
  intro j u hj
  match j, hj with
  | 0, hj => simp at hj; subst hj; simp [Addr.add, go_sem]
  | 1, hj => simp at hj; subst hj; simp [Addr.add, go_sem]
  | 2, hj => simp at hj; subst hj; simp [Addr.add, go_sem]
  | 3, hj => simp at hj; subst hj; simp [Addr.add, go_sem]
  | 4, hj => simp at hj; subst hj; simp [Addr.add, go_sem]
  | j + 5, hj => simp at hj

theorem dsame_at (B : Nat) (a : Option Addr) (n c : Nat) (l : List Int) (w : World) (hI : Ints w a l) (hn : l.length = n) (hm : n ≤ 100000) (hB : B ≤ w.heap.size) :
    Calls Try.prog 26 #[.slice a n c] w fun e w' => ∃ g, e = .returned (.slice (some ⟨g, 0, none⟩) n n) ∧ w'.ownsRow B 3 1 (.slice (some ⟨g, 0, none⟩) n n) n (vals l) ∧ Below w.heap.size w w' :=
  (dsame_any a n c l w hI hn hm).mono fun e w' ⟨h1, h2, h3⟩ => ⟨_, h1, own_mono h2 hB, h3⟩

/-- what is asked of the function that tells which rows are in -/
def Asks (w : World) (g : Nat) (cb : Array Value) (p : List Int → Bool) (rs : List Rw) : Prop :=
  ∀ W r, Below w.heap.size w W → r ∈ rs → Calls Try.prog g (#[.slice r.a r.k.length r.cap] ++ cb) W fun e W' => e = .returned (.bool (p r.k)) ∧ Below W.heap.size W W'

theorem six_keep {W0 W w' : World} {B b : Nat} {x0 x1 x2 x3 x4 : Value} (hb : Below W.heap.size W w')
    (h : Below B W0 W ∧ B ≤ W.heap.size ∧ W.cell? ⟨b, 0, none⟩ = some x0 ∧ W.cell? ⟨b, 1, none⟩ = some x1 ∧ W.cell? ⟨b, 2, none⟩ = some x2 ∧ W.cell? ⟨b, 3, none⟩ = some x3 ∧ W.cell? ⟨b, 4, none⟩ = some x4) :
    Below B W0 w' ∧ B ≤ w'.heap.size ∧ w'.cell? ⟨b, 0, none⟩ = some x0 ∧ w'.cell? ⟨b, 1, none⟩ = some x1 ∧ w'.cell? ⟨b, 2, none⟩ = some x2 ∧ w'.cell? ⟨b, 3, none⟩ = some x3 ∧ w'.cell? ⟨b, 4, none⟩ = some x4 := by
  obtain ⟨g0, g1, h0, h1, h2, h3, h4⟩ := h
  have k : ∀ {c o : Nat} {v : Value}, W.cell? ⟨c, o, none⟩ = some v → w'.cell? ⟨c, o, none⟩ = some v := fun {c o v} hv => (hb.cell (p := ⟨c, o, none⟩) (cell_lt hv)).trans hv
  exact ⟨g0.trans (hb.mono g1), Nat.le_trans g1 hb.size, k h0, k h1, k h2, k h3, k h4⟩
theorem six_grown {W0 W w' : World} {B b : Nat} {x0 x1 x2 x3 x4 : Value} {row : Option Nat} (hg : W.grownBy w' row) (hr : ∀ q, row = some q → B ≤ q) (hne : row ≠ some b)
    (h : Below B W0 W ∧ B ≤ W.heap.size ∧ W.cell? ⟨b, 0, none⟩ = some x0 ∧ W.cell? ⟨b, 1, none⟩ = some x1 ∧ W.cell? ⟨b, 2, none⟩ = some x2 ∧ W.cell? ⟨b, 3, none⟩ = some x3 ∧ W.cell? ⟨b, 4, none⟩ = some x4) :
    Below B W0 w' ∧ B ≤ w'.heap.size ∧ w'.cell? ⟨b, 0, none⟩ = some x0 ∧ w'.cell? ⟨b, 1, none⟩ = some x1 ∧ w'.cell? ⟨b, 2, none⟩ = some x2 ∧ w'.cell? ⟨b, 3, none⟩ = some x3 ∧ w'.cell? ⟨b, 4, none⟩ = some x4 := by
  obtain ⟨g0, g1, h0, h1, h2, h3, h4⟩ := h
  have k : ∀ {o : Nat} {v : Value}, W.cell? ⟨b, o, none⟩ = some v → w'.cell? ⟨b, o, none⟩ = some v := fun {o v} hv => (World.cell?_of_block (a := ⟨b, o, none⟩) (hg.block b (cell_lt hv) (fun e => hne e.symm))).trans hv
  exact ⟨g0.grown hg g1 hr, Nat.le_trans g1 hg.size, k h0, k h1, k h2, k h3, k h4⟩
end Go.Proofs.Ythbjfbkjbggkbaa.dice
