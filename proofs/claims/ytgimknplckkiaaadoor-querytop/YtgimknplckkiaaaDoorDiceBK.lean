/-
  Rows that a call makes for itself, each with a key of its own; those of rows whose keys are in.
  The contracts of dice.pick and of dice.Cut: rows whose keys are in.
  The contracts of dice.Cut and of the chapter's Cut: the rows that are in a box.
-/
import Derived.Test.YtgimknplckkiaaaDoorDiceAK
import Derived.Test.YtgimknplckkiaaaDoorTableAK
import Derived.Shelf.Abstract
namespace Go.Proofs.YtgimknplckkiaaaDoor.dice
open Go.ChangeShapes Go.WideShapes Go.ChangeAt Go.RowKit Go.Deep
open Go.Proofs.YtgimknplckkiaaaDoor.dims
open Go.Proofs.YtgimknplckkiaaaDoor.table (Rw rwn plain PRow rowCells KeyOk TabOut flatR flatR_len flatR_snoc flatR_one rowCells_one info_row own_rows rwn_mem rwn_eq wpList_append_zero refSame_any)
open Go.Proofs.YtgimknplckkiaaaDoor.cell (C4 In64)
set_option linter.unusedVariables false
set_option maxRecDepth 100000

def cutR (p : List Int → Bool) (rs : List Rw) : List PRow := (rs.filter fun r => p r.k).map plain
theorem cutR_in {p : List Int → Bool} {l : List Rw} {r : Rw} (h : p r.k = true) : cutR p (l ++ [r]) = cutR p l ++ [plain r] := by simp [cutR, List.filter_append, h]
theorem cutR_off {p : List Int → Bool} {l : List Rw} {r : Rw} (h : p r.k = false) : cutR p (l ++ [r]) = cutR p l := by simp [cutR, List.filter_append, h]

/-- the rows so far -/
structure PK (w : World) (rs : List Rw) (p : List Int → Bool) (k : Nat) (os : List Rw) (v : Value) (W : World) : Prop where
  own : W.ownsRow w.heap.size 63 5 v os.length (flatR os)
  key : ∀ i, i < os.length → W.ownsRow w.heap.size 3 1 (.slice (rwn os i).a (rwn os i).k.length (rwn os i).cap) (rwn os i).k.length (vals (rwn os i).k)
  wf : ∀ r ∈ os, ∀ x ∈ r.k, In64 x
  eqp : os.map plain = cutR p (rs.take k)
  bel : Below w.heap.size w W

theorem PK.start (w : World) (rs : List Rw) (p : List Int → Bool) : PK w rs p 0 [] (.slice none 0 0) w := ⟨World.ownsRow_nil _ _ _ _, fun i hi => by simp at hi, by simp, by simp [cutR], Below.refl _ _⟩
theorem PK.keep {w W W' : World} {rs : List Rw} {p : List Int → Bool} {k : Nat} {os : List Rw} {v : Value} (h : PK w rs p k os v W) (hb : Below W.heap.size W W') : PK w rs p k os v W' := ⟨own_below h.own hb, fun i hi => own_below (h.key i hi) hb, h.wf, h.eqp, h.bel.trans (hb.mono h.bel.size)⟩
theorem PK.skip {w W : World} {rs : List Rw} {p : List Int → Bool} {k : Nat} {os : List Rw} {v : Value} (h : PK w rs p k os v W) (hk : k < rs.length) (hp : p (rwn rs k).k = false) : PK w rs p (k + 1) os v W := by
  refine ⟨h.own, h.key, h.wf, ?_, h.bel⟩
  rw [rwn_eq hk] at hp
  rw [h.eqp, List.take_succ_eq_append_getElem hk, cutR_off hp]
theorem rwn_snoc_lt {os : List Rw} {r : Rw} {i : Nat} (h : i < os.length) : rwn (os ++ [r]) i = rwn os i := by simp [rwn, List.getElem?_append_left h]
theorem rwn_snoc_eq {os : List Rw} {r : Rw} : rwn (os ++ [r]) os.length = r := by simp [rwn]

theorem PK.push {w W W' : World} {rs : List Rw} {p : List Int → Bool} {k : Nat} {os : List Rw} {v v' : Value} {r : Rw} (h : PK w rs p k os v W) (hk : k < rs.length) (hp : p (rwn rs k).k = true) (hr : plain r = plain (rwn rs k)) (hw : ∀ x ∈ r.k, In64 x)
    (hd : W.ownsRow w.heap.size 3 1 (.slice r.a r.k.length r.cap) r.k.length (vals r.k))
    (ho : W'.ownsRow w.heap.size 63 5 v' (os.length + 1) (flatR os ++ rowCells r)) (hg : W.grownBy W' v.ownBlock) : PK w rs p (k + 1) (os ++ [r]) v' W' := by
  refine ⟨by rw [flatR_snoc]; simpa using ho, fun i hi => ?_, ?_, ?_, h.bel.grown hg h.bel.size fun q hq => (h.own.lt q hq).1⟩
  · simp only [List.length_append, List.length_singleton] at hi
    by_cases e : i = os.length
    · subst e
      rw [rwn_snoc_eq]
      exact hd.kept hg (own_apart hd h.own (by decide))
    · rw [rwn_snoc_lt (by omega)]
      exact (h.key i (by omega)).kept hg (own_apart (h.key i (by omega)) h.own (by decide))
  · intro q hq
    rcases List.mem_append.1 hq with hq | hq
    · exact h.wf q hq
    · simp at hq; subst hq; exact hw
  · rw [rwn_eq hk] at hp hr
    rw [List.map_append, h.eqp, List.take_succ_eq_append_getElem hk, cutR_in hp, ← hr]; rfl

theorem PK.out {w W : World} {rs : List Rw} {p : List Int → Bool} {k : Nat} {os : List Rw} {v : Value} (h : PK w rs p k os v W) (hk : rs.length ≤ k) : TabOut W v (cutR p rs) := by
  have e := h.eqp
  rw [List.take_of_length_le hk] at e
  rw [← e]
  refine own_rows h.own fun i hi => ?_
  have hd := h.key i hi
  obtain ⟨a2, cap2, e2, hI2, hc2⟩ := (own_out hd).1
  simp only [Value.slice.injEq] at e2
  obtain ⟨e1, -, e3⟩ := e2
  rw [e1, e3]
  refine ⟨hI2, rfl, hc2, ?_, h.wf _ (rwn_mem hi)⟩
  rcases hd.2 with ⟨h3, h4⟩ | ⟨g3, cap3, cur3, hv3, _, _, hc3, hm3, _⟩
  · simp only [Value.slice.injEq] at h3
    omega
  · simp only [Value.slice.injEq] at hv3
    have := maxLen_le
    omega

theorem cells_five_new (w : World) (v1 v2 v3 v4 v5 : Value) (t : TypeId) : ∀ j u, [v1, v2, v3, v4, v5][j]? = some u → (w.alloc (.cells #[v1, v2, v3, v4, v5] t)).cell? ((⟨w.heap.size, 0, none⟩ : Addr).add j) = some u := by
  intro j u hj
  match j, hj with
  | 0, hj => simp at hj; subst hj; simp [Addr.add, go_sem]
  | 1, hj => simp at hj; subst hj; simp [Addr.add, go_sem]
  | 2, hj => simp at hj; subst hj; simp [Addr.add, go_sem]
  | 3, hj => simp at hj; subst hj; simp [Addr.add, go_sem]
  | 4, hj => simp at hj; subst hj; simp [Addr.add, go_sem]
  | j + 5, hj => simp at hj

theorem dsame_at (B : Nat) (a : Option Addr) (n c : Nat) (l : List Int) (w : World) (hI : Ints w a l) (hn : l.length = n) (hm : n ≤ 100000) (hB : B ≤ w.heap.size) :
    Calls Tryd.prog 77 #[.slice a n c] w fun e w' => ∃ g, e = .returned (.slice (some ⟨g, 0, none⟩) n n) ∧ w'.ownsRow B 3 1 (.slice (some ⟨g, 0, none⟩) n n) n (vals l) ∧ Below w.heap.size w w' :=
  (dsame_any a n c l w hI hn hm).mono fun e w' ⟨h1, h2, h3⟩ => ⟨_, h1, own_mono h2 hB, h3⟩

/-- what is asked of the function that tells which rows are in -/
def Asks (w : World) (g : Nat) (cb : Array Value) (p : List Int → Bool) (rs : List Rw) : Prop :=
  ∀ W r, Below w.heap.size w W → r ∈ rs → Calls Tryd.prog g (#[.slice r.a r.k.length r.cap] ++ cb) W fun e W' => e = .returned (.bool (p r.k)) ∧ Below W.heap.size W W'

theorem six_keep {W0 W w' : World} {B b : Nat} {x0 x1 x2 x3 x4 : Value} (hb : Below W.heap.size W w')
    (h : Below B W0 W ∧ B ≤ W.heap.size ∧ W.cell? ⟨b, 0, none⟩ = some x0 ∧ W.cell? ⟨b, 1, none⟩ = some x1 ∧ W.cell? ⟨b, 2, none⟩ = some x2 ∧ W.cell? ⟨b, 3, none⟩ = some x3 ∧ W.cell? ⟨b, 4, none⟩ = some x4) :
    Below B W0 w' ∧ B ≤ w'.heap.size ∧ w'.cell? ⟨b, 0, none⟩ = some x0 ∧ w'.cell? ⟨b, 1, none⟩ = some x1 ∧ w'.cell? ⟨b, 2, none⟩ = some x2 ∧ w'.cell? ⟨b, 3, none⟩ = some x3 ∧ w'.cell? ⟨b, 4, none⟩ = some x4 := by
  obtain ⟨g0, g1, h0, h1, h2, h3, h4⟩ := h
  have k : ∀ {c o : Nat} {v : Value}, W.cell? ⟨c, o, none⟩ = some v → w'.cell? ⟨c, o, none⟩ = some v := fun {c o v} hv => (hb.cell (p := ⟨c, o, none⟩) (cell_lt hv)).trans hv
  exact ⟨g0.trans (hb.mono g1), Nat.le_trans g1 hb.size, k h0, k h1, k h2, k h3, k h4⟩
theorem six_grown {W0 W w' : World} {B b : Nat} {x0 x1 x2 x3 x4 : Value} {row : Option Nat} (hg : W.grownBy w' row) (hr : ∀ q, row = some q → B ≤ q) (hne : row ≠ some b)
    (h : Below B W0 W ∧ B ≤ W.heap.size ∧ W.cell? ⟨b, 0, none⟩ = some x0 ∧ W.cell? ⟨b, 1, none⟩ = some x1 ∧ W.cell? ⟨b, 2, none⟩ = some x2 ∧ W.cell? ⟨b, 3, none⟩ = some x3 ∧ W.cell? ⟨b, 4, none⟩ = some x4) :
    Below B W0 w' ∧ B ≤ w'.heap.size ∧ w'.cell? ⟨b, 0, none⟩ = some x0 ∧ w'.cell? ⟨b, 1, none⟩ = some x1 ∧ w'.cell? ⟨b, 2, none⟩ = some x2 ∧ w'.cell? ⟨b, 3, none⟩ = some x3 ∧ w'.cell? ⟨b, 4, none⟩ = some x4 := by
  obtain ⟨g0, g1, h0, h1, h2, h3, h4⟩ := h
  have k : ∀ {o : Nat} {v : Value}, W.cell? ⟨b, o, none⟩ = some v → w'.cell? ⟨b, o, none⟩ = some v := fun {o v} hv => (World.cell?_of_block (a := ⟨b, o, none⟩) (hg.block b (cell_lt hv) (fun e => hne e.symm))).trans hv
  exact ⟨g0.grown hg g1 hr, Nat.le_trans g1 hg.size, k h0, k h1, k h2, k h3, k h4⟩
end Go.Proofs.YtgimknplckkiaaaDoor.dice

namespace Go.Proofs.YtgimknplckkiaaaDoor.dice
open Go.ChangeShapes Go.WideShapes Go.ChangeAt Go.RowKit Go.Deep
open Go.Proofs.YtgimknplckkiaaaDoor.dims
open Go.Proofs.YtgimknplckkiaaaDoor.table (Rw rwn plain PRow rowCells KeyOk TabOut flatR flatR_len flatR_snoc flatR_one rowCells_one info_row own_rows rwn_mem rwn_eq wpList_append_zero refSame_any)
open Go.Proofs.YtgimknplckkiaaaDoor.cell (C4 In64)
set_option linter.unusedVariables false
set_option maxRecDepth 100000

set_option maxHeartbeats 8000000 in
theorem pick_any (a : Option Addr) (n cap : Nat) (rs : List Rw) (g : Nat) (cb : Array Value) (p : List Int → Bool) (w : World) (hR : table.RowsIn w a rs) (hn : rs.length = n) (hn2 : n ≤ 100000) (hk : ∀ r ∈ rs, r.k.length ≤ 100000)
    (eg : ∀ args w, (callFunc g args).run Tryd.prog w = .ok (.enter g args) w) (hT : Asks w g cb p rs) :
    Calls Tryd.prog 50 #[.slice a n cap, .func (.func g) #[] cb] w fun e w' => ∃ v, e = .returned v ∧ TabOut w' v (cutR p rs) ∧ Below w.heap.size w w' := by
  obtain ⟨i0, hi, hz0, hz1, hz2⟩ := info_parts info_row
  have HH : Aside (table.RowsIn w a rs ∧ rs.length = n ∧ Asks w g cb p rs ∧ ∀ r ∈ rs, r.k.length ≤ 100000) := ⟨hR, hn, hT, hk⟩
  clear hR hn hT hk
  go_enter Tryd.func50, Tryd.ntmps50
  go_wp2_with fail
  go_loopg [5, 7, 10] n (fun g1 v s vi wr => ∃ (k : Nat) (os : List Rw), vi = .int .i64 k ∧ k ≤ n ∧ n - k ≤ g1 ∧ os.length ≤ k ∧ Aside (PK w rs p k os v wr))
  case atStart => exact ⟨0, [], rfl, Nat.zero_le _, Nat.le_refl _, Nat.le_refl _, PK.start w rs p⟩
  case round =>
    obtain ⟨k, os, rfl, hk, hg1, hol, SK⟩ := hrel
    by_cases hlt : k < n
    · have hltz : (k : Int) < (n : Int) := by omega
      have hkl : k < rs.length := by rw [HH.out.2.1]; exact hlt
      obtain ⟨b, off, ha, hc⟩ := (HH.out.1.keep SK.out.bel).get hkl
      subst ha
      obtain ⟨⟨r0, r1, r2, r3, r4⟩, K0⟩ := hc k hkl
      clear hc
      have hT := fun o => HH.out.2.2.1 (wr.alloc o) (rwn rs k) (SK.out.bel.alloc SK.out.bel.size o) (rwn_mem hkl)
      have hkm := HH.out.2.2.2 _ (rwn_mem hkl)
      have KV : Aside (Ints w (rwn rs k).a (rwn rs k).k ∧ ∀ x ∈ (rwn rs k).k, In64 x) := by
        obtain ⟨b', off', ha', hc'⟩ := HH.out.1.get hkl
        exact ⟨(hc' k hkl).2.mem, K0.wf⟩
      clear K0
      cases hpk : p (rwn rs k).k with
      | false =>
        rw [hpk] at hT
        have SS : Aside (PK w rs p (k + 1) os u5 wr) := SK.out.skip hkl hpk
        clear hpk KV SK
        generalize rwn rs k = r at r0 r1 r2 r3 r4 hT
        generalize r.k.length = nk at r0 hT
        go_wp2_with fail
        refine (hT _).mono ?_
        rintro e w2 ⟨rfl, hb2⟩
        have S2 : Aside (PK w rs p (k + 1) os u5 w2) := SS.out.keep (((Below.refl _ _).alloc (Nat.le_refl _) _).trans (hb2.mono (by simp)))
        clear hb2 SS hT
        go_wp2
        go_roundg (n - (k + 1))
        case measure => omega
        case rel => exact ⟨k + 1, os, by go_num, by omega, by omega, by omega, S2⟩
      | true =>
        rw [hpk] at hT
        have PP : Aside (p (rwn rs k).k = true) := hpk
        clear hpk
        obtain ⟨r, hr⟩ : ∃ r, rwn rs k = r := ⟨_, rfl⟩
        rw [hr] at r0 r1 r2 r3 r4 hT KV hkm PP
        have HR : Hid (rwn rs k = r) := hr
        clear hr
        obtain ⟨nk, hnk⟩ : ∃ nk, r.k.length = nk := ⟨_, rfl⟩
        rw [hnk] at r0 hT hkm
        have HNK : Hid (r.k.length = nk) := hnk
        clear hnk
        go_wp2_with fail
        refine (hT _).mono ?_
        rintro e w2 ⟨rfl, hb2⟩
        have hlt2 : wr.heap.size < (wr.alloc (.cells #[.slice r.a nk r.cap, .int .i64 r.c.n, .int .i64 r.c.s, .int .i64 r.c.lo, .int .i64 r.c.hi] 63)).heap.size := by simp
        have d0 : w2.cell? ⟨wr.heap.size, 0, none⟩ = some (.slice r.a nk r.cap) := (hb2.cell (p := ⟨wr.heap.size, 0, none⟩) hlt2).trans (by simp [go_sem])
        have d1 : w2.cell? ⟨wr.heap.size, 1, none⟩ = some (.int .i64 r.c.n) := (hb2.cell (p := ⟨wr.heap.size, 1, none⟩) hlt2).trans (by simp [go_sem])
        have d2 : w2.cell? ⟨wr.heap.size, 2, none⟩ = some (.int .i64 r.c.s) := (hb2.cell (p := ⟨wr.heap.size, 2, none⟩) hlt2).trans (by simp [go_sem])
        have d3 : w2.cell? ⟨wr.heap.size, 3, none⟩ = some (.int .i64 r.c.lo) := (hb2.cell (p := ⟨wr.heap.size, 3, none⟩) hlt2).trans (by simp [go_sem])
        have d4 : w2.cell? ⟨wr.heap.size, 4, none⟩ = some (.int .i64 r.c.hi) := (hb2.cell (p := ⟨wr.heap.size, 4, none⟩) hlt2).trans (by simp [go_sem])
        have hbA : Below wr.heap.size wr w2 := ((Below.refl _ _).alloc (Nat.le_refl _) _).trans (hb2.mono (by simp))
        have S2 : Aside (PK w rs p k os u5 w2) := SK.out.keep hbA
        have hbq : ∀ q, u5.ownBlock = some q → w.heap.size ≤ q := fun q hq => (SK.out.own.lt q hq).1
        have hneb : u5.ownBlock ≠ some wr.heap.size := fun e => by have := (SK.out.own.lt _ e).2; omega
        have PU : Aside (∀ W W' g q c4, PK w rs p k os u5 W → W.ownsRow w.heap.size 3 1 (.slice (some ⟨g, 0, none⟩) nk nk) nk (vals r.k) → W'.ownsRow w.heap.size 63 5 (.slice (some ⟨q, 0, none⟩) (os.length + 1) c4) (os.length + 1) (flatR os ++ [.slice (some ⟨g, 0, none⟩) nk nk, .int .i64 r.c.n, .int .i64 r.c.s, .int .i64 r.c.lo, .int .i64 r.c.hi]) → W.grownBy W' u5.ownBlock → PK w rs p (k + 1) (os ++ [⟨some ⟨g, 0, none⟩, nk, r.k, r.c⟩]) (.slice (some ⟨q, 0, none⟩) (os.length + 1) c4) W') := fun W W' g q c4 hP hd ho hg => by
          refine hP.push (r := ⟨some ⟨g, 0, none⟩, nk, r.k, r.c⟩) hkl (by rw [HR.out]; exact PP.out) (by rw [HR.out]; rfl) KV.out.2 ?_ ?_ hg
          · show W.ownsRow w.heap.size 3 1 (.slice (some ⟨g, 0, none⟩) r.k.length nk) r.k.length (vals r.k)
            rw [HNK.out]; exact hd
          · show W'.ownsRow w.heap.size 63 5 _ (os.length + 1) (flatR os ++ [.slice (some ⟨g, 0, none⟩) r.k.length nk, _, _, _, _])
            rw [HNK.out]; exact ho
        have KW : Aside (∀ W, Below w.heap.size w2 W → Ints W r.a r.k) := fun W hW => KV.out.1.keep (S2.out.bel.trans hW)
        clear hlt2 hb2 hbA SK hT r0 r1 r2 r3 r4
        generalize wr.heap.size = rb at d0 d1 d2 d3 d4 hneb ⊢
        generalize r.c.n = e1 at d1 PU
        generalize r.c.s = e2 at d2 PU
        generalize r.c.lo = e3 at d3 PU
        generalize r.c.hi = e4 at d4 PU
        have hown := S2.out.own
        have hsz := S2.out.bel.size
        have hbl := S2.out.bel
        go_wp2_with fail
        go_region_held_law (fun w' => Below w.heap.size w2 w' ∧ w.heap.size ≤ w'.heap.size ∧ w'.cell? ⟨rb, 0, none⟩ = some (.slice r.a nk r.cap) ∧ w'.cell? ⟨rb, 1, none⟩ = some (.int .i64 e1) ∧ w'.cell? ⟨rb, 2, none⟩ = some (.int .i64 e2) ∧ w'.cell? ⟨rb, 3, none⟩ = some (.int .i64 e3) ∧ w'.cell? ⟨rb, 4, none⟩ = some (.int .i64 e4))
          (first | assumption | (exact ⟨(Below.refl _ _).drew, hsz, d0, d1, d2, d3, d4⟩) | (exact ⟨Below.refl _ _, hsz, d0, d1, d2, d3, d4⟩) | (refine six_keep (W0 := w2) (B := w.heap.size) (b := rb) (x0 := .slice r.a nk r.cap) (x1 := .int .i64 e1) (x2 := .int .i64 e2) (x3 := .int .i64 e3) (x4 := .int .i64 e4) hb3 ?_; assumption) | (refine six_keep (W0 := w2) (B := w.heap.size) (b := rb) (x0 := .slice r.a nk r.cap) (x1 := .int .i64 e1) (x2 := .int .i64 e2) (x3 := .int .i64 e3) (x4 := .int .i64 e4) ((Below.refl _ _).alloc (Nat.le_refl _) _) ?_; assumption) | (refine six_grown (W0 := w2) (B := w.heap.size) (b := rb) (x0 := .slice r.a nk r.cap) (x1 := .int .i64 e1) (x2 := .int .i64 e2) (x3 := .int .i64 e3) (x4 := .int .i64 e4) hgrow hbq hneb ?_; assumption))
          (first | (go_at_call 77; refine (dsame_at w.heap.size _ _ _ _ _ (KW.out _ (by apply And.left; assumption)) HNK.out hkm (by apply And.left; apply And.right; assumption)).mono ?_; rintro e w3 ⟨gk, rfl, ho3, hb3⟩) | (refine step_append_lies _ rfl (.tmp 18) (.tmp 25) 23 rfl w.heap.size 63 i0 _ 5 56 Tryd.underlying23 hi hz0 hz1 hz2 rfl (by decide) _ os.length (flatR os) rfl ((own_below hown.drew hb3).alloc _) ⟨w3.heap.size, 0, none⟩ 1 1 [.slice (some ⟨gk, 0, none⟩) nk nk, .int .i64 e1, .int .i64 e2, .int .i64 e3, .int .i64 e4] rfl rfl (cells_five_new _ _ _ _ _ _ _) (by intro u hu; simp at hu; rcases hu with rfl | rfl | rfl | rfl | rfl <;> rfl) (by decide) (by unfold maxLen; omega) (by omega) (by have := hb3.size; have e : w2.drew.heap.size = w2.heap.size := rfl; simp; omega) _ rfl ?_; intro g4 cap4 w4 hown4 hgrow hat hglt))
        have S4 : Aside (PK w rs p (k + 1) (os ++ [⟨some ⟨gk, 0, none⟩, nk, r.k, r.c⟩]) (.slice (some ⟨g4, 0, none⟩) (os.length + 1) cap4) w4) := by
          have hb : Below w2.heap.size w2 w3 := ((Below.refl _ _).drew).trans hb3
          exact PU.out _ w4 gk g4 cap4 ((S2.out.keep hb).keep ((Below.refl _ _).alloc (Nat.le_refl _) _)) (ho3.alloc _) hown4 hgrow
        clear PU ho3 hb3 hown4 hgrow hat hglt S2 hown
        go_wp2
        go_roundg (n - (k + 1))
        case measure => omega
        case rel => exact ⟨k + 1, _, by go_num, by omega, by omega, by simp; omega, S4⟩
    · have hltz : ¬ (k : Int) < (n : Int) := by omega
      have HR : Aside (TabOut wr u5 (cutR p rs) ∧ Below w.heap.size w wr) := ⟨SK.out.out (by rw [HH.out.2.1]; omega), SK.out.bel⟩
      clear SK
      go_wp2
      go_ret
      exact ⟨_, rfl, HR.out.1, HR.out.2⟩
end Go.Proofs.YtgimknplckkiaaaDoor.dice

namespace Go.Proofs.YtgimknplckkiaaaDoor.dice
open Go.ChangeShapes Go.WideShapes Go.ChangeAt Go.RowKit Go.Deep
open Go.Proofs.YtgimknplckkiaaaDoor.dims
open Go.Proofs.YtgimknplckkiaaaDoor.table (Rw rwn plain PRow rowCells KeyOk TabOut flatR flatR_len flatR_snoc flatR_one rowCells_one info_row own_rows rwn_mem rwn_eq wpList_append_zero refSame_any)
open Go.Proofs.YtgimknplckkiaaaDoor.cell (C4 In64)
set_option linter.unusedVariables false
set_option maxRecDepth 100000

set_option maxHeartbeats 2000000 in
theorem closure_cut (b1 b2 : Nat) (a1 a2 a3 : Option Addr) (n1 n2 n3 c1 c2 c3 : Nat) (lo up key : List Int) (w : World) (d1 : w.cell? ⟨b1, 0, none⟩ = some (.slice a1 n1 c1)) (d2 : w.cell? ⟨b2, 0, none⟩ = some (.slice a2 n2 c2)) (h1 : Ints w a1 lo) (e1 : lo.length = n1) (h2 : Ints w a2 up) (e2 : up.length = n2) (h3 : Ints w a3 key) (e3 : key.length = n3) (hm : n3 ≤ 9223372036854775807) :
    Calls Tryd.prog 51 #[.slice a3 n3 c3, .pointer (some ⟨b1, 0, none⟩), .pointer (some ⟨b2, 0, none⟩)] w fun e w' => e = .returned (.bool (wtn lo up key)) ∧ Below w.heap.size w w' := by
  have hC := within_any a1 a2 a3 n1 n2 n3 c1 c2 c3 lo up key w h1 e1 h2 e2 h3 e3 hm
  clear h1 h2 h3 e1 e2 e3
  go_enter Tryd.func51, Tryd.ntmps51
  go_wp2_with fail
  refine hC.mono ?_
  rintro e w1 ⟨rfl, hb1⟩
  have B1 : Aside _ := hb1
  clear hb1 hC
  go_wp2
  go_ret
  exact ⟨rfl, B1.out⟩

set_option maxHeartbeats 4000000 in
theorem cut_any (a a1 a2 : Option Addr) (n cap n1 n2 c1 c2 : Nat) (rs : List Rw) (lo up : List Int) (w : World) (hR : table.RowsIn w a rs) (hn : rs.length = n) (hn2 : n ≤ 100000) (hk : ∀ r ∈ rs, r.k.length ≤ 100000) (h1 : Ints w a1 lo) (e1 : lo.length = n1) (h2 : Ints w a2 up) (e2 : up.length = n2) :
    Calls Tryd.prog 27 #[.slice a n cap, .slice a1 n1 c1, .slice a2 n2 c2] w fun e w' => ∃ v, e = .returned v ∧ TabOut w' v (cutR (wtn lo up) rs) ∧ Below w.heap.size w w' := by
  have hb : Below w.heap.size w ((w.alloc (.cells #[.slice a1 n1 c1] 24)).alloc (.cells #[.slice a2 n2 c2] 24)) := ((Below.refl _ _).alloc (Nat.le_refl _) _).alloc (by simp) _
  have hT : Asks ((w.alloc (.cells #[.slice a1 n1 c1] 24)).alloc (.cells #[.slice a2 n2 c2] 24)) 51 #[.pointer (some ⟨w.heap.size, 0, none⟩), .pointer (some ⟨w.heap.size + 1, 0, none⟩)] (wtn lo up) rs := by
    intro W r hW hr
    obtain ⟨i, hi, rfl⟩ := List.mem_iff_getElem.1 hr
    obtain ⟨b, off, -, hc⟩ := hR.get hi
    have K := (hc i hi).2
    rw [rwn_eq hi] at K
    have hbW : Below w.heap.size w W := hb.trans (hW.mono (by simp; omega))
    exact closure_cut w.heap.size (w.heap.size + 1) a1 a2 _ n1 n2 _ c1 c2 _ lo up _ W ((hW.cell (p := ⟨w.heap.size, 0, none⟩) (by simp; omega)).trans (by simp [go_sem])) ((hW.cell (p := ⟨w.heap.size + 1, 0, none⟩) (by simp)).trans (by simp [go_sem])) (h1.keep hbW) e1 (h2.keep hbW) e2 (K.mem.keep hbW) rfl (Nat.le_trans K.lec K.max)
  have hP := pick_any a n cap rs 51 #[.pointer (some ⟨w.heap.size, 0, none⟩), .pointer (some ⟨w.heap.size + 1, 0, none⟩)] (wtn lo up) _ (hR.keep hb) hn hn2 hk (enters_of Tryd.func51 (by kernel_rfl) rfl) hT
  have HB : Aside _ := hb
  clear hR hn hk h1 h2 e1 e2 hT hb
  go_enter Tryd.func27, Tryd.ntmps27
  go_wp2_with (go_at_call 50; refine hP.mono ?_; rintro e w5 ⟨v, rfl, hR, hb5⟩)
  go_ret
  exact ⟨_, rfl, hR, HB.out.trans (hb5.mono HB.out.size)⟩

set_option maxHeartbeats 8000000 in
theorem refCut_any (a a1 a2 : Option Addr) (n cap n1 n2 c1 c2 : Nat) (rs : List Rw) (lo up : List Int) (w : World) (hR : table.RowsIn w a rs) (hn : rs.length = n) (hn2 : n ≤ 100000) (hk : ∀ r ∈ rs, r.k.length ≤ 100000) (h1 : Ints w a1 lo) (e1 : lo.length = n1) (h2 : Ints w a2 up) (e2 : up.length = n2) (hm : n1 ≤ 9223372036854775807) :
    Calls Tryd.prog 30 #[.slice a n cap, .slice a1 n1 c1, .slice a2 n2 c2] w fun e w' => ∃ v, e = .returned v ∧ TabOut w' v (cutR (wtn lo up) rs) ∧ Below w.heap.size w w' := by
  obtain ⟨i0, hi, hz0, hz1, hz2⟩ := info_parts info_row
  obtain ⟨j0, hj, hy0, hy1, hy2⟩ := info_parts info_int
  have HH : Aside (table.RowsIn w a rs ∧ rs.length = n ∧ ∀ r ∈ rs, r.k.length ≤ 100000) := ⟨hR, hn, hk⟩
  have HB : Aside (Ints w a1 lo ∧ lo.length = n1 ∧ Ints w a2 up ∧ up.length = n2) := ⟨h1, e1, h2, e2⟩
  clear hR hn hk h1 h2 e1 e2
  obtain ⟨p, hp⟩ : ∃ p, p = wtn lo up := ⟨_, rfl⟩
  have HP : Hid (p = wtn lo up) := hp
  rw [← hp]
  clear hp
  go_enter Tryd.func30, Tryd.ntmps30
  go_wp2_with fail
  go_loopg [7, 8, 9] n (fun g1 v vi s wr => ∃ (k : Nat) (os : List Rw), vi = .int .i64 k ∧ k ≤ n ∧ n - k ≤ g1 ∧ os.length ≤ k ∧ Aside (PK w rs p k os v wr))
  case atStart => exact ⟨0, [], rfl, Nat.zero_le _, Nat.le_refl _, Nat.le_refl _, PK.start w rs p⟩
  case round =>
    obtain ⟨k, os, rfl, hk, hg1, hol, SK⟩ := hrel
    by_cases hlt : k < n
    · have hltz : (k : Int) < (n : Int) := by omega
      have hkl : k < rs.length := by rw [HH.out.2.1]; exact hlt
      obtain ⟨b, off, ha, hc⟩ := (HH.out.1.keep SK.out.bel).get hkl
      subst ha
      obtain ⟨⟨r0, r1, r2, r3, r4⟩, K0⟩ := hc k hkl
      clear hc
      have hkm := HH.out.2.2 _ (rwn_mem hkl)
      have hT := fun z (hz : p (rwn rs k).k = z) => refWithin_val a1 a2 (rwn rs k).a n1 n2 (rwn rs k).k.length c1 c2 (rwn rs k).cap lo up (rwn rs k).k z wr (HB.out.1.keep SK.out.bel) HB.out.2.1 (HB.out.2.2.1.keep SK.out.bel) HB.out.2.2.2 K0.mem rfl hm (by rw [← HP.out]; exact hz)
      cases hpk : p (rwn rs k).k with
      | false =>
        have hT := hT false hpk
        have SS : Aside (PK w rs p (k + 1) os u7 wr) := SK.out.skip hkl hpk
        clear hpk SK K0
        generalize rwn rs k = r at r0 r1 r2 r3 r4 hT
        generalize r.k.length = nk at r0 hT
        go_wp2_with fail
        refine hT.mono ?_
        rintro e w2 ⟨rfl, hb2⟩
        have S2 : Aside (PK w rs p (k + 1) os u7 w2) := SS.out.keep hb2
        clear hb2 SS hT
        go_wp2
        go_roundg (n - (k + 1))
        case measure => omega
        case rel => exact ⟨k + 1, os, by go_num, by omega, by omega, by omega, S2⟩
      | true =>
        have hT := hT true hpk
        have PP : Aside (p (rwn rs k).k = true) := hpk
        have KV : Aside (KeyOk wr (rwn rs k).a (rwn rs k).k.length (rwn rs k).cap (rwn rs k).k) := K0
        clear hpk K0
        obtain ⟨r, hr⟩ : ∃ r, rwn rs k = r := ⟨_, rfl⟩
        rw [hr] at r0 r1 r2 r3 r4 hT KV hkm PP
        have HR : Hid (rwn rs k = r) := hr
        clear hr
        obtain ⟨nk, hnk⟩ : ∃ nk, r.k.length = nk := ⟨_, rfl⟩
        rw [hnk] at r0 hT hkm KV
        have HNK : Hid (r.k.length = nk) := hnk
        clear hnk
        go_wp2_with fail
        refine hT.mono ?_
        rintro e w2 ⟨rfl, hb2⟩
        have S2 : Aside (PK w rs p k os u7 w2) := SK.out.keep hb2
        have K2 : Aside (KeyOk w2 r.a nk r.cap r.k) := KV.out.keep hb2
        have kp : ∀ {o : Nat} {v : Value}, wr.cell? ⟨b, o, none⟩ = some v → w2.cell? ⟨b, o, none⟩ = some v := fun {o v} hv => (hb2.cell (p := ⟨b, o, none⟩) (cell_lt hv)).trans hv
        have d0 := kp r0
        have d1 := kp r1
        have d2 := kp r2
        have d3 := kp r3
        have d4 := kp r4
        have PU : Aside (∀ W W' A cK q c4, PK w rs p k os u7 W → W.ownsRow w.heap.size 3 1 (.slice A nk cK) nk (vals r.k) → W'.ownsRow w.heap.size 63 5 (.slice (some ⟨q, 0, none⟩) (os.length + 1) c4) (os.length + 1) (flatR os ++ [.slice A nk cK, .int .i64 r.c.n, .int .i64 r.c.s, .int .i64 r.c.lo, .int .i64 r.c.hi]) → W.grownBy W' u7.ownBlock → PK w rs p (k + 1) (os ++ [⟨A, cK, r.k, r.c⟩]) (.slice (some ⟨q, 0, none⟩) (os.length + 1) c4) W') := fun W W' A cK q c4 hP hd ho hg => by
          refine hP.push (r := ⟨A, cK, r.k, r.c⟩) hkl (by rw [HR.out]; exact PP.out) (by rw [HR.out]; rfl) KV.out.wf ?_ ?_ hg
          · show W.ownsRow w.heap.size 3 1 (.slice A r.k.length cK) r.k.length (vals r.k)
            rw [HNK.out]; exact hd
          · show W'.ownsRow w.heap.size 63 5 _ (os.length + 1) (flatR os ++ [.slice A r.k.length cK, _, _, _, _])
            rw [HNK.out]; exact ho
        clear r0 r1 r2 r3 r4 hb2 kp hT SK KV
        generalize r.c.n = e1 at d1 PU
        generalize r.c.s = e2 at d2 PU
        generalize r.c.lo = e3 at d3 PU
        generalize r.c.hi = e4 at d4 PU
        have hsz := S2.out.bel.size
        by_cases h0 : nk = 0
        · have HL : Aside (vals r.k = []) := by
            have := List.eq_nil_of_length_eq_zero (HNK.out.trans h0)
            show _ = _
            rw [this]; rfl
          have H0 : Hid (nk = 0) := h0
          obtain ⟨ka, hka⟩ : ∃ ka, r.a = ka := ⟨_, rfl⟩
          rw [hka] at d0
          subst h0
          clear hka
          have hown := S2.out.own
          go_wp2_with (first | (at_builtin; refine wpList_append_zero rfl (.tmp 24) (.tmp 29) 24 rfl w.heap.size 3 j0 1 Tryd.underlying24 hj _ 0 [] rfl (World.ownsRow_nil _ _ _ _) _ _ rfl ?_) | (at_builtin; refine wpList_append_lies _ rfl (.tmp 31) (.tmp 39) 23 rfl w.heap.size 63 i0 _ 5 56 Tryd.underlying23 hi hz0 hz1 hz2 rfl (by decide) _ os.length (flatR os) rfl (hown.alloc _) ⟨w2.heap.size, 0, none⟩ 1 1 [.slice none 0 0, .int .i64 e1, .int .i64 e2, .int .i64 e3, .int .i64 e4] rfl rfl (cells_five_new _ _ _ _ _ _ _) (by intro u hu; simp at hu; rcases hu with rfl | rfl | rfl | rfl | rfl <;> rfl) (by decide) (by unfold maxLen; omega) (by omega) (by simp; omega) _ rfl ?_) | go_in)
          intro g4 cap4 w4 hown4 hgrow hat hglt
          have S4 : Aside (PK w rs p (k + 1) (os ++ [⟨none, 0, r.k, r.c⟩]) (.slice (some ⟨g4, 0, none⟩) (os.length + 1) cap4) w4) :=
            PU.out _ w4 none 0 g4 cap4 (S2.out.keep ((Below.refl _ _).alloc (Nat.le_refl _) _)) (by rw [HL.out]; exact World.ownsRow_nil _ _ _ _) hown4 hgrow
          clear PU hown4 hgrow hat hglt S2 hown
          go_wp2
          go_roundg (n - (k + 1))
          case measure => omega
          case rel => exact ⟨k + 1, _, by go_num, by omega, by omega, by simp; omega, S4⟩
        · obtain ⟨kb, ko, hka, hkc⟩ := K2.out.mem.get (k := 0) (by rw [HNK.out]; omega)
          rw [hka] at d0
          have hnews := ints_news hkc
          have hvl : (vals r.k).length = nk * 1 := by rw [vals_len, HNK.out]; omega
          have hcl : Aside (∀ W, Below w2.heap.size w2 W → True) := fun _ _ => trivial
          go_wp2_with (first | (at_builtin; refine wpList_append_lies _ rfl (.tmp 24) (.tmp 29) 24 rfl w2.heap.size 3 j0 _ 1 8 Tryd.underlying24 hj hy0 hy1 hy2 rfl (by decide) _ 0 [] rfl (World.ownsRow_nil _ _ _ _) ⟨kb, ko, none⟩ nk r.cap (vals r.k) rfl hvl hnews (vals_one _) (by omega) (by unfold maxLen; omega) (by omega) (Nat.le_refl _) _ rfl ?_) | go_in)
          intro g3 c3 w3 hown3 hgrow3 hat3 hglt3
          have b23 : Below w2.heap.size w2 w3 := (Below.refl _ _).grown hgrow3 (Nat.le_refl _) fun q hq => by cases hq
          have kp : ∀ {o : Nat} {v : Value}, w2.cell? ⟨b, o, none⟩ = some v → w3.cell? ⟨b, o, none⟩ = some v := fun {o v} hv => (b23.cell (p := ⟨b, o, none⟩) (cell_lt hv)).trans hv
          have d1 := kp d1
          have d2 := kp d2
          have d3 := kp d3
          have d4 := kp d4
          have S3 : Aside (PK w rs p k os u7 w3) := S2.out.keep b23
          have O3 : Aside (w3.ownsRow w.heap.size 3 1 (.slice (some ⟨g3, 0, none⟩) nk c3) nk (vals r.k)) := by
            exact own_mono hown3 hsz
          clear hown3 hgrow3 hat3 hglt3 b23 kp S2 K2 hka hkc hnews hvl d0 hsz
          have hown := S3.out.own
          have hsz := S3.out.bel.size
          go_wp2_with (first | (at_builtin; refine wpList_append_lies _ rfl (.tmp 31) (.tmp 39) 23 rfl w.heap.size 63 i0 _ 5 56 Tryd.underlying23 hi hz0 hz1 hz2 rfl (by decide) _ os.length (flatR os) rfl (hown.alloc _) ⟨w3.heap.size, 0, none⟩ 1 1 [.slice (some ⟨g3, 0, none⟩) nk c3, .int .i64 e1, .int .i64 e2, .int .i64 e3, .int .i64 e4] rfl rfl (cells_five_new _ _ _ _ _ _ _) (by intro u hu; simp at hu; rcases hu with rfl | rfl | rfl | rfl | rfl <;> rfl) (by decide) (by unfold maxLen; omega) (by omega) (by simp; omega) _ rfl ?_) | go_in)
          intro g4 cap4 w4 hown4 hgrow hat hglt
          have S4 : Aside (PK w rs p (k + 1) (os ++ [⟨some ⟨g3, 0, none⟩, c3, r.k, r.c⟩]) (.slice (some ⟨g4, 0, none⟩) (os.length + 1) cap4) w4) :=
            PU.out _ w4 (some ⟨g3, 0, none⟩) c3 g4 cap4 (S3.out.keep ((Below.refl _ _).alloc (Nat.le_refl _) _)) (O3.out.alloc _) hown4 hgrow
          clear PU hown4 hgrow hat hglt S3 O3 hown
          go_wp2
          go_roundg (n - (k + 1))
          case measure => omega
          case rel => exact ⟨k + 1, _, by go_num, by omega, by omega, by simp; omega, S4⟩
    · have hltz : ¬ (k : Int) < (n : Int) := by omega
      have HR : Aside (TabOut wr u7 (cutR p rs) ∧ Below w.heap.size w wr) := ⟨SK.out.out (by rw [HH.out.2.1]; omega), SK.out.bel⟩
      clear SK
      go_wp2
      go_ret
      exact ⟨_, rfl, HR.out.1, HR.out.2⟩
end Go.Proofs.YtgimknplckkiaaaDoor.dice
