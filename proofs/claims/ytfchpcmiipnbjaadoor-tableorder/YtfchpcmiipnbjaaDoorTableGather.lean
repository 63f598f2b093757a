/-
  The contract of table.gather: the table of rows, each at the key that is told for its own.
-/
import Derived.Test.YtfchpcmiipnbjaaDoorTableRise
namespace Go.Proofs.YtfchpcmiipnbjaaDoor.table
open Go.ChangeShapes Go.WideShapes Go.ChangeAt Go.RowKit Go.Deep
open Go.Proofs.YtfchpcmiipnbjaaDoor.dims (nth Ints cell_lt cmpL own_below)
open Go.Proofs.YtfchpcmiipnbjaaDoor.cell (C4 mrg all one zero In64 merge_any)
set_option linter.unusedVariables false
set_option maxRecDepth 100000

/-- rows at the keys that are told -/
def told (tl : List Int → List Int) (rs : List Rw) : List PRow := rs.map fun r => (tl r.k, r.c)
theorem told_succ {tl : List Int → List Int} {rs : List Rw} {k : Nat} (h : k < rs.length) : told tl (rs.take (k + 1)) = told tl (rs.take k) ++ [(tl (rwn rs k).k, (rwn rs k).c)] := by
  unfold told
  rw [List.take_succ_eq_append_getElem h, List.map_append, rwn_eq h]; rfl
theorem acc_snoc (t : List PRow) (x : PRow) (q : List Int) : acc (t ++ [x]) q = step q (acc t q) x := by simp [acc]
theorem acc_none {t : List PRow} {q : List Int} (h : q ∉ t.map (·.1)) : acc t q = none := by
  have : ∀ (t : List PRow) o, q ∉ t.map (·.1) → t.foldl (step q) o = o := by
    intro t
    induction t with
    | nil => intro o _; rfl
    | cons x t ih =>
      intro o hq
      simp only [List.map_cons, List.mem_cons, not_or] at hq
      rw [List.foldl_cons, ih _ hq.2]
      simp only [step]; rw [if_neg fun e => hq.1 e.symm]
  exact this t none h
theorem mrg_zero (c : C4) : mrg zero c = c := by simp [mrg, zero]
theorem acc_upd (t : List PRow) (l : List Int) (c : C4) : (fun q => if q = l then some (mrg ((acc t l).getD zero) c) else acc t q) = acc (t ++ [(l, c)]) := by
  funext q
  rw [acc_snoc]
  simp only [step]
  by_cases e : q = l
  · subst e
    rw [if_pos rfl, if_pos rfl]
    cases acc t q with
    | none => simp [mrg_zero]
    | some d => rfl
  · rw [if_neg e, if_neg fun h => e h.symm]

def kval (r : Rw) : Value := .slice r.a r.k.length r.cap
def kvals (ks : List Rw) (n : Nat) : List Value := ks.map kval ++ List.replicate (n - ks.length) (.slice none 0 0)
theorem kvals_slice {ks : List Rw} {n : Nat} {v : Value} (h : v ∈ kvals ks n) : ∃ a l c, v = .slice a l c := by
  rcases List.mem_append.1 h with h | h
  · obtain ⟨r, _, rfl⟩ := List.mem_map.1 h; exact ⟨_, _, _, rfl⟩
  · exact ⟨_, _, _, (List.mem_replicate.1 h).2⟩
theorem kvals_at {ks : List Rw} {n : Nat} (h : ks.length < n) : (kvals ks n)[ks.length]? = some (.slice none 0 0) := by
  unfold kvals
  rw [List.getElem?_append_right (by simp)]
  simp [List.getElem?_replicate]; omega
theorem kvals_set {ks : List Rw} {n : Nat} (r : Rw) (h : ks.length < n) : (kvals ks n).set ks.length (kval r) = kvals (ks ++ [r]) n := by
  unfold kvals
  rw [List.set_append_right _ _ (by simp)]
  obtain ⟨m, hm⟩ : ∃ m, n - ks.length = m + 1 := ⟨n - ks.length - 1, by omega⟩
  have e : n - (ks ++ [r]).length = m := by simp; omega
  rw [hm, e, List.replicate_succ]
  simp
theorem kvals_get {ks : List Rw} {n i : Nat} (h : i < ks.length) : (kvals ks n)[i]? = some (kval (rwn ks i)) := by
  unfold kvals
  rw [List.getElem?_append_left (by simpa using h)]
  simp [rwn, h]

structure GS (w : World) (rs : List Rw) (tl : List Int → List Int) (n kb j k : Nat) (ks : List Rw) (W : World) : Prop where
  own : W.ownsRow (w.heap.size + 1) 38 1 (.slice (some ⟨kb, 0, none⟩) n n) n (kvals ks n)
  map : MapIs W w.heap.size k (acc (told tl (rs.take k)))
  len : ks.length = j
  eqk : ks.map (·.k) = (rs.take j).map fun r => tl r.k
  key : ∀ r ∈ ks, KeyOk W r.a r.k.length r.cap r.k
  bel : Below w.heap.size w W

theorem GS.keep {w W W1 : World} {rs : List Rw} {tl : List Int → List Int} {n kb j k : Nat} {ks : List Rw} (h : GS w rs tl n kb j k ks W) (hb : Below W.heap.size W W1) : GS w rs tl n kb j k ks W1 :=
  ⟨own_below h.own hb, h.map.keep hb, h.len, h.eqk, fun r hr => (h.key r hr).keep hb, h.bel.trans (hb.mono h.bel.size)⟩

theorem key_set {W : World} {base kb n j : Nat} {ks : List Rw} {a : Option Addr} {m cap : Nat} {l : List Int} {u : Value} (ho : W.ownsRow base 38 1 (.slice (some ⟨kb, 0, none⟩) n n) n (kvals ks n)) (h : KeyOk W a m cap l) : KeyOk (W.setCell ⟨kb, j, none⟩ u) a m cap l := by
  refine ⟨?_, h.len, h.lec, h.max, h.wf⟩
  rcases h.mem with e | ⟨b, off, ha, hc⟩
  · exact .inl e
  · refine .inr ⟨b, off, ha, fun i hi => ?_⟩
    have hci := hc i hi
    by_cases e : b = kb
    · exfalso
      subst e
      rw [cell_of_row W b (off + i) _ _ (0, 0) (own_cur ho)] at hci
      have hm : Value.int .i64 (nth l i) ∈ kvals ks n := by
        have := Array.mem_of_getElem? hci
        simpa using this
      obtain ⟨_, _, _, e⟩ := kvals_slice hm
      cases e
    · rw [World.cell?_setCell_other _ _ _ _ (by intro e2; injection e2 with e3; exact e e3.symm)]
      exact hci

theorem GS.store {w W W2 : World} {rs : List Rw} {tl : List Int → List Int} {n kb k : Nat} {ks : List Rw} {r : Rw} (h : GS w rs tl n kb k k ks W) (hk : k < n) (hn : rs.length = n) (hr : r.k = tl (rwn rs k).k) (hb : Below W.heap.size W W2) (hkey : KeyOk W2 r.a r.k.length r.cap r.k) :
    W2.cell? ⟨kb, k, none⟩ = some (.slice none 0 0) ∧ W2.frozen? ⟨kb, k, none⟩ = false ∧ GS w rs tl n kb (k + 1) k (ks ++ [r]) (W2.setCell ⟨kb, k, none⟩ (kval r)) ∧ KeyOk (W2.setCell ⟨kb, k, none⟩ (kval r)) r.a r.k.length r.cap r.k := by
  have h2 := h.keep hb
  have hl := h.len
  have hkb := (h2.own.lt kb rfl).1
  refine ⟨?_, World.ownsRow.frozenAt h2.own k, ⟨?_, ?_, by simp [hl], ?_, ?_, ?_⟩, key_set h2.own hkey⟩
  · rw [World.ownsRow.cellAt h2.own k (by omega), ← hl, kvals_at (by omega)]
  · have := (World.ownsRow.stored h2.own k (kval r)).1
    rw [← hl, kvals_set r (by omega), hl] at this
    exact this
  · exact h2.map.setCell (by show w.heap.size ≠ kb; omega) _
  · rw [List.map_append, h.eqk, List.take_succ_eq_append_getElem (by omega : k < rs.length), List.map_append, List.map_cons, List.map_nil, hr, rwn_eq (by omega)]; rfl
  · intro x hx
    rcases List.mem_append.1 hx with hx | hx
    · exact key_set h2.own (h2.key x hx)
    · simp only [List.mem_singleton] at hx
      subst hx; exact key_set h2.own hkey
  · exact h2.bel.setCell (by show w.heap.size ≤ kb; omega) _

theorem GS.put {w W W2 : World} {rs : List Rw} {tl : List Int → List Int} {n kb k : Nat} {ks : List Rw} (h : GS w rs tl n kb (k + 1) k ks W) (hk : k < rs.length)
    (hM : MapIs W2 w.heap.size (k + 1) fun q => if q = tl (rwn rs k).k then some (mrg ((acc (told tl (rs.take k)) (tl (rwn rs k).k)).getD zero) (rwn rs k).c) else acc (told tl (rs.take k)) q) (hg : W.grownBy W2 (some w.heap.size)) : GS w rs tl n kb (k + 1) (k + 1) ks W2 := by
  have hkb := (h.own.lt kb rfl).1
  refine ⟨h.own.kept hg (.inr (by simp [Value.ownBlock]; omega)), ?_, h.len, h.eqk, fun r hr => (h.key r hr).kept (Kept.grown hg fun b o v hv => map_cell h.map hv), ?_⟩
  · rw [acc_upd, ← told_succ hk] at hM; exact hM
  · exact h.bel.grown hg h.bel.size (fun q hq => by injection hq with hq; omega)

theorem GS.keys {w W : World} {rs : List Rw} {tl : List Int → List Int} {n kb j k : Nat} {ks : List Rw} (h : GS w rs tl n kb j k ks W) (hj : j = n) : KeysIn W (some ⟨kb, 0, none⟩) ks := by
  refine .inr ⟨kb, 0, rfl, fun i hi => ⟨?_, h.key _ (rwn_mem hi)⟩⟩
  rw [Nat.zero_add, World.ownsRow.cellAt h.own i (by have := h.len; omega), kvals_get hi]; rfl
end Go.Proofs.YtfchpcmiipnbjaaDoor.table
