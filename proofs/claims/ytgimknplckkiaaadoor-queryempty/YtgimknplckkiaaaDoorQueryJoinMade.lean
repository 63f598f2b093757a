/-
  What the statements' walks carry: tables of facts that are joined.
-/
import Derived.Test.YtgimknplckkiaaaDoorQueryJoin
import Derived.Test.YtgimknplckkiaaaDoorTableWork
namespace Go.Proofs.YtgimknplckkiaaaDoor.query
open Go.ChangeShapes Go.WideShapes Go.ChangeAt Go.RowKit Go.Deep
open Go.Proofs.YtgimknplckkiaaaDoor.dims
open Go.Proofs.YtgimknplckkiaaaDoor.table
open Go.Proofs.YtgimknplckkiaaaDoor.cell (C4 In64)
set_option linter.unusedVariables false
set_option maxRecDepth 100000

theorem mt_keys {n : Nat} {rs : List Rw} {t : List PRow} {F : List PFact} (h : MT n t F) (e : rs.map plain = t) (hn : n ≤ 4) : ∀ r ∈ rs, r.k.length ≤ 1000000 := fun r hr => by
  have := (h.m.okP h.f (fun f hf => (h.k f hf).pos) (plain r) (by rw [← e]; exact List.mem_map.2 ⟨r, hr, rfl⟩)).1
  have e2 : (plain r).1 = r.k := rfl
  rw [e2] at this
  omega
theorem told_out {w W : World} {v : Value} {t : List PRow} {F : List PFact} (hM : Means t F) (hF : F.length ≤ 500) (hT : TabOut W v (toldT t)) (hb : Below w.heap.size w W) : ROut w .u16 F.length t (.tuple #[v, .int .u16 (toldE t 0)]) W := by
  have hl := rows_le hM
  obtain ⟨e1, e2⟩ := told_few (t := t) (by omega) 0
  rw [e2] at hT
  obtain ⟨p', m', q', hv, hL', hml⟩ := hT.tabL
  exact ⟨⟨p', m', q', by rw [e1, hv], hL', by omega⟩, hb⟩
theorem join_made2 (bb : Nat) (p1 p2 : Option Addr) (m1 q1 m2 q2 n : Nat) (t1 t2 : List PRow) (F1 F2 : List PFact) (w : World) (hp : Pow w) (d0 : w.cell? ⟨bb, 0, none⟩ = some (.slice p1 m1 q1)) (d1 : w.cell? ⟨bb, 1, none⟩ = some (.slice p2 m2 q2)) (h1 : TabL w p1 m1 q1 t1) (h2 : TabL w p2 m2 q2 t2) (k1 : MT n t1 F1) (k2 : MT n t2 F2) (hm1 : m1 ≤ 1000) (hm2 : m2 ≤ 1000) (hn : n ≤ 4) (hF : Fine (F1 ++ F2)) (h5 : (F1 ++ F2).length ≤ 500) :
    Calls Tryd.prog 16 #[.slice (some ⟨bb, 0, none⟩) 2 2] w fun e w' => ∃ x, e = .returned x ∧ ROut w .u16 (F1 ++ F2).length (tab (t1 ++ t2)) x w' := by
  obtain ⟨rs, a1, a2, a3, a4, a5⟩ := h1
  obtain ⟨qs, b1, b2, b3, b4, b5⟩ := h2
  have hI : PartsIn w (some ⟨bb, 0, none⟩) [⟨p1, q1, rs⟩, ⟨p2, q2, qs⟩] := by
    refine .inr ⟨bb, 0, rfl, fun i hi => ?_⟩
    match i, hi with
    | 0, _ => exact ⟨by simpa [ptn, a3] using d0, a1⟩
    | 1, _ => exact ⟨by simpa [ptn, b3] using d1, b1⟩
  have ht : total [⟨p1, q1, rs⟩, ⟨p2, q2, qs⟩] ≤ 10000 := by simp [total, allR]; omega
  have hpl : joinT (plains [⟨p1, q1, rs⟩, ⟨p2, q2, qs⟩]) = tab (t1 ++ t2) := by simp [joinT, plains, a2, b2]
  refine (join_any (some ⟨bb, 0, none⟩) 2 2 _ w hp hI rfl (by omega) ht ?_).mono ?_
  · intro p hp r hr
    simp only [List.mem_cons, List.not_mem_nil, or_false] at hp
    rcases hp with rfl | rfl
    · exact mt_keys k1 a2 hn r hr
    · exact mt_keys k2 b2 hn r hr
  rintro e w1 ⟨v, rfl, hT, hb⟩
  rw [hpl] at hT ⊢
  exact ⟨_, rfl, told_out (means_merge k1.m k2.m hF) h5 hT hb⟩
theorem join_made3 (bb : Nat) (p1 p2 : Option Addr) (m1 q1 m2 q2 n : Nat) (t1 t2 : List PRow) (F1 F2 : List PFact) (w : World) (hp : Pow w) (d0 : w.cell? ⟨bb, 0, none⟩ = some (.slice p1 m1 q1)) (dn : w.cell? ⟨bb, 1, none⟩ = some (.slice none 0 0)) (d1 : w.cell? ⟨bb, 2, none⟩ = some (.slice p2 m2 q2)) (h1 : TabL w p1 m1 q1 t1) (h2 : TabL w p2 m2 q2 t2) (k1 : MT n t1 F1) (k2 : MT n t2 F2) (hm1 : m1 ≤ 1000) (hm2 : m2 ≤ 1000) (hn : n ≤ 4) (hF : Fine (F1 ++ F2)) (h5 : (F1 ++ F2).length ≤ 500) :
    Calls Tryd.prog 16 #[.slice (some ⟨bb, 0, none⟩) 3 3] w fun e w' => ∃ x, e = .returned x ∧ ROut w .u16 (F1 ++ F2).length (tab (t1 ++ t2)) x w' := by
  obtain ⟨rs, a1, a2, a3, a4, a5⟩ := h1
  obtain ⟨qs, b1, b2, b3, b4, b5⟩ := h2
  have hI : PartsIn w (some ⟨bb, 0, none⟩) [⟨p1, q1, rs⟩, ⟨none, 0, []⟩, ⟨p2, q2, qs⟩] := by
    refine .inr ⟨bb, 0, rfl, fun i hi => ?_⟩
    match i, hi with
    | 0, _ => exact ⟨by simpa [ptn, a3] using d0, a1⟩
    | 1, _ => exact ⟨by simpa [ptn] using dn, .inl rfl⟩
    | 2, _ => exact ⟨by simpa [ptn, b3] using d1, b1⟩
  have ht : total [⟨p1, q1, rs⟩, ⟨none, 0, []⟩, ⟨p2, q2, qs⟩] ≤ 10000 := by simp [total, allR]; omega
  have hpl : joinT (plains [⟨p1, q1, rs⟩, ⟨none, 0, []⟩, ⟨p2, q2, qs⟩]) = tab (t1 ++ t2) := by simp [joinT, plains, a2, b2]
  refine (join_any (some ⟨bb, 0, none⟩) 3 3 _ w hp hI rfl (by omega) ht ?_).mono ?_
  · intro p hp r hr
    simp only [List.mem_cons, List.not_mem_nil, or_false] at hp
    rcases hp with rfl | rfl | rfl
    · exact mt_keys k1 a2 hn r hr
    · simp at hr
    · exact mt_keys k2 b2 hn r hr
  rintro e w1 ⟨v, rfl, hT, hb⟩
  rw [hpl] at hT ⊢
  exact ⟨_, rfl, told_out (means_merge k1.m k2.m hF) h5 hT hb⟩
theorem join_made0 (w : World) (hp : Pow w) :
    Calls Tryd.prog 16 #[.slice none 0 0] w fun e w' => ∃ x, e = .returned x ∧ ROut w .u16 0 [] x w' := by
  refine (join_any none 0 0 [] w hp (.inl rfl) rfl (by omega) (by simp [total, allR]) (fun p hp => by simp at hp)).mono ?_
  rintro e w1 ⟨v, rfl, hT, hb⟩
  have : ROut w .u16 0 (joinT (plains [])) (.tuple #[v, .int .u16 (toldE (joinT (plains [])) 0)]) w1 := told_out (F := []) ⟨List.Pairwise.nil, fun k => rfl⟩ (by simp) hT hb
  exact ⟨_, rfl, this⟩
end Go.Proofs.YtgimknplckkiaaaDoor.query
