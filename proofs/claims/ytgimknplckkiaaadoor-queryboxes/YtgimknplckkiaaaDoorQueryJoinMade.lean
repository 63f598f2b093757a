/-
  What the statements' walks carry: tables of facts that are joined.
-/
import Derived.Test.YtgimknplckkiaaaDoorQueryJoin
import Derived.Test.YtgimknplckkiaaaDoorQueryWork
namespace Go.Proofs.YtgimknplckkiaaaDoor.query
open Go.ChangeShapes Go.WideShapes Go.ChangeAt Go.RowKit Go.Deep
open Go.Proofs.YtgimknplckkiaaaDoor.dims
open Go.Proofs.YtgimknplckkiaaaDoor.table
open Go.Proofs.YtgimknplckkiaaaDoor.cell (C4 In64)
set_option linter.unusedVariables false
set_option maxRecDepth 100000

theorem mt_keys {n : Nat} {rs : List Rw} {t : List PRow} {F : List PFact} (h : MT n t F) (e : rs.map plain = t) (hn : n ≤ 4) : ∀ r ∈ rs, r.k.length ≤ 1000000 := fun r hr => by
  have := (h.m.okP h.f (fun f hf => (h.k f hf).pos) (plain r) (by rw [← e]; exact List.mem_map.2 ⟨r, hr, rfl⟩)).1
  have e2 : (plain r).1 = r.k := rfl
  rw [e2] at this
  omega
theorem told_out {w W : World} {v : Value} {t : List PRow} {F : List PFact} (hM : Means t F) (hF : F.length ≤ 500) (hT : TabOut W v (toldT t)) (hb : Below w.heap.size w W) : ROut w .u16 F.length t (.tuple #[v, .int .u16 (toldE t 0)]) W := by
  have hl := rows_le hM
  obtain ⟨e1, e2⟩ := told_few (t := t) (by omega) 0
  rw [e2] at hT
  obtain ⟨p', m', q', hv, hL', hml⟩ := hT.tabL
  exact ⟨⟨p', m', q', by rw [e1, hv], hL', by omega⟩, hb⟩
theorem join_made2 (bb : Nat) (p1 p2 : Option Addr) (m1 q1 m2 q2 n : Nat) (t1 t2 : List PRow) (F1 F2 : List PFact) (w : World) (hp : Pow w) (d0 : w.cell? ⟨bb, 0, none⟩ = some (.slice p1 m1 q1)) (d1 : w.cell? ⟨bb, 1, none⟩ = some (.slice p2 m2 q2)) (h1 : TabL w p1 m1 q1 t1) (h2 : TabL w p2 m2 q2 t2) (k1 : MT n t1 F1) (k2 : MT n t2 F2) (hm1 : m1 ≤ 1000) (hm2 : m2 ≤ 1000) (hn : n ≤ 4) (hF : Fine (F1 ++ F2)) (h5 : (F1 ++ F2).length ≤ 500) :
    Calls Tryd.prog 16 #[.slice (some ⟨bb, 0, none⟩) 2 2] w fun e w' => ∃ x, e = .returned x ∧ ROut w .u16 (F1 ++ F2).length (tab (t1 ++ t2)) x w' := by
  obtain ⟨rs, a1, a2, a3, a4, a5⟩ := h1
  obtain ⟨qs, b1, b2, b3, b4, b5⟩ := h2
  have hI : PartsIn w (some ⟨bb, 0, none⟩) [⟨p1, q1, rs⟩, ⟨p2, q2, qs⟩] := by
    refine .inr ⟨bb, 0, rfl, fun i hi => ?_⟩
    match i, hi with
    | 0, _ => exact ⟨by simpa [ptn, a3] using d0, a1⟩
    | 1, _ => exact ⟨by simpa [ptn, b3] using d1, b1⟩
  have ht : total [⟨p1, q1, rs⟩, ⟨p2, q2, qs⟩] ≤ 10000 := by simp [total, allR]; omega
  have hpl : joinT (plains [⟨p1, q1, rs⟩, ⟨p2, q2, qs⟩]) = tab (t1 ++ t2) := by simp [joinT, plains, a2, b2]
  refine (join_any (some ⟨bb, 0, none⟩) 2 2 _ w hp hI rfl (by omega) ht ?_).mono ?_
  · intro p hp r hr
    simp only [List.mem_cons, List.not_mem_nil, or_false] at hp
    rcases hp with rfl | rfl
    · exact mt_keys k1 a2 hn r hr
    · exact mt_keys k2 b2 hn r hr
  rintro e w1 ⟨v, rfl, hT, hb⟩
  rw [hpl] at hT ⊢
  exact ⟨_, rfl, told_out (means_merge k1.m k2.m hF) h5 hT hb⟩
theorem join_made3 (bb : Nat) (p1 p2 : Option Addr) (m1 q1 m2 q2 n : Nat) (t1 t2 : List PRow) (F1 F2 : List PFact) (w : World) (hp : Pow w) (d0 : w.cell? ⟨bb, 0, none⟩ = some (.slice p1 m1 q1)) (dn : w.cell? ⟨bb, 1, none⟩ = some (.slice none 0 0)) (d1 : w.cell? ⟨bb, 2, none⟩ = some (.slice p2 m2 q2)) (h1 : TabL w p1 m1 q1 t1) (h2 : TabL w p2 m2 q2 t2) (k1 : MT n t1 F1) (k2 : MT n t2 F2) (hm1 : m1 ≤ 1000) (hm2 : m2 ≤ 1000) (hn : n ≤ 4) (hF : Fine (F1 ++ F2)) (h5 : (F1 ++ F2).length ≤ 500) :
    Calls Tryd.prog 16 #[.slice (some ⟨bb, 0, none⟩) 3 3] w fun e w' => ∃ x, e = .returned x ∧ ROut w .u16 (F1 ++ F2).length (tab (t1 ++ t2)) x w' := by
  obtain ⟨rs, a1, a2, a3, a4, a5⟩ := h1
  obtain ⟨qs, b1, b2, b3, b4, b5⟩ := h2
  have hI : PartsIn w (some ⟨bb, 0, none⟩) [⟨p1, q1, rs⟩, ⟨none, 0, []⟩, ⟨p2, q2, qs⟩] := by
    refine .inr ⟨bb, 0, rfl, fun i hi => ?_⟩
    match i, hi with
    | 0, _ => exact ⟨by simpa [ptn, a3] using d0, a1⟩
    | 1, _ => exact ⟨by simpa [ptn] using dn, .inl rfl⟩
    | 2, _ => exact ⟨by simpa [ptn, b3] using d1, b1⟩
  have ht : total [⟨p1, q1, rs⟩, ⟨none, 0, []⟩, ⟨p2, q2, qs⟩] ≤ 10000 := by simp [total, allR]; omega
  have hpl : joinT (plains [⟨p1, q1, rs⟩, ⟨none, 0, []⟩, ⟨p2, q2, qs⟩]) = tab (t1 ++ t2) := by simp [joinT, plains, a2, b2]
  refine (join_any (some ⟨bb, 0, none⟩) 3 3 _ w hp hI rfl (by omega) ht ?_).mono ?_
  · intro p hp r hr
    simp only [List.mem_cons, List.not_mem_nil, or_false] at hp
    rcases hp with rfl | rfl | rfl
    · exact mt_keys k1 a2 hn r hr
    · simp at hr
    · exact mt_keys k2 b2 hn r hr
  rintro e w1 ⟨v, rfl, hT, hb⟩
  rw [hpl] at hT ⊢
  exact ⟨_, rfl, told_out (means_merge k1.m k2.m hF) h5 hT hb⟩
theorem join_made0 (w : World) (hp : Pow w) :
    Calls Tryd.prog 16 #[.slice none 0 0] w fun e w' => ∃ x, e = .returned x ∧ ROut w .u16 0 [] x w' := by
  refine (join_any none 0 0 [] w hp (.inl rfl) rfl (by omega) (by simp [total, allR]) (fun p hp => by simp at hp)).mono ?_
  rintro e w1 ⟨v, rfl, hT, hb⟩
  have : ROut w .u16 0 (joinT (plains [])) (.tuple #[v, .int .u16 (toldE (joinT (plains [])) 0)]) w1 := told_out (F := []) ⟨List.Pairwise.nil, fun k => rfl⟩ (by simp) hT hb
  exact ⟨_, rfl, this⟩

theorem refMerge_made (p1 p2 : Option Addr) (m1 q1 m2 q2 n : Nat) (t1 t2 : List PRow) (F1 F2 : List PFact) (w : World) (h1 : TabL w p1 m1 q1 t1) (h2 : TabL w p2 m2 q2 t2) (k1 : MT n t1 F1) (k2 : MT n t2 F2) (hm1 : m1 ≤ 500) (hm2 : m2 ≤ 500) (hn : n ≤ 4) :
    Calls Tryd.prog 22 #[.slice p1 m1 q1, .slice p2 m2 q2] w fun e w' => ∃ p m q, e = .returned (.slice p m q) ∧ (TabL w' p m q (tab (t1 ++ t2)) ∧ m ≤ 1000) ∧ Below w.heap.size w w' := by
  obtain ⟨rs, a1, a2, a3, a4, a5⟩ := h1
  obtain ⟨qs, b1, b2, b3, b4, b5⟩ := h2
  refine (refMerge_any p1 p2 m1 m2 q1 q2 rs qs w a1 a3 (by omega) b1 b3 (by omega) (mt_keys k1 a2 hn) (mt_keys k2 b2 hn)).mono ?_
  rintro e w1 ⟨v, rfl, hT, hb⟩
  rw [a2, b2] at hT
  obtain ⟨p', m', q', hv, hL, hl⟩ := hT.tabL
  refine ⟨p', m', q', by rw [hv], ⟨hL, ?_⟩, hb⟩
  have := tab_le (t1 ++ t2)
  have e1 : t1.length = m1 := by rw [← a2, List.length_map, a3]
  have e2 : t2.length = m2 := by rw [← b2, List.length_map, b3]
  rw [List.length_append] at this
  omega
theorem Fine.run {F : List PFact} (h : Fine F) (ds : List Dm) (L lo hi : List Int) : Fine (runF ds L lo hi F) := (Fine.cut h _).remap _
theorem fine_two {F H : List PFact} (h : Fine (F ++ H)) (ds : List Dm) (L lo hi : List Int) : Fine (runF ds L lo hi F ++ runF ds L lo hi H) := by rw [← runF_append]; exact Fine.run h ds L lo hi
theorem fine_swap {F H : List PFact} (h : Fine (F ++ H)) : Fine (H ++ F) := Fine.perm h List.perm_append_comm
theorem run_len2 (ds : List Dm) (L lo hi : List Int) {F H : List PFact} {m : Nat} (h : F.length + H.length ≤ m) : (runF ds L lo hi F ++ runF ds L lo hi H).length ≤ m := by
  rw [List.length_append]
  have := runF_len ds L lo hi F
  have := runF_len ds L lo hi H
  omega
/-- the same facts, in parts, are the same table -/
theorem two_parts {n : Nat} {ds : List Dm} {L lo hi : List Int} {tX tY tZ : List PRow} {F H : List PFact} (hX : MT n tX (runF ds L lo hi F)) (hY : MT n tY (runF ds L lo hi H)) (hZ : MT n tZ (runF ds L lo hi (F ++ H))) (hf : Fine (F ++ H)) : tab (tX ++ tY) = tZ := by
  have h := hX.merge hY (fine_two hf ds L lo hi)
  rw [← runF_append] at h
  exact h.unique hZ
theorem two_swap {n : Nat} {ds : List Dm} {L lo hi : List Int} {tX tY tZ : List PRow} {F H : List PFact} (hX : MT n tX (runF ds L lo hi F)) (hY : MT n tY (runF ds L lo hi H)) (hZ : MT n tZ (runF ds L lo hi (F ++ H))) (hf : Fine (F ++ H)) : tab (tY ++ tX) = tZ := by
  have h := hY.merge hX (fine_two (fine_swap hf) ds L lo hi)
  rw [← runF_append] at h
  refine (MT.perm h ?_).unique hZ
  unfold runF cutF remapF
  exact (List.perm_append_comm.filter _).map _
/-- a box by two halves is the box -/
theorem two_boxes {n : Nat} {ds : List Dm} {L lo up : List Int} {K : Int} {tX tY tZ : List PRow} {F : List PFact} (h1 : lo.length = n) (h2 : up.length = n) (hn : 1 ≤ n) (hK1 : nth lo 0 ≤ K) (hK2 : K ≤ nth up 0) (hX : MT n tX (runF ds L lo (K :: up.drop 1) F)) (hY : MT n tY (runF ds L (K :: lo.drop 1) up F)) (hZ : MT n tZ (runF ds L lo up F)) : Fine (runF ds L lo (K :: up.drop 1) F ++ runF ds L (K :: lo.drop 1) up F) ∧ tab (tX ++ tY) = tZ := by
  have p : (runF ds L lo (K :: up.drop 1) F ++ runF ds L (K :: lo.drop 1) up F).Perm (runF ds L lo up F) := by
    unfold runF
    rw [← remap_append]
    exact (cutF_two h1 h2 hn hK1 hK2 F).map _
  have hf := Fine.perm hZ.f p.symm
  exact ⟨hf, (MT.perm (hX.merge hY hf) p).unique hZ⟩
theorem boxes_len {n : Nat} {ds : List Dm} {L lo up : List Int} {K : Int} {F : List PFact} (h1 : lo.length = n) (h2 : up.length = n) (hn : 1 ≤ n) (hK1 : nth lo 0 ≤ K) (hK2 : K ≤ nth up 0) : (runF ds L lo (K :: up.drop 1) F ++ runF ds L (K :: lo.drop 1) up F).length ≤ F.length := by
  have p : (runF ds L lo (K :: up.drop 1) F ++ runF ds L (K :: lo.drop 1) up F).Perm (runF ds L lo up F) := by
    unfold runF
    rw [← remap_append]
    exact (cutF_two h1 h2 hn hK1 hK2 F).map _
  rw [p.length_eq]
  exact runF_len ds L lo up F
theorem box_low {ds : List Dm} {n : Nat} {lo hi : List Int} {K : Int} (h : Box ds n lo hi) (hn : 1 ≤ n) (h1 : nth lo 0 ≤ K) (h2 : K ≤ nth hi 0) : Box ds n lo (K :: hi.drop 1) := by
  refine ⟨h.ll, by simp [h.lh]; omega, fun i hi2 => ?_⟩
  have hh := h.at_ i hi2
  by_cases e : i = 0
  · subst e; rw [dice.nth_cons_zero]; omega
  · rw [dice.nth_cons_drop _ _ (by omega)]; exact hh
theorem box_high {ds : List Dm} {n : Nat} {lo hi : List Int} {K : Int} (h : Box ds n lo hi) (hn : 1 ≤ n) (h1 : nth lo 0 ≤ K) (h2 : K ≤ nth hi 0) : Box ds n (K :: lo.drop 1) hi := by
  refine ⟨by simp [h.ll]; omega, h.lh, fun i hi2 => ?_⟩
  have hh := h.at_ i hi2
  by_cases e : i = 0
  · subst e; rw [dice.nth_cons_zero]; omega
  · rw [dice.nth_cons_drop _ _ (by omega)]; exact hh
end Go.Proofs.YtgimknplckkiaaaDoor.query
