/-
  The plain mathematics of tables: rows by rising keys, one for each key; what rows come to; facts, in whichever parts and order. Nothing of the program.
-/
import Derived.Test.YtgimknplckkiaaaDoorDimsMath
import Derived.Test.YtgimknplckkiaaaDoorCellMath
namespace Go.Proofs.YtgimknplckkiaaaDoor.table
open Go.RowKit
open Go.Proofs.YtgimknplckkiaaaDoor.dims (cmpL cmpI cmpL_zero cmpL_flip cmpL_in)
open Go.Proofs.YtgimknplckkiaaaDoor.cell (C4 mrg all one zero In64 mrg_all)

abbrev PRow := List Int × C4

theorem cmpI_lt {x y : Int} : cmpI x y < 0 ↔ x < y := by unfold cmpI; split <;> (try split) <;> omega

theorem cmpL_trans : ∀ {a b c : List Int}, cmpL a b < 0 → cmpL b c < 0 → cmpL a c < 0
  | [], [], _, h, _ => by simp [cmpL] at h
  | [], _ :: _, [], _, h => by simp [cmpL] at h
  | [], _ :: _, _ :: _, _, _ => by simp [cmpL]
  | _ :: _, [], _, h, _ => by simp [cmpL] at h
  | _ :: _, _ :: _, [], _, h => by simp [cmpL] at h
  | x :: a, y :: b, z :: c, h1, h2 => by
    simp only [cmpL] at h1 h2 ⊢
    by_cases e1 : x = y
    · rw [if_pos e1] at h1
      by_cases e2 : y = z
      · rw [if_pos e2] at h2
        rw [if_pos (e1.trans e2)]; exact cmpL_trans h1 h2
      · rw [if_neg e2, cmpI_lt] at h2
        rw [if_neg (by omega), cmpI_lt]; omega
    · rw [if_neg e1, cmpI_lt] at h1
      by_cases e2 : y = z
      · rw [if_neg (by omega), cmpI_lt]; omega
      · rw [if_neg e2, cmpI_lt] at h2
        rw [if_neg (by omega), cmpI_lt]; omega

theorem cmpL_self (a : List Int) : cmpL a a = 0 := (cmpL_zero a a).2 rfl
theorem cmpL_ne {a b : List Int} (h : cmpL a b < 0) : a ≠ b := fun e => by subst e; rw [cmpL_self] at h; omega
theorem cmpL_gt {a b : List Int} (h1 : ¬ cmpL a b < 0) (h2 : ¬ cmpL a b = 0) : cmpL b a < 0 := by rw [cmpL_flip]; omega

def look : List PRow → List Int → Option C4
  | [], _ => none
  | x :: t, k => if x.1 = k then some x.2 else look t k
def step (k : List Int) (o : Option C4) (r : PRow) : Option C4 :=
  if r.1 = k then some (match o with | none => r.2 | some c => mrg c r.2) else o
def acc (rows : List PRow) (k : List Int) : Option C4 := rows.foldl (step k) none
def lay : List PRow → PRow → List PRow
  | [], r => [r]
  | x :: t, r => if cmpL x.1 r.1 < 0 then x :: lay t r else if cmpL x.1 r.1 = 0 then (r.1, mrg x.2 r.2) :: t else r :: x :: t
def tab (rows : List PRow) : List PRow := rows.foldl lay []
def Rises (t : List PRow) : Prop := t.Pairwise fun x y => cmpL x.1 y.1 < 0

theorem look_below {t : List PRow} {k : List Int} (h : ∀ x ∈ t, cmpL k x.1 < 0) : look t k = none := by
  induction t with
  | nil => rfl
  | cons x t ih =>
    have h1 := h x (by simp)
    rw [look, if_neg (fun e => cmpL_ne h1 e.symm), ih fun y hy => h y (by simp [hy])]

theorem Rises.below {x : PRow} {t : List PRow} (h : Rises (x :: t)) {k : List Int} (hk : cmpL k x.1 < 0) : ∀ y ∈ x :: t, cmpL k y.1 < 0 := by
  intro y hy
  rcases List.mem_cons.1 hy with rfl | hy
  · exact hk
  · exact cmpL_trans hk ((List.pairwise_cons.1 h).1 y hy)

theorem look_lay {t : List PRow} (h : Rises t) (r : PRow) (k : List Int) : look (lay t r) k = step k (look t k) r := by
  induction t with
  | nil => simp [lay, look, step]
  | cons x t ih =>
    have ht : Rises t := (List.pairwise_cons.1 h).2
    simp only [lay]
    by_cases h1 : cmpL x.1 r.1 < 0
    · rw [if_pos h1]
      simp only [look]
      by_cases e : x.1 = k
      · simp only [step]
        rw [if_pos e, if_pos e, if_neg (fun e2 => cmpL_ne h1 (e.trans e2.symm))]
      · rw [if_neg e, if_neg e]; exact ih ht
    · rw [if_neg h1]
      by_cases h2 : cmpL x.1 r.1 = 0
      · rw [if_pos h2]
        have e0 : x.1 = r.1 := (cmpL_zero _ _).1 h2
        simp only [look, step, e0]
        by_cases e : r.1 = k
        · simp [e]
        · simp [e]
      · rw [if_neg h2]
        have h3 := cmpL_gt h1 h2
        simp only [step]
        rw [look]
        by_cases e : r.1 = k
        · rw [if_pos e, if_pos e, look_below (k := k) (h.below (by rw [← e]; exact h3))]
        · rw [if_neg e, if_neg e]

theorem mem_lay {t : List PRow} {r y : PRow} (h : y ∈ lay t r) : y.1 = r.1 ∨ y ∈ t := by
  induction t with
  | nil => simp [lay] at h; exact .inl (by rw [h])
  | cons x t ih =>
    simp only [lay] at h
    split at h
    · rcases List.mem_cons.1 h with rfl | h
      · exact .inr (by simp)
      · rcases ih h with h | h
        · exact .inl h
        · exact .inr (by simp [h])
    · split at h
      · rcases List.mem_cons.1 h with rfl | h
        · exact .inl rfl
        · exact .inr (by simp [h])
      · rcases List.mem_cons.1 h with rfl | h
        · exact .inl rfl
        · exact .inr h

theorem rises_lay {t : List PRow} (h : Rises t) (r : PRow) : Rises (lay t r) := by
  induction t with
  | nil => simp [lay, Rises]
  | cons x t ih =>
    have ht := List.pairwise_cons.1 h
    simp only [lay]
    by_cases h1 : cmpL x.1 r.1 < 0
    · rw [if_pos h1]
      refine List.pairwise_cons.2 ⟨fun y hy => ?_, ih ht.2⟩
      rcases mem_lay hy with e | hy
      · rw [e]; exact h1
      · exact ht.1 y hy
    · rw [if_neg h1]
      by_cases h2 : cmpL x.1 r.1 = 0
      · rw [if_pos h2]
        have e0 : x.1 = r.1 := (cmpL_zero _ _).1 h2
        exact List.pairwise_cons.2 ⟨fun y hy => by rw [show (r.1, mrg x.2 r.2).1 = x.1 from e0.symm]; exact ht.1 y hy, ht.2⟩
      · rw [if_neg h2]
        exact List.pairwise_cons.2 ⟨h.below (cmpL_gt h1 h2), h⟩

theorem ext : ∀ {a b : List PRow}, Rises a → Rises b → (∀ k, look a k = look b k) → a = b
  | [], [], _, _, _ => rfl
  | [], y :: b, _, _, h => by have := h y.1; simp [look] at this
  | x :: a, [], _, _, h => by have := h x.1; simp [look] at this
  | x :: a, y :: b, ha, hb, h => by
    have e : x.1 = y.1 := by
      by_cases h1 : cmpL x.1 y.1 < 0
      · have := h x.1
        rw [look_below (hb.below h1)] at this; simp [look] at this
      · by_cases h2 : cmpL x.1 y.1 = 0
        · exact (cmpL_zero _ _).1 h2
        · have := h y.1
          rw [look_below (ha.below (cmpL_gt h1 h2))] at this; simp [look] at this
    have e2 : x.2 = y.2 := by
      have := h x.1
      simp only [look, e, if_true] at this
      injection this
    have ha' := List.pairwise_cons.1 ha
    have hb' := List.pairwise_cons.1 hb
    have et : a = b := ext ha'.2 hb'.2 fun k => by
      by_cases ek : x.1 = k
      · rw [look_below (t := a) (by rw [← ek]; exact ha'.1), look_below (t := b) (by rw [← ek, e]; exact hb'.1)]
      · have := h k
        simp only [look] at this
        rw [if_neg ek, if_neg (by rw [← e]; exact ek)] at this
        exact this
    rw [et, Prod.ext e e2]

theorem rises_fold (rows : List PRow) {t : List PRow} (h : Rises t) : Rises (rows.foldl lay t) := by
  induction rows generalizing t with
  | nil => exact h
  | cons r rows ih => exact ih (rises_lay h r)
theorem rises_tab (rows : List PRow) : Rises (tab rows) := rises_fold rows List.Pairwise.nil
theorem look_fold (rows : List PRow) {t : List PRow} (h : Rises t) (k : List Int) : look (rows.foldl lay t) k = rows.foldl (step k) (look t k) := by
  induction rows generalizing t with
  | nil => rfl
  | cons r rows ih => rw [List.foldl_cons, List.foldl_cons, ih (rises_lay h r), look_lay h]
theorem look_tab (rows : List PRow) (k : List Int) : look (tab rows) k = acc rows k := look_fold rows List.Pairwise.nil k
/-- what rises and tells at each key what the rows come to is the rows' table -/
theorem tab_unique {rows t : List PRow} (h : Rises t) (hk : ∀ k, look t k = acc rows k) : t = tab rows :=
  ext h (rises_tab rows) fun k => by rw [hk, look_tab]

theorem look_mem {t : List PRow} (h : Rises t) {x : PRow} (hx : x ∈ t) : look t x.1 = some x.2 := by
  induction t with
  | nil => simp at hx
  | cons y t ih =>
    have hy := List.pairwise_cons.1 h
    rcases List.mem_cons.1 hx with rfl | hx
    · simp [look]
    · rw [look, if_neg (cmpL_ne (hy.1 x hx)), ih hy.2 hx]
theorem mem_look {t : List PRow} {k : List Int} {c : C4} (h : look t k = some c) : (k, c) ∈ t := by
  induction t with
  | nil => simp [look] at h
  | cons x t ih =>
    rw [look] at h
    split at h
    · rename_i e
      injection h with h
      subst e h; simp
    · exact List.mem_cons_of_mem _ (ih h)

/-! ### facts -/
abbrev PFact := List Int × Int
def nums (F : List PFact) (k : List Int) : List Int := (F.filter fun f => decide (f.1 = k)).map (·.2)
def toC : List Int → Option C4
  | [] => none
  | v :: l => some (all (v :: l))
def Means (t : List PRow) (F : List PFact) : Prop := Rises t ∧ ∀ k, look t k = toC (nums F k)
/-- rows of some numbers each -/
abbrev PGrp := List Int × List Int
def grow (G : List PGrp) : List PRow := G.map fun g => (g.1, all g.2)
def flat (G : List PGrp) : List PFact := G.flatMap fun g => g.2.map fun v => (g.1, v)
def Fine (F : List PFact) : Prop := (∀ f ∈ F, In64 f.2) ∧ (F.length : Int) ≤ 4611686018427387904

theorem nums_append (F F' : List PFact) (k : List Int) : nums (F ++ F') k = nums F k ++ nums F' k := by simp [nums]
theorem nums_one (g : PGrp) (k : List Int) : nums (g.2.map fun v => (g.1, v)) k = if g.1 = k then g.2 else [] := by
  unfold nums
  by_cases e : g.1 = k
  · rw [if_pos e, List.filter_eq_self.2 (by intro a ha; obtain ⟨v, _, rfl⟩ := List.mem_map.1 ha; simp [e]), List.map_map]
    exact List.map_id _
  · rw [if_neg e, List.filter_eq_nil_iff.2 (by intro a ha; obtain ⟨v, _, rfl⟩ := List.mem_map.1 ha; simp [e])]; rfl
theorem flat_cons (g : PGrp) (G : List PGrp) : flat (g :: G) = (g.2.map fun v => (g.1, v)) ++ flat G := by simp [flat]
theorem nums_mem {F : List PFact} {k : List Int} {v : Int} (h : v ∈ nums F k) : (k, v) ∈ F := by
  simp only [nums, List.mem_map, List.mem_filter, decide_eq_true_eq] at h
  obtain ⟨f, ⟨h1, h2⟩, h3⟩ := h
  subst h2 h3; exact h1
theorem nums_length (F : List PFact) (k : List Int) : (nums F k).length ≤ F.length := by
  unfold nums; rw [List.length_map]; exact List.length_filter_le _ _
theorem Fine.perm {F F' : List PFact} (h : Fine F) (p : F.Perm F') : Fine F' :=
  ⟨fun f hf => h.1 f (p.mem_iff.2 hf), by have := p.length_eq; have := h.2; omega⟩
theorem Fine.nums {F : List PFact} (h : Fine F) (k : List Int) : (∀ v ∈ nums F k, In64 v) ∧ ((nums F k).length : Int) ≤ 4611686018427387904 :=
  ⟨fun v hv => h.1 _ (nums_mem hv), by have := nums_length F k; have := h.2; omega⟩

theorem all_pair (x y : Int) (hx : In64 x) (hy : In64 y) : all [x, y] = all [y, x] := by
  have := mrg_all [x] [y] (fun v hv => by simp at hv; subst hv; exact hx) (fun v hv => by simp at hv; subst hv; exact hy) (by simp)
  have := mrg_all [y] [x] (fun v hv => by simp at hv; subst hv; exact hy) (fun v hv => by simp at hv; subst hv; exact hx) (by simp)
  have e : mrg (all [x]) (all [y]) = mrg (all [y]) (all [x]) := by
    simp only [all, cell.allOn, mrg, zero, one]
    simp only [if_true, Int.one_ne_zero, if_false]
    rw [Int.add_comm x y, Int.min_comm, Int.max_comm]
  simp_all
theorem all_perm {a b : List Int} (p : a.Perm b) (h : ∀ v ∈ a, In64 v) (hl : (a.length : Int) ≤ 4611686018427387904) : all a = all b := by
  induction p with
  | nil => rfl
  | cons x p ih =>
    rename_i l1 l2
    have hc1 : ((x :: l1).length : Int) = l1.length + 1 := by simp
    have e1 := mrg_all [x] l1 (fun v hv => h v (by simp at hv; simp [hv])) (fun v hv => h v (by simp [hv])) (by simp; omega)
    have e2 := mrg_all [x] l2 (fun v hv => h v (by simp at hv; simp [hv])) (fun v hv => h v (by simp [p.mem_iff.2 hv])) (by have := p.length_eq; simp; omega)
    rw [List.singleton_append] at e1 e2
    rw [← e1, ← e2, ih (fun v hv => h v (by simp [hv])) (by omega)]
  | swap x y l =>
    have hx : In64 x := h x (by simp)
    have hy : In64 y := h y (by simp)
    have hc1 : ((y :: x :: l).length : Int) = l.length + 2 := by simp; omega
    have e1 := mrg_all [y, x] l (fun v hv => h v (by simp at hv; rcases hv with rfl | rfl <;> simp)) (fun v hv => h v (by simp [hv])) (by simp; omega)
    have e2 := mrg_all [x, y] l (fun v hv => h v (by simp at hv; rcases hv with rfl | rfl <;> simp)) (fun v hv => h v (by simp [hv])) (by simp; omega)
    simp only [List.cons_append, List.nil_append] at e1 e2
    rw [← e1, ← e2, all_pair y x hy hx]
  | trans p1 p2 ih1 ih2 =>
    rw [ih1 h hl, ih2 (fun v hv => h v (p1.mem_iff.2 hv)) (by have := p1.length_eq; omega)]

theorem toC_perm {a b : List Int} (p : a.Perm b) (h : ∀ v ∈ a, In64 v) (hl : (a.length : Int) ≤ 4611686018427387904) : toC a = toC b := by
  rcases a with _ | ⟨x, a⟩
  · rw [List.nil_perm.1 p]
  · rcases b with _ | ⟨y, b⟩
    · have := p.length_eq; simp at this
    · simp only [toC]; rw [all_perm p h hl]
theorem toC_some {l : List Int} (h : l ≠ []) : toC l = some (all l) := by cases l <;> simp_all [toC]

theorem acc_fold (k : List Int) : ∀ (G : List PGrp) (l0 : List Int), (∀ g ∈ G, g.2 ≠ []) → (∀ v ∈ l0, In64 v) → Fine (flat G) → (l0.length : Int) + (flat G).length ≤ 4611686018427387904 →
    (grow G).foldl (step k) (toC l0) = toC (l0 ++ nums (flat G) k)
  | [], l0, _, _, _, _ => by simp [grow, flat, nums]
  | g :: G, l0, hne, h0, hf, hl => by
    have hg := hne g (by simp)
    rw [flat_cons] at hf hl ⊢
    have hfl : (((g.2.map fun v => (g.1, v)) ++ flat G).length : Int) = g.2.length + (flat G).length := by simp
    have hg64 : ∀ v ∈ g.2, In64 v := fun v hv => hf.1 (g.1, v) (by simp [hv])
    have hfG : Fine (flat G) := ⟨fun f h => hf.1 f (by simp [h]), by omega⟩
    show (grow G).foldl (step k) (step k (toC l0) (g.1, all g.2)) = _
    rw [nums_append, nums_one]
    by_cases e : g.1 = k
    · have e1 : step k (toC l0) (g.1, all g.2) = toC (l0 ++ g.2) := by
        simp only [step]
        rw [if_pos e]
        rcases l0 with _ | ⟨x, l0⟩
        · rw [List.nil_append, toC_some hg]; rfl
        · rw [toC_some (by simp)]
          show some (mrg (all (x :: l0)) (all g.2)) = toC _
          rw [mrg_all (x :: l0) g.2 h0 hg64 (by omega), toC_some (by simp)]
      rw [e1, if_pos e, ← List.append_assoc]
      refine acc_fold k G (l0 ++ g.2) (fun g' hg' => hne g' (by simp [hg'])) ?_ hfG (by simp; omega)
      intro v hv
      rcases List.mem_append.1 hv with hv | hv
      · exact h0 v hv
      · exact hg64 v hv
    · have e1 : step k (toC l0) (g.1, all g.2) = toC l0 := by simp only [step]; rw [if_neg e]
      rw [e1, if_neg e, List.nil_append]
      exact acc_fold k G l0 (fun g' hg' => hne g' (by simp [hg'])) h0 hfG (by omega)

/-- rows of some numbers each: their table tells all these numbers -/
theorem means_tab (G : List PGrp) (hne : ∀ g ∈ G, g.2 ≠ []) (hf : Fine (flat G)) : Means (tab (grow G)) (flat G) :=
  ⟨rises_tab _, fun k => by
    rw [look_tab]
    have := acc_fold k G [] hne (by simp) hf (by have := hf.2; simp; omega)
    simpa [acc, toC] using this⟩

theorem nums_perm {F F' : List PFact} (p : F.Perm F') (k : List Int) : (nums F k).Perm (nums F' k) := (p.filter _).map _
theorem Means.perm {t : List PRow} {F F' : List PFact} (h : Means t F) (hf : Fine F) (p : F.Perm F') : Means t F' :=
  ⟨h.1, fun k => by rw [h.2]; exact toC_perm (nums_perm p k) (hf.nums k).1 (hf.nums k).2⟩
theorem Means.unique {t t' : List PRow} {F : List PFact} (h : Means t F) (h' : Means t' F) : t = t' :=
  ext h.1 h'.1 fun k => by rw [h.2, h'.2]

theorem flat_one (k0 : List Int) (p : PFact) (f : List Int → List PFact) : ∀ (ks : List (List Int)), ks.Nodup → k0 ∈ ks →
    (ks.flatMap fun k => if k0 = k then p :: f k else f k).Perm (p :: ks.flatMap f)
  | [], _, h => by simp at h
  | k :: ks, hn, hm => by
    have hn' := List.nodup_cons.1 hn
    simp only [List.flatMap_cons]
    by_cases e : k0 = k
    · have e2 : (ks.flatMap fun k => if k0 = k then p :: f k else f k) = ks.flatMap f := by
        have : ∀ k' ∈ ks, (if k0 = k' then p :: f k' else f k') = f k' := fun k' hk' => if_neg fun e' => hn'.1 (by rw [← e, e']; exact hk')
        rw [List.flatMap_def, List.flatMap_def, List.map_congr_left this]
      rw [if_pos e, e2, List.cons_append]
    · have hm' : k0 ∈ ks := by simpa [e] using hm
      rw [if_neg e]
      have := flat_one k0 p f ks hn'.2 hm'
      exact (this.append_left (f k)).trans List.perm_middle

theorem flat_keys (ks : List (List Int)) (hn : ks.Nodup) : ∀ (F : List PFact), (∀ f ∈ F, f.1 ∈ ks) → (ks.flatMap fun k => (nums F k).map fun v => (k, v)).Perm F
  | [], _ => by simp [nums]
  | f :: F, h => by
    have e : (ks.flatMap fun k => (nums (f :: F) k).map fun v => (k, v)) = ks.flatMap fun k => if f.1 = k then f :: (nums F k).map (fun v => (k, v)) else (nums F k).map fun v => (k, v) := by
      rw [List.flatMap_def, List.flatMap_def]
      congr 1
      refine List.map_congr_left fun k _ => ?_
      by_cases e : f.1 = k
      · rw [if_pos e]
        simp only [nums, List.filter_cons, e, decide_true, if_true, List.map_cons]
        rw [← e]
      · rw [if_neg e]
        simp [nums, e]
    rw [e]
    exact (flat_one f.1 f _ ks hn (h f (by simp))).trans ((flat_keys ks hn F fun g hg => h g (by simp [hg])).cons f)

theorem Rises.nodup {t : List PRow} (h : Rises t) : (t.map (·.1)).Nodup := by
  unfold Rises at h
  rw [List.Nodup, List.pairwise_map]
  exact h.imp fun hxy => cmpL_ne hxy

/-- a table of facts is rows of some numbers each, which are these facts -/
theorem Means.groups {t : List PRow} {F : List PFact} (h : Means t F) : ∃ G : List PGrp, t = grow G ∧ (∀ g ∈ G, g.2 ≠ []) ∧ (flat G).Perm F := by
  have hx : ∀ x ∈ t, nums F x.1 ≠ [] ∧ x.2 = all (nums F x.1) := fun x hx => by
    have e := h.2 x.1
    rw [look_mem h.1 hx] at e
    have hne : nums F x.1 ≠ [] := fun e0 => by rw [e0] at e; simp [toC] at e
    rw [toC_some hne] at e
    injection e with e
    exact ⟨hne, e⟩
  refine ⟨t.map fun x => (x.1, nums F x.1), ?_, ?_, ?_⟩
  · unfold grow
    rw [List.map_map]
    conv => lhs; rw [← List.map_id t]
    refine List.map_congr_left fun x hxt => ?_
    exact Prod.ext rfl (hx x hxt).2
  · intro g hg
    obtain ⟨x, hxt, rfl⟩ := List.mem_map.1 hg
    exact (hx x hxt).1
  · have := flat_keys (t.map (·.1)) h.1.nodup F fun f hf => by
      have e := h.2 f.1
      have hne : nums F f.1 ≠ [] := by
        intro e0
        have : f.2 ∈ nums F f.1 := by
          simp only [nums, List.mem_map, List.mem_filter, decide_eq_true_eq]
          exact ⟨f, ⟨hf, rfl⟩, rfl⟩
        rw [e0] at this; simp at this
      rw [toC_some hne] at e
      exact List.mem_map.2 ⟨_, mem_look e, rfl⟩
    refine List.Perm.trans ?_ this
    unfold flat
    rw [List.flatMap_map, List.flatMap_map]

/-- the rows of facts -/
def rowsOf (F : List PFact) : List PRow := F.map fun f => (f.1, one f.2)
theorem rowsOf_eq (F : List PFact) : rowsOf F = grow (F.map fun f => (f.1, [f.2])) := by
  unfold rowsOf grow
  rw [List.map_map]
  refine List.map_congr_left fun f hf => ?_
  simp [cell.all, cell.allOn, mrg, zero]
theorem flat_ones (F : List PFact) : flat (F.map fun f => (f.1, [f.2])) = F := by
  unfold flat
  induction F with
  | nil => rfl
  | cons f F ih => rw [List.map_cons, List.flatMap_cons, ih]; rfl
theorem means_make (F : List PFact) (h : Fine F) : Means (tab (rowsOf F)) F := by
  have := means_tab (F.map fun f => (f.1, [f.2])) (fun g hg => by obtain ⟨f, _, rfl⟩ := List.mem_map.1 hg; simp) (by rw [flat_ones]; exact h)
  rw [flat_ones, ← rowsOf_eq F] at this
  exact this

theorem grow_append (G G' : List PGrp) : grow (G ++ G') = grow G ++ grow G' := by simp [grow]
theorem flat_append (G G' : List PGrp) : flat (G ++ G') = flat G ++ flat G' := by simp [flat]
theorem means_merge {t t' : List PRow} {F F' : List PFact} (h : Means t F) (h' : Means t' F') (hf : Fine (F ++ F')) : Means (tab (t ++ t')) (F ++ F') := by
  obtain ⟨G, rfl, hn, p⟩ := h.groups
  obtain ⟨G', rfl, hn', p'⟩ := h'.groups
  rw [← grow_append]
  have pp : (flat (G ++ G')).Perm (F ++ F') := by rw [flat_append]; exact p.append p'
  refine (means_tab (G ++ G') (fun g hg => ?_) (hf.perm pp.symm)).perm (hf.perm pp.symm) pp
  rcases List.mem_append.1 hg with hg | hg
  · exact hn g hg
  · exact hn' g hg

/-- rows at other keys -/
def remap (g : List Int → List Int) (t : List PRow) : List PRow := t.map fun x => (g x.1, x.2)
def remapF (g : List Int → List Int) (F : List PFact) : List PFact := F.map fun f => (g f.1, f.2)
theorem flat_remap (g : List Int → List Int) (G : List PGrp) : flat (G.map fun x => (g x.1, x.2)) = remapF g (flat G) := by
  unfold flat remapF
  rw [List.flatMap_map, List.map_flatMap]
  simp [Function.comp_def]
theorem Fine.remap {F : List PFact} (h : Fine F) (g : List Int → List Int) : Fine (remapF g F) :=
  ⟨fun f hf => by obtain ⟨x, hx, rfl⟩ := List.mem_map.1 hf; exact h.1 x hx, by unfold remapF; rw [List.length_map]; exact h.2⟩
theorem means_roll {t : List PRow} {F : List PFact} (h : Means t F) (hf : Fine F) (g : List Int → List Int) : Means (tab (remap g t)) (remapF g F) := by
  obtain ⟨G, rfl, hn, p⟩ := h.groups
  have e : remap g (grow G) = grow (G.map fun x => (g x.1, x.2)) := by simp [remap, grow, Function.comp_def]
  have pp : (flat (G.map fun x => (g x.1, x.2))).Perm (remapF g F) := by rw [flat_remap]; exact p.map _
  rw [e]
  refine (means_tab _ (fun x hx => ?_) ((hf.remap g).perm pp.symm)).perm ((hf.remap g).perm pp.symm) pp
  obtain ⟨y, hy, rfl⟩ := List.mem_map.1 hx
  exact hn y hy

/-- as many numbers as facts -/
def count (t : List PRow) : Int := (t.map fun x => x.2.n).sum
theorem count_means {t : List PRow} {F : List PFact} (h : Means t F) (hf : Fine F) : count t = F.length := by
  obtain ⟨G, rfl, hn, p⟩ := h.groups
  rw [← p.length_eq]
  have hf2 := hf.perm p.symm
  clear p h hf
  induction G with
  | nil => simp [count, grow, flat]
  | cons g G ih =>
    rw [flat_cons] at hf2 ⊢
    have hfl : (((g.2.map fun v => (g.1, v)) ++ flat G).length : Int) = g.2.length + (flat G).length := by simp
    have hb := hf2.2
    have ih' := ih (fun g' hg' => hn g' (by simp [hg'])) ⟨fun f hf => hf2.1 f (by simp [hf]), by omega⟩
    have e : (all g.2).n = g.2.length := by
      have hg := hn g (by simp)
      have h64 : ∀ v ∈ g.2, In64 v := fun v hv => hf2.1 (g.1, v) (by simp [hv])
      have hl : (g.2.length : Int) ≤ 4611686018427387904 := by omega
      generalize g.2 = l at hg h64 hl
      rcases l with _ | ⟨v, l⟩
      · exact absurd rfl hg
      · have hl2 : ((v :: l).length : Int) = l.length + 1 := by simp
        rw [cell.all_cons v l (h64 v (by simp)) (by omega)]; simp only; omega
    simp only [count, grow, List.map_cons, List.sum_cons] at ih' ⊢
    rw [ih', e, hfl]
end Go.Proofs.YtgimknplckkiaaaDoor.table
