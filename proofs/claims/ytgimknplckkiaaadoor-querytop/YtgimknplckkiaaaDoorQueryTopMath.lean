/-
  At the last level of all there is one row at most: plain; the lists that the walk of QueryTop writes.
-/
import Derived.Test.YtgimknplckkiaaaDoorQueryWork
import Derived.Test.YtgimknplckkiaaaDoorQueryKnown
namespace Go.Proofs.YtgimknplckkiaaaDoor.query
open Go.ChangeShapes Go.WideShapes Go.ChangeAt Go.RowKit Go.Deep
open Go.Proofs.YtgimknplckkiaaaDoor.dims
open Go.Proofs.YtgimknplckkiaaaDoor.table
open Go.Proofs.YtgimknplckkiaaaDoor.dice (allB allB_true allB_false allB_get allB_iff wtn wtn_iff inAt mix mix_set mix_zero mix_all mix_len own_set own_get own_oth own_base nth_ext)
open Go.Proofs.YtgimknplckkiaaaDoor.cell (C4 mrg all one zero In64)
set_option linter.unusedVariables false
set_option maxRecDepth 100000

/-- the last levels -/
def topL (ds : List Dm) : List Int := (List.range ds.length).map fun i => ((dn ds i).l.length : Int) + 1
theorem topL_len (ds : List Dm) : (topL ds).length = ds.length := by simp [topL]
theorem topL_nth {ds : List Dm} {i : Nat} (hi : i < ds.length) : nth (topL ds) i = ((dn ds i).l.length : Int) + 1 := by simp [topL, nth, hi]
theorem top_lev {ds : List Dm} {n : Nat} (hn : ds.length = n) : Lev ds n (zeros n) (topL ds) := by
  refine ⟨zeros_len n, by rw [topL_len, hn], fun i hi => ?_⟩
  rw [zeros_nth, topL_nth (by omega)]
  omega
theorem top_at {ds : List Dm} {n : Nat} {k : List Int} (hn : ds.length = n) (hk : Mem n k) : atL ds (zeros ds.length) (topL ds) k = zeros n := by
  refine nth_ext (by rw [atL_len, zeros_len, hn]) fun i hi => ?_
  rw [zeros_len] at hi
  rw [atL_nth _ _ _ _ (by omega), zeros_nth]
  unfold atV raiseV
  have h := hk.2 i hi
  rw [zeros_nth, topL_nth (by omega), if_neg (by omega), if_neg (by omega), if_pos rfl]
theorem top_keys {ds : List Dm} {n : Nat} {lo hi : List Int} {F : List PFact} (hn : ds.length = n) (hk : ∀ f ∈ F, Mem n f.1) : ∀ f ∈ runF ds (topL ds) lo hi F, f.1 = zeros n := by
  intro f hf
  unfold runF remapF at hf
  obtain ⟨g, hg, rfl⟩ := List.mem_map.1 hf
  exact top_at hn (hk g (List.mem_filter.1 hg).1)
/-- facts at one key are one row -/
theorem top_one {n : Nat} {T : List PRow} {G : List PFact} {k0 : List Int} (h : MT n T G) (hk : ∀ f ∈ G, f.1 = k0) (hne : G ≠ []) : ∃ c : C4, T = [(k0, c)] ∧ c.n = G.length := by
  have hc := count_means h.m h.f
  have key : ∀ x ∈ T, x.1 = k0 := fun x hx => by
    have e := h.m.2 x.1
    rw [look_mem h.m.1 hx] at e
    have hne : nums G x.1 ≠ [] := fun e0 => by rw [e0] at e; simp [toC] at e
    obtain ⟨v, hv⟩ := List.exists_mem_of_ne_nil _ hne
    exact hk _ (nums_mem hv)
  have hr := h.m.1
  rcases T with _ | ⟨x, _ | ⟨y, t⟩⟩
  · simp [count] at hc
    exact absurd (List.eq_nil_of_length_eq_zero (by omega)) hne
  · have e := key x (by simp)
    refine ⟨x.2, by rw [← e], ?_⟩
    simpa [count] using hc
  · have h1 := (List.pairwise_cons.1 hr).1 y (by simp)
    rw [key x (by simp), key y (by simp), cmpL_self] at h1
    omega
theorem runF_count (ds : List Dm) (L lo hi : List Int) (F : List PFact) : (runF ds L lo hi F).length = (cutF (wtn lo hi) F).length := by unfold runF remapF; rw [List.length_map]

/-- the last levels, laid place by place -/
structure TS1 (W0 : World) (base g n q : Nat) (A L : List Int) (k : Nat) (gU : Nat) (x1 x2 x3 : Value) (W : World) : Prop where
  own : W.ownsRow base 3 1 (.slice (some ⟨g, 0, none⟩) n q) n (vals (mix k A L))
  bel : Below base W0 W
  cel : Cel3 gU x1 x2 x3 W
theorem TS1.step {W0 W : World} {base g n q : Nat} {A L : List Int} {k gU : Nat} {x1 x2 x3 : Value} (h : TS1 W0 base g n q A L k gU x1 x2 x3 W) (hA : A.length = n) (hL : L.length = n) (hk : k < n) (hg : g ≠ gU) (v : Int) (hv : nth A k = v) : TS1 W0 base g n q A L (k + 1) gU x1 x2 x3 (W.setCell ⟨g, k, none⟩ (.int .i64 v)).drew := by
  have ho := h.own
  have hb := own_base ho
  refine ⟨?_, (h.bel.setCell hb.1 _).drew, ?_, ?_, ?_⟩
  · have := own_set (k := k) (v := v) ho
    rw [← hv, mix_set (by omega) (by omega)] at this
    rw [← hv]; exact this.drew
  · exact (World.cell?_setCell_other _ _ _ _ (by intro e; simp only [Addr.mk.injEq] at e; exact hg e.1)).trans h.cel.c1
  · exact (World.cell?_setCell_other _ _ _ _ (by intro e; simp only [Addr.mk.injEq] at e; exact hg e.1)).trans h.cel.c2
  · exact (World.cell?_setCell_other _ _ _ _ (by intro e; simp only [Addr.mk.injEq] at e; exact hg e.1)).trans h.cel.c3
theorem ask_room {W : World} {base B n c : Nat} {xs : List Value} {e : TypeId} {size : Nat} (h : W.ownsRow base e size (.slice (some ⟨B, 0, none⟩) n c) n xs) : n ≤ c := by
  rcases h.2 with ⟨h1, -⟩ | ⟨g, cap, cur, hv, _, _, hc, _⟩
  · simp at h1
  · simp only [Value.slice.injEq] at hv
    omega
theorem nums_none (k : IntKind) (w : World) : Nums k w none 0 0 [] := ⟨.inl rfl, rfl, Nat.le_refl _, Nat.zero_le _, fun i hi => by simp at hi⟩

/-- is a key within, of the first places -/
def inK (lo hi key : List Int) (k : Nat) : Bool := allB k (inAt lo hi key)
theorem inK_zero (lo hi key : List Int) : inK lo hi key 0 = true := rfl
theorem inK_succ (lo hi key : List Int) (k : Nat) : inK lo hi key (k + 1) = (inK lo hi key k && (decide (nth lo k ≤ nth key k) && decide (nth key k < nth hi k))) := by
  unfold inK allB
  rw [List.range_succ, List.all_append]
  simp [inAt]
theorem inK_wtn {lo hi key : List Int} {n : Nat} (h1 : lo.length = n) (h2 : hi.length = n) (h3 : key.length = n) : inK lo hi key n = wtn lo hi key := by
  unfold inK wtn
  rw [decide_eq_true (show lo.length = key.length by omega), decide_eq_true (show hi.length = key.length by omega), h3]; rfl
theorem cutF_take {F : List PFact} {fs : List Ft} {p : List Int → Bool} {j : Nat} (h : fs.map pf = F) (hj : j < fs.length) : (cutF p (F.take (j + 1))).length = (cutF p (F.take j)).length + (if p (ftn fs j).k = true then 1 else 0) := by
  subst h
  rw [List.take_succ_eq_append_getElem (by simpa using hj), cutF_append, List.length_append]
  congr 1
  simp only [List.getElem_map, ftn_eq hj, cutF]
  by_cases e : p fs[j].k = true
  · simp [pf, e]
  · simp [pf, e]
end Go.Proofs.YtgimknplckkiaaaDoor.query
