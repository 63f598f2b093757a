/-
  Members by two levels or at once; levels, keys and dimensions that choices make: what holds of them. Nothing of a walk.
-/
import Derived.Test.YtgimknplckkiaaaDoorDimsAtF
import Derived.Test.YtgimknplckkiaaaDoorDimsK
namespace Go.Proofs.YtgimknplckkiaaaDoor.dims
open Go.ChangeShapes Go.WideShapes Go.ChangeAt Go.RowKit Go.Deep
set_option linter.unusedVariables false
set_option maxRecDepth 100000

theorem raise0 {l : List Int} (hS : ∀ i, i < l.length → StepOk l i) {n x : Int} (h0 : 0 ≤ n) (h1 : n ≤ (l.length : Int) + 1) (hx : 0 ≤ x) : raiseV l 0 n x = if n = 0 then x else if n = (l.length : Int) + 1 then 0 else x / dv l n.toNat := by
  unfold raiseV
  rw [if_neg (by omega)]
  by_cases e : n = 0
  · rw [if_pos e.symm, if_pos e]
  · rw [if_neg (fun h => e h.symm), if_neg e]
    split
    · rfl
    · simp [dv]

theorem raise0_in {l : List Int} (hS : ∀ i, i < l.length → StepOk l i) {n x : Int} (h0 : 0 ≤ n) (h1 : n ≤ (l.length : Int) + 1) (hx : 0 ≤ x) : 0 ≤ raiseV l 0 n x ∧ raiseV l 0 n x ≤ x := by
  rw [raise0 hS h0 h1 hx]
  split
  · exact ⟨hx, Int.le_refl _⟩
  · split
    · exact ⟨Int.le_refl _, hx⟩
    · exact quo_le hx (dv_le hS (by omega)).1

/-- by two steps, or at once -/
theorem raise_steps {l : List Int} (hS : ∀ i, i < l.length → StepOk l i) {m t v : Int} (h0 : 0 ≤ m) (hmt : m ≤ t) (ht : t ≤ (l.length : Int) + 1) (hv : 0 ≤ v) : raiseV l m t (raiseV l 0 m v) = raiseV l 0 t v := by
  have hu := (raise0_in hS h0 (by omega) hv).1
  by_cases e : m = t
  · subst e
    generalize raiseV l 0 m v = u at hu
    unfold raiseV
    rw [if_neg (by omega), if_pos rfl]
  · by_cases e2 : t = (l.length : Int) + 1
    · rw [raise0 hS (by omega) ht hv, if_neg (by omega), if_pos e2]
      generalize raiseV l 0 m v = u at hu
      unfold raiseV
      rw [if_neg (by omega), if_neg e, if_pos e2]
    · rw [raise0 hS (by omega) ht hv, if_neg (by omega), if_neg e2, raise0 hS h0 (by omega) hv]
      have hw : (if m = 0 then v else if m = (l.length : Int) + 1 then 0 else v / dv l m.toNat) = v / dv l m.toNat := by
        by_cases e3 : m = 0
        · subst e3; simp [dv]
        · rw [if_neg e3, if_neg (by omega)]
      rw [hw]
      have hd := dv_div hS (j := m.toNat) (k := t.toNat) (by omega) (by omega)
      have hq := quo_le hv hd.1
      generalize hV : v / dv l m.toNat = u at hq
      unfold raiseV
      rw [if_neg (by omega), if_neg e, if_neg e2, ← hV, Int.ediv_ediv_of_nonneg (by omega), ← hd.2.2]

theorem raise_same {l : List Int} {v : Int} (hv : 0 ≤ v) : raiseV l 0 0 v = v := by
  unfold raiseV
  rw [if_neg (by omega), if_pos rfl]

def zeros (n : Nat) : List Int := List.replicate n 0
theorem zeros_len (n : Nat) : (zeros n).length = n := by simp [zeros]
theorem zeros_nth (n i : Nat) : nth (zeros n) i = 0 := by
  by_cases h : i < n
  · simp [nth, zeros, h]
  · exact nth_out (by rw [zeros_len]; exact h)
theorem zeros_ints (W : World) (n : Nat) : Ints (W.alloc (.cells (madeCells #[.int .i64 0] n) 3)) (some ⟨W.heap.size, 0, none⟩) (zeros n) := by
  refine .inr ⟨_, _, rfl, fun i hi => ?_⟩
  rw [zeros_len] at hi
  rw [zeros_nth]
  simp [go_sem, made_get _ _ _ hi]

theorem KeyRes.out {w W : World} {L : List Int} {v : Value} (h : KeyRes w L v W) : ∃ a cap, v = .slice a L.length cap ∧ Ints W a L ∧ L.length ≤ cap := (own_out h.1).1

theorem list_eq {L M : List Int} {n : Nat} (h1 : L.length = n) (h2 : M.length = n) (h : ∀ i, i < n → nth L i = nth M i) : L = M := eq_of_nth (by omega) fun i hi => h i (by omega)

/-- what the statement comes to -/
structure Ways (ds : List Dm) (n : Nat) (mid top k : List Int) : Prop where
  snd : ∀ i, i < n → SoundD (dn ds i).sz (dn ds i).l
  m : ∀ i, i < n → 0 ≤ nth mid i ∧ nth mid i ≤ nth top i ∧ nth top i ≤ ((dn ds i).l.length : Int) + 1
  k : ∀ i, i < n → 0 ≤ nth k i ∧ nth k i ≤ 10000

theorem Ways.two {ds : List Dm} {n : Nat} {mid top k : List Int} (h : Ways ds n mid top k) (hn : ds.length = n) : atL ds mid top (atL ds (zeros n) mid k) = atL ds (zeros n) top k := by
  refine list_eq (n := n) (by rw [atL_len, hn]) (by rw [atL_len, hn]) fun i hi => ?_
  rw [atL_nth _ _ _ _ (by omega), atL_nth _ _ _ _ (by omega)]
  unfold atV
  rw [atL_nth _ _ _ _ (by omega), zeros_nth]
  unfold atV
  rw [zeros_nth]
  obtain ⟨h1, h2, h3⟩ := h.m i hi
  exact raise_steps (h.snd i hi).2.2.2 h1 h2 h3 (h.k i hi).1
theorem Ways.same {ds : List Dm} {n : Nat} {mid top k : List Int} (h : Ways ds n mid top k) (hn : ds.length = n) (hk : k.length = n) : atL ds (zeros n) (zeros n) k = k := by
  refine list_eq (n := n) (by rw [atL_len, hn]) hk fun i hi => ?_
  rw [atL_nth _ _ _ _ (by omega)]
  unfold atV
  rw [zeros_nth]
  exact raise_same (h.k i hi).1
theorem Ways.le {ds : List Dm} {n : Nat} {mid top k : List Int} (h : Ways ds n mid top k) (hn : ds.length = n) : ∀ i, i < n → nth (atL ds (zeros n) mid k) i ≤ 9223372036854775807 := fun i hi => by
  rw [atL_nth _ _ _ _ (by omega)]
  unfold atV
  rw [zeros_nth]
  obtain ⟨h1, h2, h3⟩ := h.m i hi
  have := (raise0_in (h.snd i hi).2.2.2 h1 (by omega) (h.k i hi).1).2
  have := (h.k i hi).2
  omega

theorem sndL_all {ds : List Dm} (hs : sndL ds = true) : ∀ i, i < ds.length → SoundD (dn ds i).sz (dn ds i).l := fun i hi => by
  have hd : ds.all sndD = true := by unfold sndL at hs; simp only [Bool.and_eq_true] at hs; exact hs.2.2
  exact (sndB_iff _ _).1 (all_at hd hi)

theorem lev_in {ds : List Dm} {ch lo : List Int} {i : Nat} (hi : i < ds.length) (h0 : 0 ≤ nth lo i) (h1 : nth lo i ≤ ((dn ds i).l.length : Int) + 1) : nth lo i ≤ nth (levL ds ch lo) i ∧ nth (levL ds ch lo) i ≤ ((dn ds i).l.length : Int) + 1 := by
  rw [levL_nth _ _ _ hi]
  unfold levV
  have := Int.emod_nonneg (nth ch i) (by omega : ((dn ds i).l.length : Int) + 2 - nth lo i ≠ 0)
  have := Int.emod_lt_of_pos (nth ch i) (by omega : 0 < ((dn ds i).l.length : Int) + 2 - nth lo i)
  omega
theorem key_in {ds : List Dm} {ch : List Int} {i : Nat} (hi : i < ds.length) (h1 : 1 ≤ (dn ds i).sz) : 0 ≤ nth (keyL ds ch) i ∧ nth (keyL ds ch) i < (dn ds i).sz := by
  rw [keyL_nth _ _ hi]
  unfold keyV
  exact ⟨Int.emod_nonneg _ (by omega), Int.emod_lt_of_pos _ (by omega)⟩

/-- what 'Of' hands out, as the walks take it -/
theorem OfRes.out {w W : World} {cs : List Dm} {v : Value} (h : OfRes w cs v W) : ∃ ds g cap, v = .slice (some ⟨g, 0, none⟩) ds.length cap ∧ DimsIn W (some ⟨g, 0, none⟩) ds ∧ ds.map pr = ofL cs ∧ sndL ds = true ∧ 1 ≤ ds.length ∧ ds.length ≤ 4 ∧ Below w.heap.size w W := by
  obtain ⟨ds, he, ho⟩ := h
  have hl : ds.length = (ofL cs).length := by rw [← he]; simp
  have hb := ofL_len cs
  obtain ⟨g, cap, hv, _, hd⟩ := ho.out (by omega)
  exact ⟨ds, g, cap, hv, hd, he, of_sndL he, by omega, by omega, ho.bel⟩
end Go.Proofs.YtgimknplckkiaaaDoor.dims
