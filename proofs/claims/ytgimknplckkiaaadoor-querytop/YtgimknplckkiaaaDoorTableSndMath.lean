/-
  A table of facts at members is one, also rolled and merged; levels that may be; what Roll comes to. Plain.
-/
import Derived.Test.YtgimknplckkiaaaDoorTableFacts
import Derived.Test.YtgimknplckkiaaaDoorTableAK
import Derived.Test.YtgimknplckkiaaaDoorDimsRaise
import Derived.Test.YtgimknplckkiaaaDoorTableBK
namespace Go.Proofs.YtgimknplckkiaaaDoor.table
open Go.ChangeShapes Go.WideShapes Go.ChangeAt Go.RowKit Go.Deep
open Go.Proofs.YtgimknplckkiaaaDoor.dims
open Go.Proofs.YtgimknplckkiaaaDoor.dice (Kr kn KeysIn)
open Go.Proofs.YtgimknplckkiaaaDoor.cell (C4 mrg all one zero In64)
set_option linter.unusedVariables false
set_option maxRecDepth 100000

/-- what may stand in a table of so many places -/
def okP (p : Int) (x : PRow) : Prop := (x.1.length : Int) = p ∧ posK x.1 = true ∧ x.2.n ≠ 0 ∧ cell.sound x.2 = true

theorem sndT_plain {rs : List Rw} {t : List PRow} {p : Int} (e : rs.map plain = t) (h : Rises t) (hx : ∀ x ∈ t, okP p x) : sndT rs p = true := by
  subst e
  refine sndT_of fun i hi => ?_
  obtain ⟨h1, h2, h3, h4⟩ := hx (plain (rwn rs i)) (List.mem_map.2 ⟨_, rwn_mem hi, rfl⟩)
  have hR : sndR (rwn rs i) p = true := by
    unfold sndR
    have h1' : ((rwn rs i).k.length : Int) = p := h1
    have h2' : posK (rwn rs i).k = true := h2
    have h3' : (rwn rs i).c.n ≠ 0 := h3
    have h4' : cell.sound (rwn rs i).c = true := h4
    rw [decide_eq_true h1', h2', decide_eq_true h3', h4']; rfl
  unfold okAt
  rw [hR, Bool.true_and]
  cases i with
  | zero => simp
  | succ j =>
    have hh := List.pairwise_iff_getElem.1 h j (j + 1) (by simp; omega) (by simpa using hi) (by omega)
    have : cmpL (rwn rs j).k (rwn rs (j + 1)).k < 0 := by
      rw [rwn_eq hi, rwn_eq (by omega)]
      simpa [plain] using hh
    simp [this]

theorem Means.okP {t : List PRow} {F : List PFact} {p : Nat} (h : Means t F) (hf : Fine F) (hk : ∀ f ∈ F, f.1.length = p ∧ posK f.1 = true) : ∀ x ∈ t, okP p x := by
  intro x hx
  have e := h.2 x.1
  rw [look_mem h.1 hx] at e
  have hne : nums F x.1 ≠ [] := fun e0 => by rw [e0] at e; simp [toC] at e
  rw [toC_some hne] at e
  injection e with e
  obtain ⟨v, hv⟩ := List.exists_mem_of_ne_nil _ hne
  have hm := hk _ (nums_mem hv)
  have hfn := hf.nums x.1
  refine ⟨by rw [hm.1], hm.2, ?_, ?_⟩
  · rw [e]
    generalize nums F x.1 = l at hne hfn
    rcases l with _ | ⟨u, l⟩
    · exact absurd rfl hne
    · have hl : ((u :: l).length : Int) = l.length + 1 := by simp
      rw [cell.all_cons u l (hfn.1 u (by simp)) (by have := hfn.2; omega)]
      simp only
      omega
  · rw [e]; exact cell.sound_all _ hfn.1 (by have := hfn.2; omega)
theorem Means.snd {rs : List Rw} {t : List PRow} {F : List PFact} {p : Nat} (h : Means t F) (hf : Fine F) (hk : ∀ f ∈ F, f.1.length = p ∧ posK f.1 = true) (e : rs.map plain = t) : sndT rs p = true := sndT_plain e h.1 (h.okP hf hk)

/-- a key of members, or of what is above them -/
def Mem (n : Nat) (k : List Int) : Prop := k.length = n ∧ ∀ i, i < n → 0 ≤ nth k i ∧ nth k i ≤ 10000
theorem Mem.pos {n : Nat} {k : List Int} (h : Mem n k) : k.length = n ∧ posK k = true := ⟨h.1, posK_of fun i hi => (h.2 i (by rw [← h.1]; exact hi)).1⟩
def Sized (ds : List Dm) (n : Nat) : Prop := ds.length = n ∧ ∀ i, i < n → 1 ≤ (dn ds i).sz ∧ (dn ds i).sz ≤ 10000
theorem key_mem {ds : List Dm} {n : Nat} (h : Sized ds n) (ch : List Int) : Mem n (keyL ds ch) := ⟨by rw [keyL_len, h.1], fun i hi => by
  have h1 := key_in (ch := ch) (ds := ds) (i := i) (by rw [h.1]; exact hi) (h.2 i hi).1
  have h2 := h.2 i hi
  omega⟩
theorem fact_mem {ds : List Dm} {n : Nat} (h : Sized ds n) (ks : List Kr) (vs : List Int) (m : Nat) : ∀ f ∈ factL ds ks vs m, Mem n f.1 := by
  intro f hf
  obtain ⟨i, -, rfl⟩ := List.mem_map.1 hf
  exact key_mem h _
theorem fact_fine {ds : List Dm} {ks : List Kr} {vs : List Int} {m : Nat} (hv : ∀ x ∈ vs, In64 x) (hm : m ≤ 200) : Fine (factL ds ks vs m) := by
  refine ⟨fun f hf => ?_, by rw [factL_len]; omega⟩
  obtain ⟨i, -, rfl⟩ := List.mem_map.1 hf
  show In64 (valAt vs i)
  unfold valAt
  split
  · unfold In64; omega
  · rename_i h0
    have hl : i % vs.length < vs.length := Nat.mod_lt _ (by omega)
    exact hv _ (by simp [nth, hl])
theorem i64_all {w : World} {a : Option Addr} {n c : Nat} {vs : List Int} (h : Nums .i64 w a n c vs) : ∀ x ∈ vs, In64 x := fun x hx => by
  obtain ⟨i, hi, rfl⟩ := List.mem_iff_getElem.1 hx
  have h1 := h.wf i hi
  have : In64 (nth vs i) := by simpa [Lit.wf, IntKind.min, IntKind.max, IntKind.signed, IntKind.bits, cell.In64] using h1
  simpa [nth, hi] using this

/-- levels that may be -/
def lvAt (ds : List Dm) (f t : List Int) (i : Nat) : Bool := decide (0 ≤ nth f i) && (decide (nth f i ≤ nth t i) && decide (nth t i < ((dn ds i).l.length : Int) + 2))
def lvl (ds : List Dm) (f t : List Int) : Bool := decide (f.length = ds.length) && (decide (t.length = ds.length) && (List.range ds.length).all (lvAt ds f t))
theorem lvl_f {ds : List Dm} {f t : List Int} (h : ¬ f.length = ds.length) : lvl ds f t = false := by unfold lvl; simp [h]
theorem lvl_t {ds : List Dm} {f t : List Int} (h : ¬ t.length = ds.length) : lvl ds f t = false := by unfold lvl; simp [h]
theorem lvl_of {ds : List Dm} {f t : List Int} (h1 : f.length = ds.length) (h2 : t.length = ds.length) (h : ∀ i, i < ds.length → lvAt ds f t i = true) : lvl ds f t = true := by
  unfold lvl
  rw [decide_eq_true h1, decide_eq_true h2, Bool.true_and, Bool.true_and, List.all_eq_true]
  exact fun i hi => h i (List.mem_range.1 hi)
theorem lvl_not {ds : List Dm} {f t : List Int} {k : Nat} (hk : k < ds.length) (h : lvAt ds f t k = false) : lvl ds f t = false := by
  cases e : lvl ds f t with
  | false => rfl
  | true =>
    unfold lvl at e
    simp only [Bool.and_eq_true] at e
    have := (List.all_eq_true.1 e.2.2) k (List.mem_range.2 hk)
    rw [h] at this; cases this
theorem lvl_at {ds : List Dm} {f t : List Int} (h : lvl ds f t = true) : f.length = ds.length ∧ t.length = ds.length ∧ ∀ i, i < ds.length → 0 ≤ nth f i ∧ nth f i ≤ nth t i ∧ nth t i < ((dn ds i).l.length : Int) + 2 := by
  unfold lvl at h
  simp only [Bool.and_eq_true, decide_eq_true_eq] at h
  refine ⟨h.1, h.2.1, fun i hi => ?_⟩
  have := (List.all_eq_true.1 h.2.2) i (List.mem_range.2 hi)
  unfold lvAt at this
  simp only [Bool.and_eq_true, decide_eq_true_eq] at this
  exact this

/-- what Roll answers -/
def rollE (ds : List Dm) (rs : List Rw) (f t : List Int) : Int := if sndL ds = true then if lvl ds f t = true then if sndT rs ds.length = true then 0 else 1 else 40 else 30
def rollT (ds : List Dm) (rs : List Rw) (f t : List Int) : List PRow := if rollE ds rs f t = 0 then tab (told (atL ds f t) rs) else []
theorem roll_30 {ds : List Dm} {rs : List Rw} {f t : List Int} (h : sndL ds = false) : rollE ds rs f t = 30 ∧ rollT ds rs f t = [] := by
  have e : rollE ds rs f t = 30 := by unfold rollE; rw [h]; rfl
  exact ⟨e, by unfold rollT; rw [e]; rfl⟩
theorem roll_40 {ds : List Dm} {rs : List Rw} {f t : List Int} (h : sndL ds = true) (h2 : lvl ds f t = false) : rollE ds rs f t = 40 ∧ rollT ds rs f t = [] := by
  have e : rollE ds rs f t = 40 := by unfold rollE; rw [h, h2]; rfl
  exact ⟨e, by unfold rollT; rw [e]; rfl⟩
theorem roll_1 {ds : List Dm} {rs : List Rw} {f t : List Int} (h : sndL ds = true) (h2 : lvl ds f t = true) (h3 : sndT rs ds.length = false) : rollE ds rs f t = 1 ∧ rollT ds rs f t = [] := by
  have e : rollE ds rs f t = 1 := by unfold rollE; rw [h, h2, h3]; rfl
  exact ⟨e, by unfold rollT; rw [e]; rfl⟩
theorem roll_0 {ds : List Dm} {rs : List Rw} {f t : List Int} (h : sndL ds = true) (h2 : lvl ds f t = true) (h3 : sndT rs ds.length = true) : rollE ds rs f t = 0 ∧ rollT ds rs f t = tab (told (atL ds f t) rs) := by
  have e : rollE ds rs f t = 0 := by unfold rollE; rw [h, h2, h3]; rfl
  exact ⟨e, by unfold rollT; rw [e]; rfl⟩

theorem told_remap (tl : List Int → List Int) (rs : List Rw) : told tl rs = remap tl (rs.map plain) := by
  unfold told remap
  rw [List.map_map]; rfl

/-- what a raised member is -/
theorem raise_in {l : List Int} (hS : ∀ i, i < l.length → StepOk l i) {f t v : Int} (h1 : 0 ≤ f) (h2 : f ≤ t) (h3 : t < (l.length : Int) + 2) (hv : 0 ≤ v) : 0 ≤ raiseV l f t v ∧ raiseV l f t v ≤ v := by
  unfold raiseV
  rw [if_neg (by omega)]
  split
  · omega
  · split
    · omega
    · exact quo_le hv (dv_div hS (j := f.toNat) (k := t.toNat) (by omega) (by omega)).2.1
theorem at_in64 {ds : List Dm} {f t k : List Int} (hs : sndL ds = true) (hl : lvl ds f t = true) (hk : posK k = true) (hkl : k.length = ds.length) (h64 : ∀ x ∈ k, In64 x) : ∀ x ∈ atL ds f t k, In64 x := by
  intro x hx
  obtain ⟨i, hi, rfl⟩ := List.mem_map.1 hx
  have hi2 := List.mem_range.1 hi
  obtain ⟨h1, h2, h3⟩ := (lvl_at hl).2.2 i hi2
  have hp := posK_at hk (k := i) (by omega)
  have h4 : In64 (nth k i) := h64 _ (by simp [nth, show i < k.length by omega])
  have := raise_in (sndL_all hs i hi2).2.2.2 h1 h2 h3 hp
  unfold In64 at h4 ⊢
  unfold atV
  omega

/-- levels that choices make, at or above others -/
structure Lev (ds : List Dm) (n : Nat) (f t : List Int) : Prop where
  lf : f.length = n
  lt : t.length = n
  at_ : ∀ i, i < n → 0 ≤ nth f i ∧ nth f i ≤ nth t i ∧ nth t i ≤ ((dn ds i).l.length : Int) + 1
theorem Lev.lvl {ds : List Dm} {n : Nat} {f t : List Int} (h : Lev ds n f t) (hn : ds.length = n) : lvl ds f t = true := by
  refine lvl_of (by rw [h.lf, hn]) (by rw [h.lt, hn]) fun i hi => ?_
  have := h.at_ i (by omega)
  unfold lvAt
  simp only [Bool.and_eq_true, decide_eq_true_eq]
  omega
theorem lev_zero {ds : List Dm} {n : Nat} (hn : ds.length = n) (ch : List Int) : Lev ds n (zeros n) (levL ds ch []) := by
  refine ⟨zeros_len n, by rw [levL_len, hn], fun i hi => ?_⟩
  have e : nth [] i = 0 := nth_out (by simp)
  have := lev_in (ds := ds) (ch := ch) (lo := []) (i := i) (by omega) (by omega) (by omega)
  rw [zeros_nth]
  omega
theorem lev_up {ds : List Dm} {n : Nat} {f t : List Int} (h : Lev ds n f t) (hn : ds.length = n) (ch : List Int) : Lev ds n t (levL ds ch t) := by
  refine ⟨h.lt, by rw [levL_len, hn], fun i hi => ?_⟩
  have h1 := h.at_ i hi
  have := lev_in (ds := ds) (ch := ch) (lo := t) (i := i) (by omega) (by omega) (by omega)
  omega
theorem Lev.trans {ds : List Dm} {n : Nat} {f t u : List Int} (h : Lev ds n f t) (h2 : Lev ds n t u) : Lev ds n f u := ⟨h.lf, h2.lt, fun i hi => by
  have h1 := h.at_ i hi
  have h2 := h2.at_ i hi
  omega⟩
theorem Lev.mem {ds : List Dm} {n : Nat} {f t k : List Int} (h : Lev ds n f t) (hn : ds.length = n) (hs : sndL ds = true) (hk : Mem n k) : Mem n (atL ds f t k) := by
  refine ⟨by rw [atL_len, hn], fun i hi => ?_⟩
  rw [atL_nth _ _ _ _ (by omega)]
  obtain ⟨h1, h2, h3⟩ := h.at_ i hi
  have h4 := hk.2 i hi
  have := raise_in (sndL_all hs i (by omega)).2.2.2 h1 h2 (show nth t i < ((dn ds i).l.length : Int) + 2 by omega) h4.1
  unfold atV
  omega
theorem at_two {ds : List Dm} {n : Nat} {mid top k : List Int} (h1 : Lev ds n (zeros n) mid) (h2 : Lev ds n mid top) (hn : ds.length = n) (hs : sndL ds = true) (hk : Mem n k) : atL ds mid top (atL ds (zeros n) mid k) = atL ds (zeros n) top k :=
  Ways.two (k := k) ⟨fun i hi => sndL_all hs i (by omega), fun i hi => by
    have a := h1.at_ i hi
    have b := h2.at_ i hi
    omega, hk.2⟩ hn

/-- a table of facts at members -/
structure MT (n : Nat) (t : List PRow) (F : List PFact) : Prop where
  m : Means t F
  f : Fine F
  k : ∀ f ∈ F, Mem n f.1
theorem MT.snd {n : Nat} {rs : List Rw} {t : List PRow} {F : List PFact} (h : MT n t F) (e : rs.map plain = t) : sndT rs n = true := h.m.snd h.f (fun f hf => (h.k f hf).pos) e
theorem MT.make {n : Nat} {F : List PFact} (hf : Fine F) (hk : ∀ f ∈ F, Mem n f.1) : MT n (tab (rowsOf F)) F := ⟨means_make F hf, hf, hk⟩
theorem MT.merge {n : Nat} {t t' : List PRow} {F F' : List PFact} (h : MT n t F) (h' : MT n t' F') (hf : Fine (F ++ F')) : MT n (tab (t ++ t')) (F ++ F') := ⟨means_merge h.m h'.m hf, hf, fun f hm => by
  rcases List.mem_append.1 hm with hm | hm
  · exact h.k f hm
  · exact h'.k f hm⟩
theorem MT.roll {n : Nat} {ds : List Dm} {t : List PRow} {F : List PFact} {f u : List Int} (h : MT n t F) (hl : Lev ds n f u) (hn : ds.length = n) (hs : sndL ds = true) : MT n (tab (remap (atL ds f u) t)) (remapF (atL ds f u) F) := ⟨means_roll h.m h.f _, h.f.remap _, fun x hx => by
  obtain ⟨y, hy, rfl⟩ := List.mem_map.1 hx
  exact hl.mem hn hs (h.k y hy)⟩
theorem MT.unique {n : Nat} {t t' : List PRow} {F : List PFact} (h : MT n t F) (h' : MT n t' F) : t = t' := h.m.unique h'.m

/-- what Roll makes of a table of facts -/
theorem MT.rolled {n : Nat} {ds : List Dm} {rs : List Rw} {t : List PRow} {F : List PFact} {f u : List Int} (h : MT n t F) (e : rs.map plain = t) (hl : Lev ds n f u) (hn : ds.length = n) (hs : sndL ds = true) :
    rollE ds rs f u = 0 ∧ ∃ t', rollT ds rs f u = t' ∧ t' = tab (remap (atL ds f u) t) ∧ MT n t' (remapF (atL ds f u) F) := by
  have h0 := roll_0 (rs := rs) hs (hl.lvl hn) (by rw [hn]; exact h.snd e)
  exact ⟨h0.1, _, rfl, by rw [h0.2, told_remap, e], by rw [h0.2, told_remap, e]; exact h.roll hl hn hs⟩

theorem remap_two {n : Nat} {ds : List Dm} {F : List PFact} {mid top : List Int} (h1 : Lev ds n (zeros n) mid) (h2 : Lev ds n mid top) (hn : ds.length = n) (hs : sndL ds = true) (hk : ∀ f ∈ F, Mem n f.1) : remapF (atL ds mid top) (remapF (atL ds (zeros n) mid) F) = remapF (atL ds (zeros n) top) F := by
  unfold remapF
  rw [List.map_map]
  refine List.map_congr_left fun f hf => ?_
  simp only [Function.comp_apply]
  rw [at_two h1 h2 hn hs (hk f hf)]
theorem remap_append (g : List Int → List Int) (F F' : List PFact) : remapF g (F ++ F') = remapF g F ++ remapF g F' := by simp [remapF]
end Go.Proofs.YtgimknplckkiaaaDoor.table
