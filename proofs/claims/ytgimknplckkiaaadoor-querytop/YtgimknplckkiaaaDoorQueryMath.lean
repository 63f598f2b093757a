/-
  Queries by places: levels that may be asked, what is cut, what is told and joined; tables of facts that are cut and joined. Plain.
-/
import Derived.Test.YtgimknplckkiaaaDoorTableSndMath
import Derived.Test.YtgimknplckkiaaaDoorDiceEK
namespace Go.Proofs.YtgimknplckkiaaaDoor.query
open Go.ChangeShapes Go.WideShapes Go.ChangeAt Go.RowKit Go.Deep
open Go.Proofs.YtgimknplckkiaaaDoor.dims
open Go.Proofs.YtgimknplckkiaaaDoor.table
open Go.Proofs.YtgimknplckkiaaaDoor.dice (allB wtn wtn_iff wtn_len bx bx_true bx_at bxAt cutR cut_places)
open Go.Proofs.YtgimknplckkiaaaDoor.cell (C4 mrg all one zero In64)
set_option linter.unusedVariables false
set_option maxRecDepth 100000

/-- levels that may be asked, from level 0 of all -/
def lvq (ds : List Dm) (L : List Int) : Bool := lvl ds (zeros ds.length) L
theorem lvq_len {ds : List Dm} {L : List Int} (h : ¬ L.length = ds.length) : lvq ds L = false := lvl_t h
def lqAt (ds : List Dm) (L : List Int) (i : Nat) : Bool := decide (0 ≤ nth L i) && decide (nth L i < ((dn ds i).l.length : Int) + 2)
theorem lqAt_eq (ds : List Dm) (L : List Int) (n i : Nat) : lvAt ds (zeros n) L i = lqAt ds L i := by
  unfold lvAt lqAt
  rw [zeros_nth, decide_eq_true (show (0 : Int) ≤ 0 by omega), Bool.true_and]
theorem lvq_of {ds : List Dm} {L : List Int} (h : L.length = ds.length) (h2 : ∀ i, i < ds.length → lqAt ds L i = true) : lvq ds L = true :=
  lvl_of (zeros_len _) h fun i hi => by rw [lqAt_eq]; exact h2 i hi
theorem lvq_not {ds : List Dm} {L : List Int} {k : Nat} (hk : k < ds.length) (h : lqAt ds L k = false) : lvq ds L = false := lvl_not hk (by rw [lqAt_eq]; exact h)
theorem lvq_at {ds : List Dm} {L : List Int} (h : lvq ds L = true) : L.length = ds.length ∧ ∀ i, i < ds.length → 0 ≤ nth L i ∧ nth L i < ((dn ds i).l.length : Int) + 2 := by
  obtain ⟨-, h2, h3⟩ := lvl_at h
  refine ⟨h2, fun i hi => ?_⟩
  have := h3 i hi
  rw [zeros_nth] at this
  exact this.2
theorem lvq_lev {ds : List Dm} {L : List Int} {n : Nat} (h : Lev ds n (zeros n) L) (hn : ds.length = n) : lvq ds L = true := by
  unfold lvq; rw [hn]; exact h.lvl hn

/-- what Check answers -/
def checkE (ds : List Dm) (L lo hi : List Int) : Int := if sndL ds = true then if lvq ds L = true then if bx ds lo hi = true then 0 else 60 else 40 else 30
theorem check_30 {ds : List Dm} {L lo hi : List Int} (h : sndL ds = false) : checkE ds L lo hi = 30 := by unfold checkE; rw [h]; rfl
theorem check_40 {ds : List Dm} {L lo hi : List Int} (h : sndL ds = true) (h2 : lvq ds L = false) : checkE ds L lo hi = 40 := by unfold checkE; rw [h, h2]; rfl
theorem check_60 {ds : List Dm} {L lo hi : List Int} (h : sndL ds = true) (h2 : lvq ds L = true) (h3 : bx ds lo hi = false) : checkE ds L lo hi = 60 := by unfold checkE; rw [h, h2, h3]; rfl
theorem check_0 {ds : List Dm} {L lo hi : List Int} (h : sndL ds = true) (h2 : lvq ds L = true) (h3 : bx ds lo hi = true) : checkE ds L lo hi = 0 := by unfold checkE; rw [h, h2, h3]; rfl
theorem check_ok {ds : List Dm} {L lo hi : List Int} (h : checkE ds L lo hi = 0) : sndL ds = true ∧ lvq ds L = true ∧ bx ds lo hi = true := by
  unfold checkE at h
  split at h
  · rename_i h1
    split at h
    · rename_i h2
      split at h
      · rename_i h3; exact ⟨h1, h2, h3⟩
      · omega
    · omega
  · omega
theorem check_in (ds : List Dm) (L lo hi : List Int) : checkE ds L lo hi = 0 ∨ checkE ds L lo hi = 30 ∨ checkE ds L lo hi = 40 ∨ checkE ds L lo hi = 60 := by
  unfold checkE
  split
  · split
    · split <;> simp
    · simp
  · simp

/-- what is in a box -/
def cutP (p : List Int → Bool) (t : List PRow) : List PRow := t.filter fun r => p r.1
theorem cutR_plain (p : List Int → Bool) (rs : List Rw) : cutR p rs = cutP p (rs.map plain) := by
  unfold cutR cutP
  rw [List.filter_map]; rfl
theorem cutP_nil (p : List Int → Bool) : cutP p [] = [] := rfl
theorem cutP_none {p : List Int → Bool} {t : List PRow} (h : ∀ k, p k = false) : cutP p t = [] := by
  unfold cutP
  rw [List.filter_eq_nil_iff]
  intro r hr
  simp [h]
theorem sndT_rises {rs : List Rw} {p : Int} (h : sndT rs p = true) : Rises (rs.map plain) ∧ ∀ x ∈ rs.map plain, okP p x := by
  have key : ∀ i, i < rs.length → sndR (rwn rs i) p = true ∧ (0 < i → cmpL (rwn rs (i - 1)).k (rwn rs i).k < 0) := fun i hi => by
    have := sndT_at h hi
    unfold okAt at this
    simp only [Bool.and_eq_true, Bool.or_eq_true, decide_eq_true_eq] at this
    exact ⟨this.1, fun h0 => this.2.resolve_left (by omega)⟩
  have step : ∀ j, j < rs.length → ∀ i, i < j → cmpL (rwn rs i).k (rwn rs j).k < 0 := by
    intro j
    induction j with
    | zero => intro _ i hi; omega
    | succ j ih =>
      intro hj i hi
      have h1 := (key (j + 1) hj).2 (by omega)
      rw [Nat.add_sub_cancel] at h1
      by_cases e : i = j
      · subst e; exact h1
      · exact cmpL_trans (ih (by omega) i (by omega)) h1
  constructor
  · refine List.pairwise_iff_getElem.2 fun i j hi hj hij => ?_
    simp only [List.length_map] at hi hj
    have := step j hj i hij
    rw [rwn_eq hi, rwn_eq hj] at this
    simpa [plain] using this
  · intro x hx
    obtain ⟨r, hr, rfl⟩ := List.mem_map.1 hx
    obtain ⟨i, hi, rfl⟩ := List.mem_iff_getElem.1 hr
    have := (key i hi).1
    rw [rwn_eq hi] at this
    unfold sndR at this
    simp only [Bool.and_eq_true, decide_eq_true_eq] at this
    exact this
theorem sndT_cut {rs cs : List Rw} {p : Int} {q : List Int → Bool} (h : sndT rs p = true) (e : cs.map plain = cutR q rs) : sndT cs p = true := by
  obtain ⟨h1, h2⟩ := sndT_rises h
  refine sndT_plain e ?_ fun x hx => ?_
  · rw [cutR_plain]; exact h1.sublist List.filter_sublist
  · rw [cutR_plain] at hx
    exact h2 x (List.mem_filter.1 hx).1

/-- what Run answers -/
def runT (ds : List Dm) (t : List PRow) (L lo hi : List Int) : List PRow := tab (remap (atL ds (zeros ds.length) L) (cutP (wtn lo hi) t))
def toldE (t : List PRow) (e : Int) : Int := if t.length ≤ 500 then e else 61
def toldT (t : List PRow) : List PRow := if t.length ≤ 500 then t else []
theorem told_few {t : List PRow} (h : t.length ≤ 500) (e : Int) : toldE t e = e ∧ toldT t = t := ⟨if_pos h, if_pos h⟩
theorem told_many {t : List PRow} (h : ¬ t.length ≤ 500) (e : Int) : toldE t e = 61 ∧ toldT t = [] := ⟨if_neg h, if_neg h⟩
def runE (ds : List Dm) (rs : List Rw) (L lo hi : List Int) : Int := if checkE ds L lo hi = 0 then if sndT rs ds.length = true then toldE (runT ds (rs.map plain) L lo hi) 0 else 1 else checkE ds L lo hi
def runR (ds : List Dm) (rs : List Rw) (L lo hi : List Int) : List PRow := if checkE ds L lo hi = 0 then if sndT rs ds.length = true then toldT (runT ds (rs.map plain) L lo hi) else [] else []
theorem run_bad {ds : List Dm} {rs : List Rw} {L lo hi : List Int} (h : ¬ checkE ds L lo hi = 0) : runE ds rs L lo hi = checkE ds L lo hi ∧ runR ds rs L lo hi = [] := ⟨if_neg h, if_neg h⟩
theorem run_1 {ds : List Dm} {rs : List Rw} {L lo hi : List Int} (h : checkE ds L lo hi = 0) (h2 : sndT rs ds.length = false) : runE ds rs L lo hi = 1 ∧ runR ds rs L lo hi = [] := by
  unfold runE runR
  rw [if_pos h, if_pos h, h2]; exact ⟨rfl, rfl⟩
theorem run_0 {ds : List Dm} {rs : List Rw} {L lo hi : List Int} (h : checkE ds L lo hi = 0) (h2 : sndT rs ds.length = true) : runE ds rs L lo hi = toldE (runT ds (rs.map plain) L lo hi) 0 ∧ runR ds rs L lo hi = toldT (runT ds (rs.map plain) L lo hi) := by
  unfold runE runR
  rw [if_pos h, if_pos h, if_pos h2, if_pos h2]; exact ⟨rfl, rfl⟩
theorem run_in (ds : List Dm) (rs : List Rw) (L lo hi : List Int) : runE ds rs L lo hi = 0 ∨ runE ds rs L lo hi = 1 ∨ runE ds rs L lo hi = 30 ∨ runE ds rs L lo hi = 40 ∨ runE ds rs L lo hi = 60 ∨ runE ds rs L lo hi = 61 := by
  unfold runE toldE
  split
  · split
    · split <;> simp
    · simp
  · rename_i h
    rcases check_in ds L lo hi with e | e | e | e
    · exact absurd e h
    · simp [e]
    · simp [e]
    · simp [e]
/-- what Roll makes of what is in the box -/
theorem roll_cut {ds : List Dm} {rs cs : List Rw} {L lo hi : List Int} (h : checkE ds L lo hi = 0) (h2 : sndT rs ds.length = true) (e : cs.map plain = cutR (wtn lo hi) rs) : rollE ds cs (zeros ds.length) L = 0 ∧ rollT ds cs (zeros ds.length) L = runT ds (rs.map plain) L lo hi := by
  obtain ⟨h3, h4, -⟩ := check_ok h
  have h0 := roll_0 (rs := cs) h3 h4 (sndT_cut h2 e)
  refine ⟨h0.1, ?_⟩
  rw [h0.2, told_remap, e, cutR_plain]; rfl

/-- tables of facts: what is in a box -/
def cutF (p : List Int → Bool) (F : List PFact) : List PFact := F.filter fun f => p f.1
theorem look_cut (p : List Int → Bool) (t : List PRow) (k : List Int) : table.look (cutP p t) k = if p k = true then table.look t k else none := by
  unfold cutP
  induction t with
  | nil => simp [table.look]
  | cons x t ih =>
    by_cases hx : p x.1 = true
    · rw [List.filter_cons_of_pos (by simpa using hx), table.look, table.look, ih]
      by_cases e : x.1 = k
      · subst e; simp [hx]
      · rw [if_neg e, if_neg e]
    · rw [List.filter_cons_of_neg (by simpa using hx), table.look, ih]
      by_cases e : x.1 = k
      · subst e; simp [hx]
      · rw [if_neg e]
theorem nums_cut (p : List Int → Bool) (F : List PFact) (k : List Int) : nums (cutF p F) k = if p k = true then nums F k else [] := by
  unfold nums cutF
  rw [List.filter_filter]
  by_cases h : p k = true
  · rw [if_pos h]
    congr 1
    refine List.filter_congr fun f hf => ?_
    by_cases e : f.1 = k
    · subst e; simp [h]
    · simp [e]
  · rw [if_neg h, List.filter_eq_nil_iff.2 ?_]
    · rfl
    · intro f hf
      by_cases e : f.1 = k
      · subst e; simp [h]
      · simp [e]
theorem Fine.cut {F : List PFact} (h : Fine F) (p : List Int → Bool) : Fine (cutF p F) :=
  ⟨fun f hf => h.1 f (List.mem_filter.1 hf).1, by have := List.length_filter_le (fun f : PFact => p f.1) F; have := h.2; unfold cutF; omega⟩
theorem MT.cut {n : Nat} {t : List PRow} {F : List PFact} (h : MT n t F) (p : List Int → Bool) : MT n (cutP p t) (cutF p F) := by
  refine ⟨⟨h.m.1.sublist List.filter_sublist, fun k => ?_⟩, Fine.cut h.f p, fun f hf => h.k f (List.mem_filter.1 hf).1⟩
  rw [look_cut, nums_cut, h.m.2 k]
  split <;> rfl
theorem cutF_append (p : List Int → Bool) (F G : List PFact) : cutF p (F ++ G) = cutF p F ++ cutF p G := by simp [cutF]
theorem cutF_le (p : List Int → Bool) (F : List PFact) : (cutF p F).length ≤ F.length := List.length_filter_le _ _
/-- what is asked of a table of facts -/
def runF (ds : List Dm) (L lo hi : List Int) (F : List PFact) : List PFact := remapF (atL ds (zeros ds.length) L) (cutF (wtn lo hi) F)
theorem MT.run {n : Nat} {ds : List Dm} {t : List PRow} {F : List PFact} {L lo hi : List Int} (h : MT n t F) (hl : Lev ds n (zeros n) L) (hn : ds.length = n) (hs : sndL ds = true) : MT n (runT ds t L lo hi) (runF ds L lo hi F) := by
  unfold runT runF
  rw [hn]
  exact (MT.cut h _).roll hl hn hs
theorem runF_append (ds : List Dm) (L lo hi : List Int) (F G : List PFact) : runF ds L lo hi (F ++ G) = runF ds L lo hi F ++ runF ds L lo hi G := by
  unfold runF; rw [cutF_append, remap_append]
theorem runF_len (ds : List Dm) (L lo hi : List Int) (F : List PFact) : (runF ds L lo hi F).length ≤ F.length := by
  unfold runF remapF; rw [List.length_map]; exact cutF_le _ _
theorem MT.perm {n : Nat} {t : List PRow} {F G : List PFact} (h : MT n t F) (p : F.Perm G) : MT n t G := ⟨h.m.perm h.f p, h.f.perm p, fun f hf => h.k f (p.mem_iff.2 hf)⟩
/-- a table has no more rows than facts -/
theorem rows_le {t : List PRow} {F : List PFact} (h : Means t F) : t.length ≤ F.length := by
  obtain ⟨G, rfl, hn, p⟩ := h.groups
  rw [← p.length_eq]
  clear p h
  induction G with
  | nil => simp [grow, flat]
  | cons g G ih =>
    have := ih fun g' hg' => hn g' (by simp [hg'])
    have hg := List.length_pos_iff.2 (hn g (by simp))
    rw [flat_cons]
    simp only [grow, List.map_cons, List.length_cons, List.length_append, List.length_map] at this ⊢
    omega

/-- a box that is cut in two by its first place -/
theorem cutF_two {n : Nat} {lo up : List Int} {K : Int} (h1 : lo.length = n) (h2 : up.length = n) (hn : 1 ≤ n) (hK1 : nth lo 0 ≤ K) (hK2 : K ≤ nth up 0) (F : List PFact) :
    (cutF (wtn lo (K :: up.drop 1)) F ++ cutF (wtn (K :: lo.drop 1) up) F).Perm (cutF (wtn lo up) F) := by
  unfold cutF
  induction F with
  | nil => exact List.Perm.refl _
  | cons r l ih =>
    rcases cut_places (x := r.1) h1 h2 hn hK1 hK2 with ⟨a, b, c⟩ | ⟨a, b, c⟩ | ⟨a, b, c⟩
    · simp only [List.filter_cons, a, b, c, Bool.false_eq_true, if_false]; exact ih
    · simp only [List.filter_cons, a, b, c, if_true, Bool.false_eq_true, if_false, List.cons_append]; exact ih.cons _
    · simp only [List.filter_cons, a, b, c, if_true, Bool.false_eq_true, if_false]
      exact List.perm_middle.trans (ih.cons _)

/-- what Join answers -/
def joinT (ps : List (List PRow)) : List PRow := tab ps.flatten
theorem acc_off {t : List PRow} {k : List Int} (h : ∀ x ∈ t, x.1 ≠ k) (o : Option C4) : t.foldl (table.step k) o = o := by
  induction t generalizing o with
  | nil => rfl
  | cons x t ih =>
    rw [List.foldl_cons, show table.step k o x = o from if_neg (h x (by simp))]
    exact ih (fun y hy => h y (by simp [hy])) o
theorem acc_rises {t : List PRow} (h : Rises t) (k : List Int) : acc t k = table.look t k := by
  unfold acc
  induction t with
  | nil => rfl
  | cons x t ih =>
    have hx := List.pairwise_cons.1 h
    rw [List.foldl_cons, table.look]
    by_cases e : x.1 = k
    · rw [if_pos e, show table.step k none x = some x.2 from if_pos e]
      exact acc_off (fun y hy => by rw [← e]; exact (cmpL_ne (hx.1 y hy)).symm) _
    · rw [if_neg e, show table.step k none x = none from if_neg e]
      exact ih hx.2
theorem tab_idem {t : List PRow} (h : Rises t) : tab t = t := (tab_unique h fun k => (acc_rises h k).symm).symm
theorem tab_tab (x y : List PRow) : tab (tab x ++ y) = tab (x ++ y) := by
  have e := tab_idem (rises_tab x)
  unfold tab at e ⊢
  rw [List.foldl_append, List.foldl_append, e]
theorem join_two (x y : List PRow) : joinT [x, y] = tab (x ++ y) := by simp [joinT]
theorem join_three (x y : List PRow) : joinT [y, [], x] = tab (y ++ x) := by simp [joinT]
theorem join_none : joinT [] = [] := rfl

/-- a box of choices: Low is below High -/
structure Box (ds : List Dm) (n : Nat) (lo hi : List Int) : Prop where
  ll : lo.length = n
  lh : hi.length = n
  at_ : ∀ i, i < n → 0 ≤ nth lo i ∧ nth lo i ≤ nth hi i ∧ nth hi i ≤ (dn ds i).sz
theorem Box.bx {ds : List Dm} {n : Nat} {lo hi : List Int} (h : Box ds n lo hi) (hn : ds.length = n) : bx ds lo hi = true := by
  refine bx_true (by rw [h.ll, hn]) (by rw [h.lh, hn]) fun i hi2 => ?_
  have := h.at_ i (by omega)
  unfold bxAt
  simp only [Bool.and_eq_true, decide_eq_true_eq]
  exact this
theorem check_good {ds : List Dm} {n : Nat} {L lo hi : List Int} (hs : sndL ds = true) (hn : ds.length = n) (hl : Lev ds n (zeros n) L) (hb : Box ds n lo hi) : checkE ds L lo hi = 0 := check_0 hs (lvq_lev hl hn) (hb.bx hn)
/-- what Run answers of a table of facts -/
theorem MT.ran {n : Nat} {ds : List Dm} {rs : List Rw} {t : List PRow} {F : List PFact} {L lo hi : List Int} (h : MT n t F) (e : rs.map plain = t) (hs : sndL ds = true) (hn : ds.length = n) (hl : Lev ds n (zeros n) L) (hb : Box ds n lo hi) (h5 : F.length ≤ 500) :
    runE ds rs L lo hi = 0 ∧ runR ds rs L lo hi = runT ds t L lo hi := by
  have h0 := run_0 (rs := rs) (check_good hs hn hl hb) (by rw [hn]; exact h.snd e)
  have hm := (MT.run (lo := lo) (hi := hi) h hl hn hs).m
  have hlen : (runT ds t L lo hi).length ≤ 500 := Nat.le_trans (rows_le hm) (Nat.le_trans (runF_len _ _ _ _ _) h5)
  rw [e] at h0
  obtain ⟨e1, e2⟩ := told_few hlen 0
  exact ⟨h0.1.trans e1, h0.2.trans e2⟩
end Go.Proofs.YtgimknplckkiaaaDoor.query
