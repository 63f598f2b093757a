/-
  What a split makes, as lists: by the members one behind the other, and by the spans; whose nodes a range has.
-/
import Derived.Test.YtfhihkogdnbghaaSpanMath
namespace Go.Proofs.Ytfhihkogdnbghaa.spans
set_option linter.unusedVariables false
set_option maxRecDepth 100000

/-! ### one of each run -/
def cpt (l : List Sp) : List Sp := l.foldl (fun o s => if lastN o = s.2 then o else o ++ [s]) []
theorem cpt_snoc (l : List Sp) (s : Sp) : cpt (l ++ [s]) = if lastN (cpt l) = s.2 then cpt l else cpt l ++ [s] := by
  unfold cpt
  rw [List.foldl_append]
  rfl
theorem rev_ind {p : List Sp → Prop} (h0 : p []) (h1 : ∀ l s, p l → p (l ++ [s])) (l : List Sp) : p l := by
  have : ∀ n (l : List Sp), l.length = n → p l := by
    intro n
    induction n with
    | zero => intro l hl; rw [List.eq_nil_of_length_eq_zero hl]; exact h0
    | succ n ih =>
      intro l hl
      rcases List.eq_nil_or_concat l with rfl | ⟨r, s, rfl⟩
      · exact h0
      · rw [List.concat_eq_append] at *
        exact h1 r s (ih r (by simpa using hl))
  exact this _ l rfl
theorem cpt_last (l : List Sp) : lastN (cpt l) = lastN l := by
  induction l using rev_ind with
  | h0 => rfl
  | h1 l s ih =>
    rw [cpt_snoc, lastN_snoc]
    by_cases h : lastN (cpt l) = s.2
    · rw [if_pos h, h]
    · rw [if_neg h, lastN_snoc]
theorem cpt_mem (l : List Sp) : ∀ s ∈ cpt l, s ∈ l := by
  induction l using rev_ind with
  | h0 => intro s hs; exact hs
  | h1 l s ih =>
    intro t ht
    rw [cpt_snoc] at ht
    split at ht
    · exact List.mem_append_left _ (ih t ht)
    · rcases List.mem_append.1 ht with h | h
      · exact List.mem_append_left _ (ih t h)
      · exact List.mem_append_right _ h
theorem cpt_len (l : List Sp) : (cpt l).length ≤ l.length := by
  induction l using rev_ind with
  | h0 => exact Nat.le_refl _
  | h1 l s ih =>
    rw [cpt_snoc]
    split <;> simp <;> omega
theorem cpt_none (l : List Sp) (hn : ∀ s ∈ l, 0 ≤ s.2) : cpt l = [] → l = [] := by
  induction l using rev_ind with
  | h0 => exact fun _ => rfl
  | h1 l s ih =>
    intro h
    rw [cpt_snoc] at h
    split at h
    · have := ih (fun t ht => hn t (by simp [ht])) h
      subst this
      have h1 := hn s (by simp)
      rename_i h2
      have : (-1 : Int) = s.2 := h2
      omega
    · simp at h
theorem cpt_can (l : List Sp) (hr : l.Pairwise (fun a b => a.1 < b.1)) (h0 : ∀ s ∈ l.head?, s.1 = 0) (hn : ∀ s ∈ l, 0 ≤ s.2) (hp : ∀ s ∈ l, 0 ≤ s.1) : Can (cpt l) ∧ ∀ v, find (cpt l) v = find l v := by
  induction l using rev_ind with
  | h0 => exact ⟨Can.nil, fun _ => rfl⟩
  | h1 l s ih =>
    obtain ⟨r1, _, r2⟩ := List.pairwise_append.1 hr
    have hlt : ∀ t ∈ l, t.1 < s.1 := fun t ht => r2 t ht s (by simp)
    obtain ⟨i1, i2⟩ := ih r1 (fun t ht => h0 t (by cases l with | nil => cases ht | cons a r => exact ht)) (fun t ht => hn t (by simp [ht])) (fun t ht => hp t (by simp [ht]))
    rw [cpt_snoc]
    by_cases h : lastN (cpt l) = s.2
    · rw [if_pos h]
      refine ⟨i1, fun v => ?_⟩
      rw [i2, find_snoc]
      by_cases hv : s.1 ≤ v
      · rw [if_pos hv, find_all l v fun t ht => by have := hlt t ht; omega, ← cpt_last, h]
      · rw [if_neg hv]
    · rw [if_neg h]
      refine ⟨Can.snoc _ _ i1 (hp s (by simp)) (fun e => ?_) (fun t ht => hlt t (cpt_mem l t ht)) h, fun v => by rw [find_snoc, find_snoc, i2]⟩
      have := cpt_none l (fun t ht => hn t (by simp [ht])) e
      subst this
      exact h0 s (by simp)

/-! ### the spans behind a split -/
theorem rise_parts (l : List Sp) (m : Int) (hr : l.Pairwise (fun a b => a.1 < b.1)) : l = l.filter (fun s => decide (s.1 < m)) ++ l.filter (fun s => decide (m ≤ s.1)) := by
  induction l with
  | nil => rfl
  | cons a r ih =>
    obtain ⟨h1, h2⟩ := List.pairwise_cons.1 hr
    by_cases h : a.1 < m
    · rw [List.filter_cons_of_pos (by simpa using h), List.filter_cons_of_neg (by simp; omega), List.cons_append, ← ih h2]
    · have e : r.filter (fun s => decide (s.1 < m)) = [] := List.filter_eq_nil_iff.2 fun t ht => by have := h1 t ht; simp; omega
      have e2 : r.filter (fun s => decide (m ≤ s.1)) = r := List.filter_eq_self.2 fun t ht => by have := h1 t ht; simp; omega
      rw [List.filter_cons_of_neg (by simpa using h), List.filter_cons_of_pos (by simp; omega), e, e2]; rfl
def upTo (l : List Sp) (m : Int) : Nat := l.countP (fun s => decide (s.1 < m))
theorem upTo_le (l : List Sp) (m : Int) : upTo l m ≤ l.length := List.countP_le_length
theorem take_upTo (l : List Sp) (m : Int) (hr : l.Pairwise (fun a b => a.1 < b.1)) : l.take (upTo l m) = l.filter (fun s => decide (s.1 < m)) := by
  conv => lhs; rw [rise_parts l m hr]
  rw [List.take_append_of_le_length (by rw [upTo, List.countP_eq_length_filter, ← rise_parts l m hr]; exact Nat.le_refl _), List.take_of_length_le (by rw [upTo, List.countP_eq_length_filter, ← rise_parts l m hr]; exact Nat.le_refl _)]
theorem drop_upTo (l : List Sp) (m : Int) (hr : l.Pairwise (fun a b => a.1 < b.1)) : l.drop (upTo l m) = l.filter (fun s => decide (m ≤ s.1)) := by
  have h1 := List.take_append_drop (upTo l m) l
  rw [take_upTo l m hr] at h1
  have h2 := rise_parts l m hr
  rw [← h1] at h2
  rw [h1] at h2
  exact List.append_cancel_left (h1.trans h2)
def mvd (l : List Sp) (size frm to node : Int) : List Sp := (frm, node) :: (if to < size then [(to, find l to)] else [])
def laid (l : List Sp) (size frm to node : Int) : List Sp := l.take (upTo l frm) ++ (mvd l size frm to node ++ l.drop (upTo l (to + 1)))
def given (l : List Sp) (size frm to node : Int) : List Sp := cpt (laid l size frm to node)
def gOf (l : List Sp) (frm to node v : Int) : Int := if frm ≤ v ∧ v < to then node else find l v
theorem given_len (l : List Sp) (size frm to node : Int) (hr : l.Pairwise (fun a b => a.1 < b.1)) (hft : frm < to) : (given l size frm to node).length ≤ l.length + 2 := by
  refine Nat.le_trans (cpt_len _) ?_
  unfold laid mvd
  have h1 : upTo l frm ≤ upTo l (to + 1) := List.countP_mono_left fun s _ h => by simp at h ⊢; omega
  have := upTo_le l (to + 1)
  rw [List.length_append, List.length_append, List.length_take, List.length_drop, List.length_cons]
  split <;> simp <;> omega
theorem given_all {l : List Sp} {size nodes frm to node : Int} (h : Snd size nodes l) (h0 : 0 ≤ frm) (h1 : frm < to) (h2 : to ≤ size) (hn : 0 ≤ node ∧ node < min nodes 6) :
    Can (given l size frm to node) ∧ (∀ s ∈ given l size frm to node, s.1 < size ∧ 0 ≤ s.2 ∧ s.2 < min nodes 6) ∧ given l size frm to node ≠ [] ∧ ∀ v, v < size → find (given l size frm to node) v = gOf l frm to node v := by
  have hr := h.can.rise
  have eL : laid l size frm to node = l.filter (fun s => decide (s.1 < frm)) ++ (mvd l size frm to node ++ l.filter (fun s => decide (to + 1 ≤ s.1))) := by unfold laid; rw [take_upTo l frm hr, drop_upTo l (to + 1) hr]
  have hmv : ∀ s ∈ mvd l size frm to node, (s.1 = frm ∧ s.2 = node) ∨ (to < size ∧ s.1 = to ∧ s.2 = find l to) := fun s hs => by
    unfold mvd at hs
    rcases List.mem_cons.1 hs with rfl | hs
    · exact .inl ⟨rfl, rfl⟩
    · split at hs
      · rw [List.mem_singleton.1 hs]; rename_i ht; exact .inr ⟨ht, rfl, rfl⟩
      · cases hs
  have hall : ∀ s ∈ laid l size frm to node, s.1 < size ∧ 0 ≤ s.2 ∧ s.2 < min nodes 6 := fun s hs => by
    rw [eL] at hs
    rcases List.mem_append.1 hs with hs | hs
    · exact h.all s (List.mem_filter.1 hs).1
    · rcases List.mem_append.1 hs with hs | hs
      · rcases hmv s hs with ⟨e1, e2⟩ | ⟨e0, e1, e2⟩
        · rw [e1, e2]; exact ⟨by omega, hn⟩
        · rw [e1, e2]; exact ⟨e0, h.find_ok (by omega)⟩
      · exact h.all s (List.mem_filter.1 hs).1
  have hpos : ∀ s ∈ laid l size frm to node, 0 ≤ s.1 := fun s hs => by
    rw [eL] at hs
    rcases List.mem_append.1 hs with hs | hs
    · exact h.can.pos s (List.mem_filter.1 hs).1
    · rcases List.mem_append.1 hs with hs | hs
      · rcases hmv s hs with ⟨e1, e2⟩ | ⟨e0, e1, e2⟩ <;> omega
      · exact h.can.pos s (List.mem_filter.1 hs).1
  have hrise : (laid l size frm to node).Pairwise (fun a b => a.1 < b.1) := by
    rw [eL]
    refine List.pairwise_append.2 ⟨hr.filter _, List.pairwise_append.2 ⟨?_, hr.filter _, fun a ha b hb => ?_⟩, fun a ha b hb => ?_⟩
    · unfold mvd
      split
      · exact List.pairwise_cons.2 ⟨fun b hb => by rw [List.mem_singleton.1 hb]; exact h1, List.pairwise_singleton _ _⟩
      · exact List.pairwise_singleton _ _
    · have hb2 := (List.mem_filter.1 hb).2
      simp at hb2
      rcases hmv a ha with ⟨e1, _⟩ | ⟨_, e1, _⟩ <;> omega
    · have ha2 := (List.mem_filter.1 ha).2
      simp at ha2
      rcases List.mem_append.1 hb with hb | hb
      · rcases hmv b hb with ⟨e1, _⟩ | ⟨_, e1, _⟩ <;> omega
      · have hb2 := (List.mem_filter.1 hb).2
        simp at hb2
        omega
  have hhead : ∀ s ∈ (laid l size frm to node).head?, s.1 = 0 := fun s hs => by
    rw [eL] at hs
    by_cases hf : frm = 0
    · have : l.filter (fun s => decide (s.1 < frm)) = [] := List.filter_eq_nil_iff.2 fun t ht => by have := h.can.pos t ht; simp; omega
      rw [this] at hs
      unfold mvd at hs
      simp at hs
      rw [← hs]; exact hf
    · cases l with
      | nil => exact absurd rfl h.ne
      | cons a r =>
        have ha := h.can.head a (by simp)
        rw [List.filter_cons_of_pos (by simp; omega)] at hs
        simp at hs
        rw [← hs]; exact ha
  obtain ⟨c1, c2⟩ := cpt_can _ hrise hhead (fun s hs => (hall s hs).2.1) hpos
  refine ⟨c1, fun s hs => hall s (cpt_mem _ s hs), fun e => ?_, fun v hv => ?_⟩
  · have := cpt_none _ (fun s hs => (hall s hs).2.1) e
    rw [eL] at this
    unfold mvd at this
    simp at this
  show find (cpt _) v = _
  rw [c2, eL, find_app, fnd_app]
  unfold gOf
  by_cases hv1 : v < frm
  · rw [if_neg (by omega), fnd_none _ (l.filter fun s => decide (to + 1 ≤ s.1)) v fun s hs => by have := (List.mem_filter.1 hs).2; simp at this; omega,
      fnd_none _ (mvd l size frm to node) v fun s hs => by rcases hmv s hs with ⟨e1, _⟩ | ⟨_, e1, _⟩ <;> omega]
    exact find_filter l _ v fun s hs hp => by simp at hp; omega
  · by_cases hv2 : v < to
    · rw [if_pos ⟨by omega, hv2⟩, fnd_none _ (l.filter fun s => decide (to + 1 ≤ s.1)) v fun s hs => by have := (List.mem_filter.1 hs).2; simp at this; omega]
      unfold mvd
      show fnd (if frm ≤ v then node else _) _ v = node
      rw [if_pos (by omega)]
      split
      · show (if to ≤ v then _ else _) = _
        rw [if_neg (by omega)]
      · rfl
    · rw [if_neg (by omega)]
      have hm : ∀ n, fnd n (mvd l size frm to node) v = find l to := fun n => by
        unfold mvd
        rw [if_pos (by omega)]
        show (if to ≤ v then find l to else _) = _
        rw [if_pos (by omega)]
      rw [hm]
      have e1 : find l to = find (l.filter fun s => decide (s.1 < to + 1)) v := by
        rw [find_all _ v fun s hs => by have := (List.mem_filter.1 hs).2; simp at this; omega, ← find_all _ to fun s hs => by have := (List.mem_filter.1 hs).2; simp at this; omega]
        exact (find_filter l _ to fun s hs hp => by simp at hp; omega).symm
      rw [e1, ← find_app, ← rise_parts l (to + 1) hr]

/-! ### whose nodes a range has -/
def holdsB (l : List Sp) (a b n : Int) : Bool := (List.range (b - a).toNat).any fun i => find l (a + (i : Nat)) == n
theorem holdsB_iff {l : List Sp} {a b n : Int} : holdsB l a b n = true ↔ ∃ v, a ≤ v ∧ v < b ∧ find l v = n := by
  unfold holdsB
  rw [List.any_eq_true]
  constructor
  · rintro ⟨i, hi, h⟩
    rw [List.mem_range] at hi
    exact ⟨a + (i : Nat), by omega, by omega, by simpa using h⟩
  · rintro ⟨v, h1, h2, h3⟩
    exact ⟨(v - a).toNat, by rw [List.mem_range]; omega, by rw [show a + (((v - a).toNat : Nat) : Int) = v by omega]; simpa using h3⟩
def six : List Int := [0, 1, 2, 3, 4, 5]
def nodesOf (l : List Sp) (frm to : Int) : List Int := six.filter (holdsB l (max frm 0) (min to 10000))
theorem six_mem {n : Int} : n ∈ six ↔ 0 ≤ n ∧ n < 6 := by simp [six]; omega
theorem nodes_mem {l : List Sp} {frm to n : Int} : n ∈ nodesOf l frm to ↔ (0 ≤ n ∧ n < 6) ∧ ∃ v, max frm 0 ≤ v ∧ v < min to 10000 ∧ find l v = n := by
  unfold nodesOf
  rw [List.mem_filter, six_mem, holdsB_iff]
theorem nodes_rise (l : List Sp) (frm to : Int) : (nodesOf l frm to).Pairwise (· < ·) := List.Pairwise.filter _ (by decide)
theorem rise_ext {l m : List Int} (hl : l.Pairwise (· < ·)) (hm : m.Pairwise (· < ·)) (h : ∀ x, x ∈ l ↔ x ∈ m) : l = m := by
  induction l generalizing m with
  | nil =>
    cases m with
    | nil => rfl
    | cons b q => exact absurd ((h b).2 (by simp)) (by simp)
  | cons a r ih =>
    cases m with
    | nil => exact absurd ((h a).1 (by simp)) (by simp)
    | cons b q =>
      obtain ⟨l1, l2⟩ := List.pairwise_cons.1 hl
      obtain ⟨m1, m2⟩ := List.pairwise_cons.1 hm
      have hab : a = b := by
        have h1 := (h a).1 (by simp)
        have h2 := (h b).2 (by simp)
        rcases List.mem_cons.1 h1 with e | e
        · exact e
        · rcases List.mem_cons.1 h2 with e2 | e2
          · exact e2.symm
          · have := l1 b e2; have := m1 a e; omega
      subst hab
      rw [ih l2 m2 fun x => ?_]
      constructor
      · intro hx
        rcases List.mem_cons.1 ((h x).1 (by simp [hx])) with e | e
        · have := l1 x hx; omega
        · exact e
      · intro hx
        rcases List.mem_cons.1 ((h x).2 (by simp [hx])) with e | e
        · have := m1 x hx; omega
        · exact e
/-- the nodes of a range that is one node's, and no others -/
theorem nodes_one {size nodes : Int} {l : List Sp} {frm to node : Int} (h : Snd size nodes l) (h0 : 0 ≤ frm) (h1 : frm < to) (h2 : to ≤ 10000) : nodesOf l frm to = [node] ↔ ∀ v, frm ≤ v → v < to → find l v = node := by
  constructor
  · intro e v hv1 hv2
    have hf := h.find_ok (v := v) (by omega)
    have : find l v ∈ nodesOf l frm to := nodes_mem.2 ⟨⟨hf.1, by omega⟩, v, by omega, by omega, rfl⟩
    rw [e] at this
    exact List.mem_singleton.1 this
  · intro hv
    have hf := h.find_ok (v := frm) (by omega)
    rw [hv frm (by omega) h1] at hf
    refine rise_ext (nodes_rise l frm to) (List.pairwise_singleton _ _) fun x => ?_
    rw [nodes_mem, List.mem_singleton]
    constructor
    · rintro ⟨_, v, hv1, hv2, e⟩
      rw [← e]; exact hv v (by omega) (by omega)
    · rintro rfl
      exact ⟨⟨hf.1, by omega⟩, frm, by omega, by omega, hv frm (by omega) h1⟩

/-! ### a split -/
/-- may it be given? -/
def mayB (l : List Sp) (size nodes frm to node : Int) : Bool := sndB size nodes l && decide (size ≤ 10000) && decide (0 ≤ frm) && decide (frm < to) && decide (to ≤ size) && decide (0 ≤ node) && decide (node < min nodes 6) && !decide (nodesOf l frm to = [node])
structure May (l : List Sp) (size nodes frm to node : Int) : Prop where
  snd : Snd size nodes l
  big : size ≤ 10000
  low : 0 ≤ frm
  lt : frm < to
  le : to ≤ size
  isn : 0 ≤ node ∧ node < min nodes 6
  other : nodesOf l frm to ≠ [node]
theorem mayB_iff {l : List Sp} {size nodes frm to node : Int} : mayB l size nodes frm to node = true ↔ May l size nodes frm to node := by
  unfold mayB
  simp only [Bool.and_eq_true, decide_eq_true_eq, sndB_iff, Bool.not_eq_true', decide_eq_false_iff_not]
  exact ⟨fun ⟨⟨⟨⟨⟨⟨⟨h1, h2⟩, h3⟩, h4⟩, h5⟩, h6⟩, h7⟩, h8⟩ => ⟨h1, h2, h3, h4, h5, ⟨h6, h7⟩, h8⟩, fun h => ⟨⟨⟨⟨⟨⟨⟨h.snd, h.big⟩, h.low⟩, h.lt⟩, h.le⟩, h.isn.1⟩, h.isn.2⟩, h.other⟩⟩
/-- the spans behind a split, by its members -/
def byRuns (l : List Sp) (size frm to node : Int) : List Sp := (runs (gOf l frm to node) size.toNat).1
theorem runs_given {l : List Sp} {size nodes frm to node : Int} (h : Snd size nodes l) (h0 : 0 ≤ frm) (h1 : frm < to) (h2 : to ≤ size) (hn : 0 ≤ node ∧ node < min nodes 6) : byRuns l size frm to node = given l size frm to node := by
  obtain ⟨c, ha, _, hf⟩ := given_all h h0 h1 h2 hn
  unfold byRuns
  rw [← runs_congr (g := find (given l size frm to node)) fun v hv => hf v (by omega), runs_can c _ fun s hs => by have := (ha s hs).1; omega]
/-- what a split comes to: its map and what is said of it -/
def splitE (ep : Int) (l : List Sp) (size nodes frm to node : Int) : Int × List Sp × Int :=
  if mayB l size nodes frm to node = true then (if 40 < (given l size frm to node).length then (0, [], 3) else ((ep + 1) % 4294967296, given l size frm to node, 0)) else (0, [], 120)
end Go.Proofs.Ytfhihkogdnbghaa.spans
