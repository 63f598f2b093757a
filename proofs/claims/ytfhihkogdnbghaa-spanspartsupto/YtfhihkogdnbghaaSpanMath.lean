/-
  Maps of spans, as lists: who holds a member, which may be, whose nodes, what a split makes: a list is told by who holds what.
-/
import Derived.RowKit
namespace Go.Proofs.Ytfhihkogdnbghaa.spans
set_option linter.unusedVariables false
set_option maxRecDepth 100000

abbrev Sp := Int × Int
def spn (l : List Sp) (i : Nat) : Sp := l.getD i (0, 0)
theorem spn_eq {l : List Sp} {i : Nat} (h : i < l.length) : spn l i = l[i] := by simp [spn, h]
theorem spn_mem {l : List Sp} {i : Nat} (h : i < l.length) : spn l i ∈ l := by simp [spn, h]
theorem spn_app1 {l m : List Sp} {i : Nat} (h : i < l.length) : spn (l ++ m) i = spn l i := by simp [spn, List.getElem?_append_left h]
theorem spn_app2 (l : List Sp) (s : Sp) : spn (l ++ [s]) l.length = s := by simp [spn]
theorem take_spn {l : List Sp} {k : Nat} (h : k < l.length) : l.take (k + 1) = l.take k ++ [spn l k] := by rw [List.take_succ_eq_append_getElem h, spn_eq h]
theorem drop_spn {l : List Sp} {k : Nat} (h : k < l.length) : l.drop k = spn l k :: l.drop (k + 1) := by rw [List.drop_eq_getElem_cons h, spn_eq h]

/-- who holds a member: the last span from it on -/
def fnd (n : Int) (l : List Sp) (v : Int) : Int := l.foldl (fun n s => if s.1 ≤ v then s.2 else n) n
def find (l : List Sp) (v : Int) : Int := fnd (-1) l v
theorem fnd_app (n : Int) (l m : List Sp) (v : Int) : fnd n (l ++ m) v = fnd (fnd n l v) m v := by simp [fnd]
theorem find_app (l m : List Sp) (v : Int) : find (l ++ m) v = fnd (find l v) m v := fnd_app _ _ _ _
theorem find_snoc (l : List Sp) (s : Sp) (v : Int) : find (l ++ [s]) v = if s.1 ≤ v then s.2 else find l v := by rw [find_app]; rfl
theorem fnd_none (n : Int) (l : List Sp) (v : Int) (h : ∀ s ∈ l, v < s.1) : fnd n l v = n := by
  induction l generalizing n with
  | nil => rfl
  | cons s r ih =>
    show fnd (if s.1 ≤ v then s.2 else n) r v = n
    rw [if_neg (by have := h s (by simp); omega)]
    exact ih n fun t ht => h t (by simp [ht])
theorem find_filter (l : List Sp) (p : Sp → Bool) (v : Int) (h : ∀ s ∈ l, p s = false → v < s.1) : find (l.filter p) v = find l v := by
  suffices ∀ n, fnd n (l.filter p) v = fnd n l v from this _
  induction l with
  | nil => intro n; rfl
  | cons s r ih =>
    intro n
    have hr : ∀ t ∈ r, p t = false → v < t.1 := fun t ht => h t (by simp [ht])
    cases hp : p s with
    | true => rw [List.filter_cons_of_pos hp]; exact ih hr _
    | false =>
      rw [List.filter_cons_of_neg (by simp [hp]), ih hr]
      show _ = fnd (if s.1 ≤ v then s.2 else n) r v
      rw [if_neg (by have := h s (by simp) hp; omega)]
def lastN (l : List Sp) : Int := (l.getLast?.map (·.2)).getD (-1)
theorem lastN_snoc (l : List Sp) (s : Sp) : lastN (l ++ [s]) = s.2 := by simp [lastN]
theorem find_all (l : List Sp) (v : Int) (h : ∀ s ∈ l, s.1 ≤ v) : find l v = lastN l := by
  rcases List.eq_nil_or_concat l with rfl | ⟨r, s, rfl⟩
  · rfl
  · rw [List.concat_eq_append] at *
    rw [find_snoc, lastN_snoc, if_pos (h s (by simp))]
theorem find_mem (l : List Sp) (v : Int) : find l v = -1 ∨ ∃ s ∈ l, s.1 ≤ v ∧ find l v = s.2 := by
  suffices ∀ (l : List Sp) n, fnd n l v = n ∨ ∃ s ∈ l, s.1 ≤ v ∧ fnd n l v = s.2 from this l _
  intro l
  induction l with
  | nil => exact fun n => .inl rfl
  | cons s r ih =>
    intro n
    rcases ih (if s.1 ≤ v then s.2 else n) with h | ⟨t, ht, h1, h2⟩
    · by_cases hs : s.1 ≤ v
      · exact .inr ⟨s, by simp, hs, by show fnd (if s.1 ≤ v then s.2 else n) r v = _; rw [h, if_pos hs]⟩
      · exact .inl (by show fnd (if s.1 ≤ v then s.2 else n) r v = _; rw [h, if_neg hs])
    · exact .inr ⟨t, by simp [ht], h1, h2⟩
theorem find_yes (l : List Sp) (v : Int) (h : ∃ s ∈ l, s.1 ≤ v) : ∃ s ∈ l, s.1 ≤ v ∧ find l v = s.2 := by
  suffices ∀ (l : List Sp) n, (∃ s ∈ l, s.1 ≤ v) → ∃ s ∈ l, s.1 ≤ v ∧ fnd n l v = s.2 from this l _ h
  clear h
  intro l
  induction l with
  | nil => intro n ⟨s, hs, _⟩; cases hs
  | cons s r ih =>
    intro n h
    by_cases hr : ∃ t ∈ r, t.1 ≤ v
    · obtain ⟨t, ht, h1, h2⟩ := ih (if s.1 ≤ v then s.2 else n) hr
      exact ⟨t, by simp [ht], h1, h2⟩
    · have hs : s.1 ≤ v := by
        obtain ⟨t, ht, h1⟩ := h
        rcases List.mem_cons.1 ht with rfl | ht
        · exact h1
        · exact absurd ⟨t, ht, h1⟩ hr
      refine ⟨s, by simp, hs, ?_⟩
      show fnd (if s.1 ≤ v then s.2 else n) r v = _
      rw [if_pos hs, fnd_none]
      intro t ht
      by_cases h1 : t.1 ≤ v
      · exact absurd ⟨t, ht, h1⟩ hr
      · omega

/-! ### runs of one node -/
def runs (g : Int → Int) : Nat → List Sp × Int
  | 0 => ([], -1)
  | k + 1 => if g k = (runs g k).2 then runs g k else ((runs g k).1 ++ [((k : Int), g k)], g k)
theorem runs_congr {g g' : Int → Int} : ∀ {N : Nat}, (∀ v : Nat, v < N → g v = g' v) → runs g N = runs g' N
  | 0, _ => rfl
  | N + 1, h => by
    have ih := runs_congr (N := N) fun v hv => h v (by omega)
    show (if g N = (runs g N).2 then runs g N else _) = (if g' N = (runs g' N).2 then runs g' N else _)
    rw [ih, h N (by omega)]
theorem runs_last (g : Int → Int) : ∀ N : Nat, (runs g N).2 = if N = 0 then -1 else g (N - 1 : Nat)
  | 0 => rfl
  | N + 1 => by
    show (if g N = (runs g N).2 then runs g N else _).2 = _
    by_cases h : g N = (runs g N).2
    · rw [if_pos h, if_neg (by omega), Nat.add_sub_cancel, h]
    · rw [if_neg h, if_neg (by omega), Nat.add_sub_cancel]
/-- a list that is its runs -/
structure Nx (l : List Sp) (s : Sp) : Prop where
  h0 : 0 ≤ s.1
  hz : l = [] → s.1 = 0
  hlt : ∀ t ∈ l, t.1 < s.1
  hne : lastN l ≠ s.2
def Can (l : List Sp) : Prop := ∀ k, k < l.length → Nx (l.take k) (spn l k)
theorem Can.nil : Can [] := fun k hk => by simp at hk
theorem Can.snoc (l : List Sp) (s : Sp) (hc : Can l) (h0 : 0 ≤ s.1) (hz : l = [] → s.1 = 0) (hlt : ∀ t ∈ l, t.1 < s.1) (hne : lastN l ≠ s.2) : Can (l ++ [s]) := fun k hk => by
  have hk' : k ≤ l.length := by simp at hk; omega
  rw [List.take_append_of_le_length hk']
  by_cases e : k = l.length
  · subst e
    rw [spn_app2, List.take_length]
    exact ⟨h0, hz, hlt, hne⟩
  · rw [spn_app1 (by omega)]
    exact hc k (by omega)
theorem Can.front {l : List Sp} {s : Sp} (h : Can (l ++ [s])) : Can l := fun k hk => by
  have := h k (by rw [List.length_append]; omega)
  rwa [List.take_append_of_le_length (by omega), spn_app1 hk] at this
theorem Can.last {l : List Sp} {s : Sp} (h : Can (l ++ [s])) : Nx l s := by
  have := h l.length (by simp)
  rwa [List.take_append_of_le_length (Nat.le_refl _), List.take_length, spn_app2] at this
theorem Can.ind {motive : (l : List Sp) → Can l → Prop} (nil : motive [] Can.nil)
    (snoc : ∀ (l : List Sp) (s : Sp) (hc : Can l) (h0 : 0 ≤ s.1) (hz : l = [] → s.1 = 0) (hlt : ∀ t ∈ l, t.1 < s.1) (hne : lastN l ≠ s.2), motive l hc → motive (l ++ [s]) (Can.snoc l s hc h0 hz hlt hne)) {l : List Sp} (h : Can l) : motive l h := by
  have : ∀ n (l : List Sp), l.length = n → ∀ h : Can l, motive l h := by
    intro n
    induction n with
    | zero =>
      intro l hl h
      have e : l = [] := List.eq_nil_of_length_eq_zero hl
      subst e
      exact nil
    | succ n ih =>
      intro l hl h
      rcases List.eq_nil_or_concat l with e | ⟨r, s, e⟩
      · rw [e] at hl; simp at hl
      · rw [List.concat_eq_append] at e
        subst e
        have hn := h.last
        exact snoc r s h.front hn.h0 hn.hz hn.hlt hn.hne (ih r (by simpa using hl) h.front)
  exact this _ l rfl h
theorem runs_stay {g : Int → Int} {k : Nat} {l : List Sp} {n : Int} (h : runs g k = (l, n)) : ∀ j, (∀ v : Nat, k ≤ v → v < k + j → g v = n) → runs g (k + j) = (l, n)
  | 0, _ => h
  | j + 1, hg => by
    have ih := runs_stay h j fun v h1 h2 => hg v h1 (by omega)
    show (if g (k + j : Nat) = (runs g (k + j)).2 then runs g (k + j) else _) = _
    rw [ih, if_pos (hg (k + j) (by omega) (by omega))]
theorem runs_can {l : List Sp} (h : Can l) : ∀ N : Nat, (∀ s ∈ l, s.1 < N) → runs (find l) N = (l, lastN l) := by
  induction h using Can.ind with
  | nil =>
    intro N _
    have := runs_stay (g := find []) (k := 0) (l := []) (n := -1) rfl N fun v _ _ => rfl
    rwa [Nat.zero_add] at this
  | snoc l s hc h0 hz hlt hne ih =>
    intro N hN
    obtain ⟨k, hk⟩ : ∃ k : Nat, (k : Int) = s.1 := ⟨s.1.toNat, by omega⟩
    have hkN : k < N := by have := hN s (by simp); omega
    have e1 : runs (find (l ++ [s])) k = (l, lastN l) := by
      rw [← ih k (fun t ht => by have := hlt t ht; omega)]
      exact runs_congr fun v hv => by rw [find_snoc, if_neg (by omega)]
    have e2 : runs (find (l ++ [s])) (k + 1) = (l ++ [s], s.2) := by
      show (if find (l ++ [s]) k = (runs (find (l ++ [s])) k).2 then _ else ((runs (find (l ++ [s])) k).1 ++ [((k : Int), find (l ++ [s]) k)], find (l ++ [s]) k)) = _
      rw [e1, find_snoc, if_pos (by omega : s.1 ≤ (k : Int)), if_neg (fun e => hne e.symm), hk]
    have e3 := runs_stay e2 (N - (k + 1)) fun v h1 _ => by rw [find_snoc, if_pos (by omega)]
    rw [show k + 1 + (N - (k + 1)) = N by omega] at e3
    rw [e3, lastN_snoc]
theorem can_eq {l m : List Sp} (hl : Can l) (hm : Can m) (N : Nat) (h1 : ∀ s ∈ l, s.1 < N) (h2 : ∀ s ∈ m, s.1 < N) (h : ∀ v : Nat, v < N → find l v = find m v) : l = m := by
  have := runs_can hl N h1
  rw [runs_congr h, runs_can hm N h2] at this
  exact (congrArg Prod.fst this).symm
theorem Can.rise {l : List Sp} (h : Can l) : l.Pairwise (fun a b => a.1 < b.1) := by
  induction h using Can.ind with
  | nil => exact List.Pairwise.nil
  | snoc l s hc h0 hz hlt hne ih => exact List.pairwise_append.2 ⟨ih, List.pairwise_singleton _ _, fun a ha b hb => by rw [List.mem_singleton.1 hb]; exact hlt a ha⟩

/-! ### which may be -/
def okB (size nodes : Int) (l : List Sp) (i : Nat) : Bool :=
  decide ((spn l i).1 < size) && (decide (0 ≤ (spn l i).2) && decide ((spn l i).2 < min nodes 6)) && (if i = 0 then decide ((spn l i).1 = 0) else decide ((spn l (i - 1)).1 < (spn l i).1) && decide ((spn l i).2 ≠ (spn l (i - 1)).2))
def sndB (size nodes : Int) (l : List Sp) : Bool := decide (1 ≤ l.length) && decide (l.length ≤ 40) && (List.range l.length).all (okB size nodes l)
structure Snd (size nodes : Int) (l : List Sp) : Prop where
  can : Can l
  ne : l ≠ []
  len : l.length ≤ 40
  all : ∀ s ∈ l, s.1 < size ∧ 0 ≤ s.2 ∧ s.2 < min nodes 6
theorem okB_iff {size nodes : Int} {l : List Sp} {i : Nat} : okB size nodes l i = true ↔ (spn l i).1 < size ∧ (0 ≤ (spn l i).2 ∧ (spn l i).2 < min nodes 6) ∧ (i = 0 → (spn l i).1 = 0) ∧ (i ≠ 0 → (spn l (i - 1)).1 < (spn l i).1 ∧ (spn l i).2 ≠ (spn l (i - 1)).2) := by
  unfold okB
  by_cases h : i = 0
  · subst h; simp [and_assoc]
  · simp [h, and_assoc]
theorem can_of {size nodes : Int} : ∀ (n : Nat) (l : List Sp), l.length = n → (∀ i, i < n → okB size nodes l i = true) → Can l ∧ ∀ t ∈ l, 0 ≤ t.1 ∧ t.1 ≤ (spn l (n - 1)).1
  | 0, l, hn, _ => by rw [List.eq_nil_of_length_eq_zero hn]; exact ⟨Can.nil, fun t ht => by cases ht⟩
  | n + 1, l, hn, h => by
    rcases List.eq_nil_or_concat l with rfl | ⟨r, s, rfl⟩
    · simp at hn
    rw [List.concat_eq_append] at *
    have hr : r.length = n := by simpa using hn
    obtain ⟨ih1, ih2⟩ := can_of n r hr fun i hi => by
      have := h i (by omega)
      rw [okB_iff] at this ⊢
      rwa [spn_app1 (by omega), spn_app1 (by omega)] at this
    have hs := okB_iff.1 (h n (by omega))
    rw [← hr, spn_app2] at hs
    have hlt : ∀ t ∈ r, 0 ≤ t.1 ∧ t.1 < s.1 := fun t ht => by
      have h1 := ih2 t ht
      have h0 : r.length ≠ 0 := fun e => by rw [List.eq_nil_of_length_eq_zero e] at ht; cases ht
      have h2 := (hs.2.2.2 h0).1
      rw [spn_app1 (by omega)] at h2
      rw [← hr] at h1
      omega
    have h0 : 0 ≤ s.1 := by
      by_cases hz : r.length = 0
      · rw [hs.2.2.1 hz]; omega
      · have := hlt (spn r 0) (spn_mem (by omega)); omega
    refine ⟨Can.snoc r s ih1 h0 (fun e => hs.2.2.1 (by rw [e]; rfl)) (fun t ht => (hlt t ht).2) ?_, fun t ht => ?_⟩
    · intro e
      by_cases hz : r.length = 0
      · have : r = [] := List.eq_nil_of_length_eq_zero hz
        subst this
        have := hs.2.1.1
        have e' : (-1 : Int) = s.2 := e
        omega
      · have h2 := (hs.2.2.2 hz).2
        rw [spn_app1 (by omega)] at h2
        have hl : lastN r = (spn r (r.length - 1)).2 := by
          rcases List.eq_nil_or_concat r with rfl | ⟨q, u, rfl⟩
          · simp at hz
          · rw [List.concat_eq_append, lastN_snoc, List.length_append, List.length_singleton, Nat.add_sub_cancel, spn_app2]
        rw [hl] at e
        exact h2 e.symm
    · rw [Nat.add_sub_cancel, ← hr, spn_app2]
      rcases List.mem_append.1 ht with ht | ht
      · have := hlt t ht; omega
      · rw [List.mem_singleton.1 ht]; omega
theorem can_ok {size nodes : Int} {l : List Sp} (h : Can l) (ha : ∀ s ∈ l, s.1 < size ∧ 0 ≤ s.2 ∧ s.2 < min nodes 6) : ∀ i, i < l.length → okB size nodes l i = true := by
  induction h using Can.ind with
  | nil => intro i hi; simp at hi
  | snoc l s hc h0 hz hlt hne ih =>
    intro i hi
    rw [okB_iff]
    have hi' : i ≤ l.length := by simp at hi; omega
    by_cases e : i = l.length
    · subst e
      rw [spn_app2]
      refine ⟨(ha s (by simp)).1, (ha s (by simp)).2, fun e => hz (List.eq_nil_of_length_eq_zero e), fun hn => ?_⟩
      rw [spn_app1 (by omega)]
      refine ⟨hlt _ (spn_mem (by omega)), fun e => hne ?_⟩
      rw [e]
      rcases List.eq_nil_or_concat l with rfl | ⟨q, u, rfl⟩
      · simp at hn
      · rw [List.concat_eq_append, lastN_snoc, List.length_append, List.length_singleton, Nat.add_sub_cancel, spn_app2]
    · have := okB_iff.1 (ih (fun t ht => ha t (by simp [ht])) i (by omega))
      rw [spn_app1 (by omega), spn_app1 (by omega)]
      exact this
theorem sndB_iff {size nodes : Int} {l : List Sp} : sndB size nodes l = true ↔ Snd size nodes l := by
  unfold sndB
  constructor
  · intro h
    simp only [Bool.and_eq_true, decide_eq_true_eq, List.all_eq_true, List.mem_range] at h
    obtain ⟨⟨h1, h2⟩, h3⟩ := h
    obtain ⟨hc, hm⟩ := can_of l.length l rfl h3
    refine ⟨hc, fun e => by rw [e] at h1; simp at h1, h2, fun s hs => ?_⟩
    obtain ⟨i, hi, rfl⟩ := List.mem_iff_getElem.1 hs
    have := okB_iff.1 (h3 i hi)
    rw [spn_eq hi] at this
    exact ⟨this.1, this.2.1⟩
  · intro h
    simp only [Bool.and_eq_true, decide_eq_true_eq, List.all_eq_true, List.mem_range]
    refine ⟨⟨?_, h.len⟩, can_ok h.can h.all⟩
    cases l with
    | nil => exact absurd rfl h.ne
    | cons a r => simp
theorem Can.head {l : List Sp} (h : Can l) : ∀ s ∈ l.head?, s.1 = 0 := by
  induction h using Can.ind with
  | nil => intro s hs; cases hs
  | snoc l s hc h0 hz hlt hne ih =>
    intro t ht
    cases l with
    | nil => simp at ht; subst ht; exact hz rfl
    | cons a r => exact ih t (by simpa using ht)
theorem Snd.find_ok {size nodes : Int} {l : List Sp} (h : Snd size nodes l) {v : Int} (hv : 0 ≤ v) : 0 ≤ find l v ∧ find l v < min nodes 6 := by
  have : ∃ s ∈ l, s.1 ≤ v := by
    cases l with
    | nil => exact absurd rfl h.ne
    | cons a r => exact ⟨a, by simp, by have := h.can.head a (by simp); omega⟩
  obtain ⟨s, hs, _, e⟩ := find_yes l v this
  rw [e]; exact (h.all s hs).2
theorem Can.pos {l : List Sp} (h : Can l) : ∀ s ∈ l, 0 ≤ s.1 := by
  induction h using Can.ind with
  | nil => intro s hs; cases hs
  | snoc l s hc h0 hz hlt hne ih =>
    intro t ht
    rcases List.mem_append.1 ht with ht | ht
    · exact ih t ht
    · rw [List.mem_singleton.1 ht]; exact h0
theorem Can.find_neg {l : List Sp} (h : Can l) {v : Int} (hv : v < 0) : find l v = -1 := fnd_none _ _ _ fun s hs => by have := h.pos s hs; omega
end Go.Proofs.Ytfhihkogdnbghaa.spans
