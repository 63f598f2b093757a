/-
  Plain mathematics of the stable sort: insertion sort in blocks, merging by rotation, what stays cut. Nothing of the dump.
-/
import Derived.Test.YtpaelakaolggmaaRankSortRot
namespace Go.Proofs.Ytpaelakaolggmaa.rank
open Go.Sort (swp PermIn SortedIn SWO swp_get swp_permIn permIn_refl permIn_trans permIn_mono permIn_all insInner insOuter)
set_option linter.unusedVariables false
def ltK {α : Type} (K : α → Nat) (x y : α) : Bool := decide (K x < K y)
theorem swoK {α : Type} (K : α → Nat) : SWO (ltK K) where
  irrefl x := by simp [ltK]
  trans x y z h1 h2 := by simp only [ltK, decide_eq_true_eq] at *; omega
  ntrans x y z h1 h2 := by simp only [ltK, decide_eq_false_iff_not] at *; omega

variable {α : Type} [Inhabited α] {vl K : α → Nat} {d d' : Array α}

/-- rising keys on [a, b) -/
def Srt (K : α → Nat) (a b : Nat) (d : Array α) : Prop := ∀ i j, a ≤ i → i < j → j < b → K d[i]! ≤ K d[j]!
theorem Srt.le {a b : Nat} (h : Srt K a b d) {i j : Nat} (hi : a ≤ i) (hij : i ≤ j) (hj : j < b) : K d[i]! ≤ K d[j]! := by
  by_cases e : i = j
  · subst e; exact Nat.le_refl _
  · exact h i j hi (by omega) hj
theorem Srt.sub {a b a' b' : Nat} (h : Srt K a b d) (ha : a ≤ a') (hb : b' ≤ b) : Srt K a' b' d := fun i j hi hij hj => h i j (by omega) hij (by omega)
theorem Srt.congr {a b : Nat} (h : Srt K a b d) (e : ∀ i, a ≤ i → i < b → d'[i]! = d[i]!) : Srt K a b d' := fun i j hi hij hj => by
  rw [e i hi (by omega), e j (by omega) hj]; exact h i j hi hij hj

theorem inner_eq (lt lt' : α → α → Bool) (a : Nat) : ∀ (j : Nat) (d : Array α), j < d.size → (∀ k, a ≤ k → k < j → lt d[j]! d[k]! = lt' d[j]! d[k]!) → insInner lt a j d = insInner lt' a j d
  | 0, d, _, _ => by rw [insInner, insInner]
  | j + 1, d, hj, h => by
    rw [insInner, insInner]
    by_cases ha : a < j + 1
    · rw [h j (by omega) (by omega)]
      by_cases hl : lt' d[j + 1]! d[j]! = true
      · simp only [ha, hl, decide_true, Bool.and_self, if_true]
        refine inner_eq lt lt' a j _ (by rw [Go.Sort.size_swp]; omega) fun k hk hkj => ?_
        rw [swp_get d hj (by omega), swp_get d hj (by omega), if_pos rfl, if_neg (by omega), if_neg (by omega)]
        exact h k hk (by omega)
      · simp [hl]
    · simp [ha]

theorem inner_perm (lt : α → α → Bool) (a b : Nat) : ∀ (j : Nat) (d : Array α), j < b → b ≤ d.size → PermIn a b d (insInner lt a j d)
  | 0, d, _, _ => by rw [insInner]; exact permIn_refl _ _ _
  | j + 1, d, hj, hb => by
    rw [insInner]
    split
    · rename_i h
      simp only [gt_iff_lt, Bool.and_eq_true, decide_eq_true_eq] at h
      exact permIn_trans _ _ _ _ _ (swp_permIn _ _ _ _ _ (by omega) (by omega) (by omega) (by omega) hb) (inner_perm lt a b j _ (by omega) (by rw [Go.Sort.size_swp]; exact hb))
    · exact permIn_refl _ _ _

theorem outer_eq (lt lt' : α → α → Bool) (a b : Nat) : ∀ (n i : Nat) (d : Array α), b - i ≤ n → a < i → b ≤ d.size → (∀ k m, a ≤ k → k < m → i ≤ m → m < b → lt d[m]! d[k]! = lt' d[m]! d[k]!) → insOuter lt a b i d = insOuter lt' a b i d := by
  intro n
  induction n with
  | zero => intro i d hn ha hb h; rw [outer_done _ (by omega), outer_done _ (by omega)]
  | succ n ih =>
    intro i d hn ha hb h
    by_cases hi : i < b
    · rw [outer_more _ hi, outer_more _ hi, inner_eq lt lt' a i d (by omega) fun k hk hki => h k i hk hki (Nat.le_refl _) hi]
      have hp := inner_perm lt' a (i + 1) i d (by omega) (by omega)
      refine ih (i + 1) _ (by omega) (by omega) (by rw [hp.1]; exact hb) fun k m hk hkm him hm => ?_
      rw [hp.2.1 m (.inr (by omega))]
      by_cases hki : k < i + 1
      · exact permIn_all _ _ a (i + 1) (fun z => lt d[m]! z = lt' d[m]! z) (by omega) hp (fun k' h1 h2 => h k' m h1 (by omega) (by omega) hm) k hk hki
      · rw [hp.2.1 k (.inr (by omega))]; exact h k m hk hkm (by omega) hm
    · rw [outer_done _ hi, outer_done _ hi]

/-- insertion sort of places that rise, by cmp: a permutation, with rising keys -/
theorem ins_sorts (cf : α → α → Int) (hK : ∀ x y : α, vl x < vl y → (cf y x < 0 ↔ K y < K x)) (a b : Nat) (d : Array α) (hab : a ≤ b) (hb : b ≤ d.size) (hv : ∀ i j, a ≤ i → i < j → j < b → vl d[i]! < vl d[j]!) :
    PermIn a b d (Go.Sort.insertionSort (ltc cf) d a b) ∧ Srt K a b (Go.Sort.insertionSort (ltc cf) d a b) := by
  have e : Go.Sort.insertionSort (ltc cf) d a b = Go.Sort.insertionSort (ltK K) d a b := by
    unfold Go.Sort.insertionSort
    refine outer_eq _ _ a b (b - (a + 1)) (a + 1) d (Nat.le_refl _) (by omega) hb fun k m hk hkm _ hm => ?_
    unfold ltc ltK
    rw [Bool.eq_iff_iff, decide_eq_true_eq, decide_eq_true_eq]
    exact hK _ _ (hv k m hk hkm hm)
  rw [e]
  have h := Go.Sort.insertionSort_holds (lt := ltK K) (swoK K) d a b hab hb
  refine ⟨h.1, fun i j hi hij hj => ?_⟩
  have := h.2 i j hi hij hj
  simp only [ltK, decide_eq_false_iff_not] at this
  omega

/-- all ahead of c are lesser places than all from c on -/
def Cut (vl : α → Nat) (d : Array α) (c : Nat) : Prop := ∀ x y, x < c → c ≤ y → y < d.size → vl d[x]! < vl d[y]!

theorem Cut.perm {a b c : Nat} (h : Cut vl d c) (hp : PermIn a b d d') (hb : b ≤ d.size) (hc : c ≤ a ∨ b ≤ c) : Cut vl d' c := by
  intro x y hx hy hn
  rw [hp.1] at hn
  rcases hc with hc | hc
  · rw [hp.2.1 x (by omega)]
    by_cases hyb : a ≤ y ∧ y < b
    · exact permIn_all _ _ a b (fun z => vl d[x]! < vl z) hb hp (fun y' h1 h2 => h x y' hx (by omega) (by omega)) y hyb.1 hyb.2
    · rw [hp.2.1 y (by omega)]; exact h x y hx hy hn
  · rw [hp.2.1 y (by omega)]
    by_cases hxb : a ≤ x ∧ x < b
    · exact permIn_all _ _ a b (fun z => vl z < vl d[y]!) hb hp (fun x' h1 h2 => h x' y (by omega) hy hn) x hxb.1 hxb.2
    · rw [hp.2.1 x (by omega)]; exact h x y hx hy hn

/-- what merging asks: both parts risen, all of the left part lesser places -/
structure Pre (vl K : α → Nat) (a m b : Nat) (d : Array α) : Prop where
  l : Srt K a m d
  r : Srt K m b d
  c : ∀ x y, a ≤ x → x < m → m ≤ y → y < b → vl d[x]! < vl d[y]!

/-! one element on the left -/
def upx (a i x : Nat) : Nat := if a ≤ x ∧ x < i then x + 1 else if x = i then a else x
theorem upx_zero (a x : Nat) : upx a a x = x := by unfold upx; split; · omega
                                                   · split <;> omega
theorem upx_step (a k x : Nat) (hk : a ≤ k) : upx a (k + 1) x = if x = k + 1 then upx a k k else if x = k then upx a k (k + 1) else upx a k x := by
  unfold upx
  repeat' split
  all_goals omega
theorem up_sorts {a m b i : Nat} (hm : m = a + 1) (hi1 : m ≤ i) (hi2 : i ≤ b) (hs : Srt K m b d) (h1 : m < i → K d[i - 1]! ≤ K d[a]!) (h2 : i < b → K d[a]! ≤ K d[i]!) (e : ∀ x, d'[x]! = d[upx a (i - 1) x]!) : Srt K a b d' := by
  have g1 : ∀ x, m ≤ x → x < i → K d[x]! ≤ K d[a]! := fun x hx hxi => Nat.le_trans (hs.le hx (by omega : x ≤ i - 1) (by omega)) (h1 (by omega))
  have g2 : ∀ x, i ≤ x → x < b → K d[a]! ≤ K d[x]! := fun x hx hxb => Nat.le_trans (h2 (by omega)) (hs.le (by omega) hx hxb)
  intro p q hp hpq hq
  rw [e p, e q]
  unfold upx
  by_cases c1 : a ≤ p ∧ p < i - 1
  · rw [if_pos c1]
    by_cases c2 : a ≤ q ∧ q < i - 1
    · rw [if_pos c2]; exact hs _ _ (by omega) (by omega) (by omega)
    · rw [if_neg c2]
      by_cases c3 : q = i - 1
      · rw [if_pos c3]; exact g1 _ (by omega) (by omega)
      · rw [if_neg c3]; exact hs.le (by omega) (by omega) (by omega)
  · rw [if_neg c1, if_neg (by omega : ¬ (a ≤ q ∧ q < i - 1)), if_neg (by omega : ¬ q = i - 1)]
    by_cases c3 : p = i - 1
    · rw [if_pos c3]; exact g2 _ (by omega) hq
    · rw [if_neg c3]; exact hs.le (by omega) (by omega) hq

/-! one element on the right: k is where the moved one stands, m where it stood -/
def dnx (k m x : Nat) : Nat := if k < x ∧ x ≤ m then x - 1 else if x = k then m else x
theorem dnx_zero (m x : Nat) : dnx m m x = x := by unfold dnx; split; · omega
                                                   · split <;> omega
theorem dnx_step (k m x : Nat) (hk : k + 1 ≤ m) : dnx k m x = if x = k then dnx (k + 1) m (k + 1) else if x = k + 1 then dnx (k + 1) m k else dnx (k + 1) m x := by
  unfold dnx
  repeat' split
  all_goals omega
theorem dn_sorts {a m b i : Nat} (hb : b = m + 1) (hi1 : a ≤ i) (hi2 : i ≤ m) (hs : Srt K a m d) (h1 : a < i → K d[i - 1]! ≤ K d[m]!) (h2 : i < m → K d[m]! ≤ K d[i]!) (e : ∀ x, d'[x]! = d[dnx i m x]!) : Srt K a b d' := by
  have g1 : ∀ x, a ≤ x → x < i → K d[x]! ≤ K d[m]! := fun x hx hxi => Nat.le_trans (hs.le hx (by omega : x ≤ i - 1) (by omega)) (h1 (by omega))
  have g2 : ∀ x, i ≤ x → x < m → K d[m]! ≤ K d[x]! := fun x hx hxb => Nat.le_trans (h2 (by omega)) (hs.le (by omega) hx hxb)
  intro p q hp hpq hq
  rw [e p, e q]
  unfold dnx
  by_cases c1 : i < p ∧ p ≤ m
  · rw [if_pos c1, if_pos (by omega : i < q ∧ q ≤ m)]; exact hs _ _ (by omega) (by omega) (by omega)
  · rw [if_neg c1]
    by_cases c3 : p = i
    · rw [if_pos c3, if_pos (by omega : i < q ∧ q ≤ m)]; exact g2 _ (by omega) (by omega)
    · rw [if_neg c3]
      by_cases c2 : i < q ∧ q ≤ m
      · rw [if_pos c2]; exact hs.le (by omega) (by omega) (by omega)
      · rw [if_neg c2]
        by_cases c4 : q = i
        · rw [if_pos c4]; exact g1 _ (by omega) (by omega)
        · rw [if_neg c4]; exact hs.le (by omega) (by omega) (by omega)

/-! the rotation -/
structure Post (vl K : α → Nat) (a st mid en b : Nat) (d : Array α) : Prop where
  left : Pre vl K a st mid d
  right : Pre vl K mid en b d
  lo : ∀ x y, a ≤ x → x < mid → mid ≤ y → y < b → K d[x]! ≤ K d[y]!

theorem rot_post {a m b st mid en : Nat} (hp : Pre vl K a m b d) (h1 : a ≤ st) (h2 : st ≤ m) (h3 : m ≤ en) (h4 : en ≤ b) (he : en + st = mid + m) (hsm : st ≤ mid)
    (g1 : a < st → en < b → K d[st - 1]! ≤ K d[en]!) (g2 : st < m → m < en → K d[en - 1]! ≤ K d[st]!) (e : ∀ x, d'[x]! = d[rox st m en x]!) : Post vl K a st mid en b d' := by
  have r1 : ∀ x, x < st → d'[x]! = d[x]! := fun x hx => by rw [e x]; unfold rox; rw [if_neg (by omega), if_neg (by omega)]
  have r2 : ∀ x, st ≤ x → x < mid → d'[x]! = d[x + (m - st)]! := fun x hx hy => by rw [e x]; unfold rox; rw [if_pos (by omega)]
  have r3 : ∀ x, mid ≤ x → x < en → d'[x]! = d[x - (en - m)]! := fun x hx hy => by rw [e x]; unfold rox; rw [if_neg (by omega), if_pos (by omega)]
  have r4 : ∀ x, en ≤ x → d'[x]! = d[x]! := fun x hx => by rw [e x]; unfold rox; rw [if_neg (by omega), if_neg (by omega)]
  refine ⟨⟨fun i j hi hij hj => ?_, fun i j hi hij hj => ?_, fun x y hx hxm hy hyb => ?_⟩, ⟨fun i j hi hij hj => ?_, fun i j hi hij hj => ?_, fun x y hx hxm hy hyb => ?_⟩, fun x y hx hxm hy hyb => ?_⟩
  · rw [r1 i (by omega), r1 j hj]; exact hp.l _ _ hi hij (by omega)
  · rw [r2 i hi (by omega), r2 j (by omega) hj]; exact hp.r _ _ (by omega) (by omega) (by omega)
  · rw [r1 x hxm, r2 y hy hyb]; exact hp.c _ _ hx (by omega) (by omega) (by omega)
  · rw [r3 i hi (by omega), r3 j (by omega) hj]; exact hp.l _ _ (by omega) (by omega) (by omega)
  · rw [r4 i hi, r4 j (by omega)]; exact hp.r _ _ (by omega) hij hj
  · rw [r3 x hx hxm, r4 y hy]; exact hp.c _ _ (by omega) (by omega) (by omega) hyb
  · by_cases c1 : x < st
    · rw [r1 x c1]
      by_cases c2 : y < en
      · rw [r3 y hy c2]; exact hp.l.le hx (by omega) (by omega)
      · rw [r4 y (by omega)]
        exact Nat.le_trans (hp.l.le hx (by omega : x ≤ st - 1) (by omega)) (Nat.le_trans (g1 (by omega) (by omega)) (hp.r.le (by omega) (by omega) hyb))
    · rw [r2 x (by omega) hxm]
      by_cases c2 : y < en
      · rw [r3 y hy c2]
        exact Nat.le_trans (hp.r.le (by omega) (by omega : x + (m - st) ≤ en - 1) (by omega)) (Nat.le_trans (g2 (by omega) (by omega)) (hp.l.le (by omega) (by omega) (by omega)))
      · rw [r4 y (by omega)]; exact hp.r.le (by omega) (by omega) hyb

theorem glue {a mid b : Nat} {d2 d3 d4 : Array α} (hb : b ≤ d2.size) (ham : a ≤ mid) (hmb : mid ≤ b) (lo : ∀ x y, a ≤ x → x < mid → mid ≤ y → y < b → K d2[x]! ≤ K d2[y]!)
    (p3 : PermIn a mid d2 d3) (s3 : Srt K a mid d3) (p4 : PermIn mid b d3 d4) (s4 : Srt K mid b d4) : Srt K a b d4 := by
  have l3 : ∀ x y, a ≤ x → x < mid → mid ≤ y → y < b → K d3[x]! ≤ K d3[y]! := fun x y hx hxm hy hyb => by
    rw [p3.2.1 y (.inr hy)]
    exact permIn_all _ _ a mid (fun z => K z ≤ K d2[y]!) (by omega) p3 (fun x' h1 h2 => lo x' y h1 h2 hy hyb) x hx hxm
  have l4 : ∀ x y, a ≤ x → x < mid → mid ≤ y → y < b → K d4[x]! ≤ K d4[y]! := fun x y hx hxm hy hyb => by
    rw [p4.2.1 x (.inl hxm)]
    exact permIn_all _ _ mid b (fun z => K d3[x]! ≤ K z) (by rw [p3.1]; exact hb) p4 (fun y' h1 h2 => l3 x y' hx hxm h1 h2) y hy hyb
  intro i j hi hij hj
  by_cases c1 : j < mid
  · rw [p4.2.1 i (.inl (by omega)), p4.2.1 j (.inl c1)]; exact s3 i j hi hij c1
  · by_cases c2 : i < mid
    · exact l4 i j hi c2 (by omega) hj
    · exact s4 i j (by omega) hij hj
end Go.Proofs.Ytpaelakaolggmaa.rank
