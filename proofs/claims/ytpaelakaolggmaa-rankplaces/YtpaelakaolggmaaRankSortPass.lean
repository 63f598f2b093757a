/-
  Plain mathematics of the stable sort's passes: blocks of twenty, then blocks twice as great, till there is one.
-/
import Derived.Test.YtpaelakaolggmaaRankSortMath
namespace Go.Proofs.Ytpaelakaolggmaa.rank
open Go.Sort (swp PermIn SortedIn SWO swp_get swp_permIn permIn_refl permIn_trans permIn_mono permIn_all insInner insOuter)
set_option linter.unusedVariables false
variable {α : Type} [Inhabited α] {vl K : α → Nat} {d d' : Array α} {n bs q : Nat}

/-- blocks of bs are risen, and cut from one another -/
structure Blocks (vl K : α → Nat) (n bs : Nat) (d : Array α) : Prop where
  c : ∀ k, Cut vl d (bs * k)
  s : ∀ k, Srt K (bs * k) (min (bs * k + bs) n) d

/-- the first pass: q blocks of twenty are done -/
structure Twenty (vl K : α → Nat) (n q : Nat) (d : Array α) : Prop where
  c : ∀ k, Cut vl d (20 * k)
  s : ∀ k, k < q → Srt K (20 * k) (20 * k + 20) d
  r : ∀ x, 20 * q ≤ x → x < n → vl d[x]! = x

theorem Twenty.start (hv : ∀ i, i < d.size → vl d[i]! = i) : Twenty vl K d.size 0 d :=
  ⟨fun k x y hx hy hn => by rw [hv x (by omega), hv y hn]; omega, fun k hk => by omega, fun x _ hx => hv x hx⟩

theorem Twenty.rise (h : Twenty vl K n q d) {b : Nat} (hb : b ≤ n) : ∀ i j, 20 * q ≤ i → i < j → j < b → vl d[i]! < vl d[j]! := fun i j hi hij hj => by
  rw [h.r i hi (by omega), h.r j (by omega) (by omega)]; exact hij

theorem Twenty.step (h : Twenty vl K n q d) (hn : d.size = n) (hb : 20 * q + 20 ≤ n) (hp : PermIn (20 * q) (20 * q + 20) d d') (hs : Srt K (20 * q) (20 * q + 20) d') : Twenty vl K n (q + 1) d' := by
  refine ⟨fun k => (h.c k).perm hp (by omega) (by omega), fun k hk => ?_, fun x hx hxn => ?_⟩
  · by_cases e : k = q
    · subst e; exact hs
    · exact (h.s k (by omega)).congr fun i h1 h2 => hp.2.1 i (by omega)
  · rw [hp.2.1 x (by omega)]; exact h.r x (by omega) hxn

theorem Twenty.last (h : Twenty vl K n q d) (hn : d.size = n) (hq : 20 * q ≤ n) (hb : n < 20 * q + 20) (hp : PermIn (20 * q) n d d') (hs : Srt K (20 * q) n d') : Blocks vl K n 20 d' := by
  refine ⟨fun k => ?_, fun k => ?_⟩
  · by_cases e : 20 * k ≤ 20 * q ∨ n ≤ 20 * k
    · exact (h.c k).perm hp (by omega) e
    · omega
  · by_cases e : k = q
    · subst e; exact hs.sub (Nat.le_refl _) (by omega)
    · by_cases e2 : k < q
      · exact ((h.s k e2).sub (Nat.le_refl _) (by omega)).congr fun i h1 h2 => hp.2.1 i (by omega)
      · intro i j hi hij hj; omega

/-- a pass: q pairs of blocks are merged -/
structure Pass (vl K : α → Nat) (n bs q : Nat) (d : Array α) : Prop where
  c1 : ∀ k, Cut vl d (2 * bs * k)
  c2 : ∀ k, q ≤ k → Cut vl d (2 * bs * k + bs)
  s1 : ∀ k, q ≤ k → Srt K (2 * bs * k) (min (2 * bs * k + bs) n) d
  s2 : ∀ k, q ≤ k → Srt K (2 * bs * k + bs) (min (2 * bs * k + 2 * bs) n) d
  s3 : ∀ k, k < q → Srt K (2 * bs * k) (min (2 * bs * k + 2 * bs) n) d

theorem Blocks.pass (h : Blocks vl K n bs d) : Pass vl K n bs 0 d := by
  have e1 : ∀ k, 2 * bs * k = bs * (2 * k) := fun k => by rw [Nat.mul_comm 2 bs, Nat.mul_assoc]
  have e2 : ∀ k, 2 * bs * k + bs = bs * (2 * k + 1) := fun k => by rw [e1, Nat.mul_succ]
  have e3 : ∀ k, 2 * bs * k + 2 * bs = bs * (2 * k + 1) + bs := fun k => by rw [← e2]; omega
  refine ⟨fun k => by rw [e1]; exact h.c _, fun k _ => by rw [e2]; exact h.c _, fun k _ => ?_, fun k _ => ?_, fun k hk => by omega⟩
  · have := h.s (2 * k); rw [← e1] at this; exact this
  · have := h.s (2 * k + 1); rw [← e3, ← e2] at this; exact this

theorem Pass.pre (h : Pass vl K n bs q d) (hn : d.size = n) {B : Nat} (hB : B ≤ 2 * bs * q + 2 * bs) (hBn : B ≤ n) (hm : 2 * bs * q + bs < B) : Pre vl K (2 * bs * q) (2 * bs * q + bs) B d :=
  ⟨(h.s1 q (Nat.le_refl _)).sub (Nat.le_refl _) (by omega), (h.s2 q (Nat.le_refl _)).sub (Nat.le_refl _) (by omega), fun x y h1 h2 h3 h4 => h.c2 q (Nat.le_refl _) x y h2 h3 (by omega)⟩

theorem Pass.step (h : Pass vl K n bs q d) (hn : d.size = n) {B : Nat} (hB : B = min (2 * bs * q + 2 * bs) n) (hp : PermIn (2 * bs * q) B d d') (hs : Srt K (2 * bs * q) B d') : Pass vl K n bs (q + 1) d' := by
  have lo : ∀ k, k ≤ q → 2 * bs * k ≤ 2 * bs * q := fun k hk => Nat.mul_le_mul_left _ hk
  have hi : ∀ k, q + 1 ≤ k → 2 * bs * q + 2 * bs ≤ 2 * bs * k := fun k hk => by rw [← Nat.mul_succ]; exact Nat.mul_le_mul_left _ hk
  have lo2 : ∀ k, k < q → 2 * bs * k + 2 * bs ≤ 2 * bs * q := fun k hk => by rw [← Nat.mul_succ]; exact Nat.mul_le_mul_left _ hk
  refine ⟨fun k => ?_, fun k hk => ?_, fun k hk => ?_, fun k hk => ?_, fun k hk => ?_⟩
  · by_cases e : k ≤ q
    · exact (h.c1 k).perm hp (by omega) (.inl (lo k e))
    · have := hi k (by omega); exact (h.c1 k).perm hp (by omega) (.inr (by omega))
  · have := hi k hk; exact (h.c2 k (by omega)).perm hp (by omega) (.inr (by omega))
  · have := hi k hk; exact (h.s1 k (by omega)).congr fun i h1 h2 => hp.2.1 i (by omega)
  · have := hi k hk; exact (h.s2 k (by omega)).congr fun i h1 h2 => hp.2.1 i (by omega)
  · by_cases e : k = q
    · subst e; rw [← hB]; exact hs
    · have := lo2 k (by omega); exact (h.s3 k (by omega)).congr fun i h1 h2 => hp.2.1 i (by omega)

theorem Pass.last (h : Pass vl K n bs q d) (hq : n ≤ 2 * bs * q + bs) : Blocks vl K n (2 * bs) d := by
  refine ⟨h.c1, fun k => ?_⟩
  by_cases e : k < q
  · exact h.s3 k e
  · by_cases e2 : k = q
    · subst e2; exact (h.s1 k (Nat.le_refl _)).sub (Nat.le_refl _) (by omega)
    · have : 2 * bs * q + 2 * bs ≤ 2 * bs * k := by rw [← Nat.mul_succ]; exact Nat.mul_le_mul_left _ (by omega)
      intro i j hi hij hj; omega

theorem Blocks.all (h : Blocks vl K n bs d) (hn : n ≤ bs) : Srt K 0 n d := by
  have := h.s 0
  rw [Nat.mul_zero] at this
  exact this.sub (Nat.le_refl _) (by omega)
end Go.Proofs.Ytpaelakaolggmaa.rank
