/-
  The world that a stable sort passes through: a row of places in one block, all blocks ahead of it as they were; and the exchange of two of its cells.
-/
import Derived.Test.YtpaelakaolggmaaRankMean
import Derived.Sort.LotA
import Derived.BigQuiet
import Derived.Deep.QuietTactic
import Derived.Deep.LoopGhost
import Derived.WalkSmall
namespace Go.Proofs.Ytpaelakaolggmaa.rank
open Go.ChangeShapes Go.WideShapes Go.ChangeAt Go.RowKit
open Go.Sort (swp PermIn SortedIn SWO swp_get swp_permIn permIn_refl permIn_trans permIn_mono permIn_all insInner insOuter)
set_option linter.unusedVariables false
variable {α : Type} [Inhabited α] {vl : α → Nat} {blk : Nat} {W0 W : World} {d : Array α}

/-- W is a world of the sort's: the blocks ahead of the row's are as in W0, and the row holds d -/
structure St (vl : α → Nat) (blk : Nat) (W0 : World) (d : Array α) (W : World) : Prop where
  bel : Below blk W0 W
  row : ∀ i, i < d.size → W.cell? ⟨blk, i, none⟩ = some (.int .i64 (vl d[i]! : Nat)) ∧ W.frozen? ⟨blk, i, none⟩ = false

theorem St.drewN (h : St vl blk W0 d W) (q : Nat) : St vl blk W0 d (W.drewN q) := ⟨below_drewN h.bel q, h.row⟩
theorem St.drew (h : St vl blk W0 d W) : St vl blk W0 d W.drew := ⟨h.bel.drew, h.row⟩

theorem St.swap (h : St vl blk W0 d W) (i j : Nat) (hi : i < d.size) (hj : j < d.size) :
    St vl blk W0 (swp d i j) ((W.setCell ⟨blk, i, none⟩ (.int .i64 (vl d[j]! : Nat))).setCell ⟨blk, j, none⟩ (.int .i64 (vl d[i]! : Nat))).drew := by
  refine ⟨((h.bel.setCell (Nat.le_refl _) _).setCell (Nat.le_refl _) _).drew, fun k hk => ?_⟩
  rw [Go.Sort.size_swp] at hk
  rw [swp_get d hi hj k]
  have hck := (h.row k hk).1
  constructor
  · show ((W.setCell ⟨blk, i, none⟩ _).setCell ⟨blk, j, none⟩ _).cell? ⟨blk, k, none⟩ = _
    by_cases e1 : k = j
    · subst e1
      rw [if_pos rfl]
      obtain ⟨u, hu⟩ := cell?_setCell_some (w := W) (p := ⟨blk, i, none⟩) (x := .int .i64 (vl d[k]! : Nat)) (q := ⟨blk, k, none⟩) hck
      exact World.cell?_setCell_same _ _ _ hu
    · rw [if_neg e1, World.cell?_setCell_other _ _ _ _ (by intro e; simp only [Addr.mk.injEq] at e; omega)]
      by_cases e2 : k = i
      · subst e2
        rw [if_pos rfl]
        exact World.cell?_setCell_same _ _ _ hck
      · rw [if_neg e2, World.cell?_setCell_other _ _ _ _ (by intro e; simp only [Addr.mk.injEq] at e; omega)]
        exact hck
  · show ((W.setCell ⟨blk, i, none⟩ _).setCell ⟨blk, j, none⟩ _).frozen? ⟨blk, k, none⟩ = _
    rw [World.frozen?_setCell, World.frozen?_setCell]
    exact (h.row k hk).2

/-- behind an exchange's first store the second cell still holds something -/
theorem St.second (h : St vl blk W0 d W) (i j : Nat) (hj : j < d.size) (v : Value) : ∃ u, (W.setCell ⟨blk, i, none⟩ v).cell? ⟨blk, j, none⟩ = some u :=
  cell?_setCell_some (w := W) (p := ⟨blk, i, none⟩) (x := v) (q := ⟨blk, j, none⟩) (h.row j hj).1

/-- what is asked of cmp: in every world of the sort's it tells cf; it may draw -/
def Cmps (vl : α → Nat) (blk : Nat) (W0 : World) (bx : Nat) (cf : α → α → Int) : Prop :=
  ∀ W, Below blk W0 W → ∀ x y : α, Calls Try.prog 29 #[.int .i64 (vl x : Nat), .int .i64 (vl y : Nat), .pointer (some ⟨bx, 0, none⟩)] W fun e w' => e = .returned (.int .i64 (cf x y)) ∧ ∃ q, w' = W.drewN q

theorem Cmps.at {bx : Nat} {cf : α → α → Int} (hc : Cmps vl blk W0 bx cf) (h : St vl blk W0 d W) (x y : α) (n : Nat) :
    Calls Try.prog 29 #[.int .i64 (vl x : Nat), .int .i64 (vl y : Nat), .pointer (some ⟨bx, 0, none⟩)] (W.drewN n) fun e w' => e = .returned (.int .i64 (cf x y)) ∧ ∃ q, w' = (W.drewN n).drewN q :=
  hc _ (below_drewN h.bel n) x y

/-- where the element at x comes from behind two ranges' exchange -/
def swx (a b n x : Nat) : Nat := if a ≤ x ∧ x < a + n then x - a + b else if b ≤ x ∧ x < b + n then x - b + a else x

theorem swx_zero (a b x : Nat) : swx a b 0 x = x := by unfold swx; rw [if_neg (by omega), if_neg (by omega)]

theorem swx_step (a b k x : Nat) (hab : a + (k + 1) ≤ b) : swx a b (k + 1) x = if x = b + k then swx a b k (a + k) else if x = a + k then swx a b k (b + k) else swx a b k x := by
  unfold swx
  repeat' split
  all_goals omega

set_option maxHeartbeats 4000000 in
set_option maxRecDepth 100000 in
theorem swapRange_any (f : Value) (cap a b n : Nat) (d : Array α) (w : World) (S : St vl blk W0 d w) (hab : a + n ≤ b) (hb : b + n ≤ d.size) (hsz : d.size < 4611686018427387904) :
    Calls Try.prog 35 #[.slice (some ⟨blk, 0, none⟩) d.size cap, .int .i64 a, .int .i64 b, .int .i64 n, f] w fun e w' => e = .returned (.tuple #[]) ∧
      ∃ d' : Array α, (∀ x, d'[x]! = d[swx a b n x]!) ∧ PermIn a (b + n) d d' ∧ St vl blk W0 d' w' := by
  have S0 : Aside (St vl blk W0 d w) := S
  clear S
  go_enter Try.func35, Try.ntmps35
  go_wp2
  go_loopg [10] n (fun g1 vi wr => ∃ (k : Nat) (dk : Array α), vi = .int .i64 k ∧ k ≤ n ∧ n - k ≤ g1 ∧ Aside (St vl blk W0 dk wr) ∧ Hid ((∀ x, dk[x]! = d[swx a b k x]!) ∧ PermIn a (b + n) d dk))
  case atStart => exact ⟨0, d, rfl, Nat.zero_le _, Nat.le_refl _, S0, ⟨fun x => by rw [swx_zero], permIn_refl _ _ _⟩⟩
  case round =>
    clear S0
    obtain ⟨k, dk, rfl, hk, hg1, SK, HK⟩ := hrel
    have hsk : dk.size = d.size := HK.out.2.1
    by_cases hlt : k < n
    · have hltz : (k : Int) < (n : Int) := by omega
      obtain ⟨i, hi⟩ : ∃ q, q = a + k := ⟨_, rfl⟩
      obtain ⟨j, hj⟩ : ∃ q, q = b + k := ⟨_, rfl⟩
      have ei : (a : Int) + (k : Int) = (i : Int) := by omega
      have ej : (b : Int) + (k : Int) = (j : Int) := by omega
      have bi : (i : Int) < (d.size : Int) := by omega
      have bj : (j : Int) < (d.size : Int) := by omega
      obtain ⟨x, hx⟩ : ∃ x, x = vl dk[i]! := ⟨_, rfl⟩
      obtain ⟨y, hy⟩ : ∃ y, y = vl dk[j]! := ⟨_, rfl⟩
      have S3 : Aside (St vl blk W0 (swp dk i j) ((wr.setCell ⟨blk, i, none⟩ (.int .i64 (y : Nat))).setCell ⟨blk, j, none⟩ (.int .i64 (x : Nat))).drew) := by rw [hx, hy]; exact SK.out.swap i j (by omega) (by omega)
      obtain ⟨ca, fa⟩ := SK.out.row i (by omega)
      obtain ⟨cb, fb⟩ := SK.out.row j (by omega)
      obtain ⟨u, cc⟩ := SK.out.second i j (by omega) (.int .i64 (y : Nat))
      rw [← hx] at ca
      rw [← hy] at cb
      have HN : Hid ((∀ x, (swp dk i j)[x]! = d[swx a b (k + 1) x]!) ∧ PermIn a (b + n) d (swp dk i j)) := by
        refine ⟨fun z => ?_, permIn_trans _ _ _ _ _ HK.out.2 (swp_permIn _ _ _ _ _ (by omega) (by omega) (by omega) (by omega) (by omega))⟩
        rw [swp_get dk (by omega) (by omega), swx_step a b k z (by omega), ← hi, ← hj]
        split
        · exact HK.out.1 i
        · split
          · exact HK.out.1 j
          · exact HK.out.1 z
      clear SK HK hx hy hi hj
      go_wp2_with fail
      go_region
      clear ca cb cc fa fb
      generalize ((wr.setCell ⟨blk, i, none⟩ (.int .i64 (y : Nat))).setCell ⟨blk, j, none⟩ (.int .i64 (x : Nat))).drew = w3 at S3 ⊢
      go_wp2
      go_roundg (n - (k + 1))
      case measure => omega
      case rel => exact ⟨k + 1, swp dk i j, by go_num, by omega, by omega, S3, HN⟩
    · have hltz : ¬ (k : Int) < (n : Int) := by omega
      go_wp2
      go_end0
      have e : k = n := by omega
      exact ⟨rfl, dk, by rw [← e]; exact HK.out.1, HK.out.2, SK.out⟩
end Go.Proofs.Ytpaelakaolggmaa.rank
