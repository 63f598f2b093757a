/-
  The contract of the stable sort's merge (slices.symMergeCmpFunc): two risen parts become one, the left part's first where keys are one.
-/
import Derived.Test.YtpaelakaolggmaaRankSortMath
namespace Go.Proofs.Ytpaelakaolggmaa.rank
open Go.ChangeShapes Go.WideShapes Go.ChangeAt Go.RowKit
open Go.Sort (swp PermIn SortedIn SWO swp_get swp_permIn permIn_refl permIn_trans permIn_mono permIn_all insInner insOuter)
set_option linter.unusedVariables false
variable {α : Type} [Inhabited α] {vl K : α → Nat} {blk bx : Nat} {cf : α → α → Int} {W0 W : World} {d : Array α}

/-- what a call of the merge on [a, b) at m comes to -/
def Syms (vl K : α → Nat) (blk bx : Nat) (W0 : World) (cap size a m b : Nat) (d : Array α) (w : World) : Prop :=
  Calls Try.prog 33 #[.slice (some ⟨blk, 0, none⟩) size cap, .int .i64 a, .int .i64 m, .int .i64 b, .func (.func 29) #[] #[.pointer (some ⟨bx, 0, none⟩)]] w fun e w' => e = .returned (.tuple #[]) ∧
    ∃ d' : Array α, PermIn a b d d' ∧ Srt K a b d' ∧ St vl blk W0 d' w'

set_option maxHeartbeats 8000000 in
set_option maxRecDepth 100000 in
/-- one element on the left -/
theorem sym_left (hK : ∀ x y : α, vl x < vl y → (cf y x < 0 ↔ K y < K x)) (cap a m b : Nat) (d : Array α) (w : World) (hC : Cmps vl blk W0 bx cf) (S : St vl blk W0 d w) (hm : m = a + 1) (hmb : m < b) (hb : b ≤ d.size) (hsz : d.size < 4611686018427387904) (hp : Pre vl K a m b d) :
    Syms vl K blk bx W0 cap d.size a m b d w := by
  unfold Syms
  have HC : Aside (Cmps vl blk W0 bx cf) := hC
  have HK : Aside (∀ x y : α, vl x < vl y → (cf y x < 0 ↔ K y < K x)) := hK
  have HP : Aside (Pre vl K a m b d) := hp
  have S0 : Aside (St vl blk W0 d w) := S
  clear S hC hK hp
  have em : (m : Int) - (a : Int) = 1 := by omega
  have HM : Hid (m = a + 1) := hm
  have hma : a < m := by omega
  clear hm
  go_enter Try.func33, Try.ntmps33
  go_wp2
  go_loopg [10, 11, 12] (b - m) (fun g1 vi vj vh wr => ∃ (i j : Nat), vi = .int .i64 i ∧ vj = .int .i64 j ∧ m ≤ i ∧ i ≤ j ∧ j ≤ b ∧ j - i ≤ g1 ∧ Aside (St vl blk W0 d wr) ∧ Hid ((m < i → K d[i - 1]! ≤ K d[a]!) ∧ (j < b → K d[a]! ≤ K d[j]!)))
  case atStart => exact ⟨m, b, rfl, rfl, Nat.le_refl _, by omega, Nat.le_refl _, Nat.le_refl _, S0, ⟨fun h => by omega, fun h => by omega⟩⟩
  case round =>
    clear S0
    obtain ⟨i, j, rfl, rfl, hmi, hij, hjb, hg1, SK, HI⟩ := hrel
    by_cases hlt : i < j
    · have hltz : (i : Int) < (j : Int) := by omega
      obtain ⟨h, hh⟩ : ∃ h, h = (i + j) / 2 := ⟨_, rfl⟩
      have eh : ((i : Int) + (j : Int)) / 2 = (h : Int) := by omega
      have hih : i ≤ h := by omega
      have hhj : h < j := by omega
      have bh : (h : Int) < (d.size : Int) := by omega
      have ba : (a : Int) < (d.size : Int) := by omega
      clear hh
      obtain ⟨cx, fx⟩ := SK.out.row h (by omega)
      obtain ⟨cy, fy⟩ := SK.out.row a (by omega)
      have hcc := Cmps.at HC.out SK.out d[h]! d[a]!
      have hkk := HK.out d[a]! d[h]! (HP.out.c a h (Nat.le_refl _) (by omega) (by omega) (by omega))
      by_cases hv : cf d[h]! d[a]! < 0
      · have HN : Hid ((m < h + 1 → K d[h + 1 - 1]! ≤ K d[a]!) ∧ (j < b → K d[a]! ≤ K d[j]!)) := ⟨fun _ => Nat.le_of_lt (hkk.1 hv), HI.out.2⟩
        clear hkk
        generalize cf d[h]! d[a]! = cv at hcc hv
        have hd : decide (cv < 0) = true := decide_eq_true hv
        clear HI
        go_wp2_with fail
        go_quiet ((go_at_call 29; refine Calls.quiet_of (hcc _)))
        have S2 : Aside (St vl blk W0 d (wr.drewN nq)) := SK.out.drewN nq
        clear hcc cx cy fx fy SK
        generalize wr.drewN nq = w2 at S2 ⊢
        go_wp2
        go_roundg (j - (h + 1))
        case measure => omega
        case rel => exact ⟨h + 1, j, by go_num, rfl, by omega, by omega, by omega, Nat.le_refl _, S2, HN⟩
      · have HN : Hid ((m < i → K d[i - 1]! ≤ K d[a]!) ∧ (h < b → K d[a]! ≤ K d[h]!)) := ⟨HI.out.1, fun _ => by have := mt hkk.2 hv; omega⟩
        clear hkk
        generalize cf d[h]! d[a]! = cv at hcc hv
        have hd : decide (cv < 0) = false := decide_eq_false hv
        clear HI
        go_wp2_with fail
        go_quiet ((go_at_call 29; refine Calls.quiet_of (hcc _)))
        have S2 : Aside (St vl blk W0 d (wr.drewN nq)) := SK.out.drewN nq
        clear hcc cx cy fx fy SK
        generalize wr.drewN nq = w2 at S2 ⊢
        go_wp2
        go_roundg (h - i)
        case measure => omega
        case rel => exact ⟨i, h, rfl, rfl, by omega, by omega, by omega, Nat.le_refl _, S2, HN⟩
    · have hltz : ¬ (i : Int) < (j : Int) := by omega
      have e : i = j := by omega
      have HF : Hid ((m < i → K d[i - 1]! ≤ K d[a]!) ∧ (i < b → K d[a]! ≤ K d[i]!)) := ⟨HI.out.1, by rw [e]; exact HI.out.2⟩
      have hib : i ≤ b := by omega
      clear HI e
      go_wp2
      go_loopg [13] (i - a) (fun g2 vk wr2 => ∃ (k : Nat) (dk : Array α), vk = .int .i64 k ∧ a ≤ k ∧ k ≤ i - 1 ∧ i - 1 - k ≤ g2 ∧ Aside (St vl blk W0 dk wr2) ∧ Hid ((∀ x, dk[x]! = d[upx a k x]!) ∧ PermIn a b d dk))
      case atStart => exact ⟨a, d, rfl, Nat.le_refl _, by omega, by omega, SK, ⟨fun x => by rw [upx_zero], permIn_refl _ _ _⟩⟩
      case round =>
        clear SK
        obtain ⟨k, dk, rfl, hak, hki, hg2, SJ, HJ⟩ := hrel
        have hsk : dk.size = d.size := HJ.out.2.1
        by_cases hlt2 : k < i - 1
        · have hlt2z : (k : Int) < (i : Int) - 1 := by omega
          have bk : (k : Int) < (d.size : Int) := by omega
          have bk1 : (k : Int) + 1 < (d.size : Int) := by omega
          have pk1 : (0 : Int) ≤ (k : Int) + 1 := by omega
          obtain ⟨l, hl⟩ : ∃ l, l = k + 1 := ⟨_, rfl⟩
          have el : ((k : Int) + 1).toNat = l := by omega
          obtain ⟨x, hx⟩ : ∃ x, x = vl dk[k]! := ⟨_, rfl⟩
          obtain ⟨y, hy⟩ : ∃ y, y = vl dk[l]! := ⟨_, rfl⟩
          have S3 : Aside (St vl blk W0 (swp dk k l) ((wr.setCell ⟨blk, k, none⟩ (.int .i64 (y : Nat))).setCell ⟨blk, l, none⟩ (.int .i64 (x : Nat))).drew) := by rw [hx, hy]; exact SJ.out.swap k l (by omega) (by omega)
          obtain ⟨ca, fa⟩ := SJ.out.row k (by omega)
          obtain ⟨cb, fb⟩ := SJ.out.row l (by omega)
          obtain ⟨u, cc⟩ := SJ.out.second k l (by omega) (.int .i64 (y : Nat))
          rw [← hx] at ca
          rw [← hy] at cb
          have HN : Hid ((∀ x, (swp dk k l)[x]! = d[upx a (k + 1) x]!) ∧ PermIn a b d (swp dk k l)) := by
            refine ⟨fun z => ?_, permIn_trans _ _ _ _ _ HJ.out.2 (swp_permIn _ _ _ _ _ (by omega) (by omega) (by omega) (by omega) (by omega))⟩
            rw [swp_get dk (by omega) (by omega), upx_step a k z (by omega), ← hl]
            split
            · exact HJ.out.1 k
            · split
              · exact HJ.out.1 l
              · exact HJ.out.1 z
          clear SJ HJ hx hy hl
          go_wp2_with fail
          go_region
          clear ca cb cc fa fb
          generalize ((wr.setCell ⟨blk, k, none⟩ (.int .i64 (y : Nat))).setCell ⟨blk, l, none⟩ (.int .i64 (x : Nat))).drew = w3 at S3 ⊢
          go_wp2
          go_roundg (i - 1 - (k + 1))
          case measure => omega
          case rel => exact ⟨k + 1, swp dk k l, by go_num, by omega, by omega, by omega, S3, HN⟩
        · have hlt2z : ¬ (k : Int) < (i : Int) - 1 := by omega
          have e : k = i - 1 := by omega
          go_wp2
          rw [e] at HJ
          refine bodyPost_ret (results_none Try.results33 _ _ _) rfl ?_
          exact ⟨rfl, dk, HJ.out.2, up_sorts HM.out hmi hib HP.out.r HF.out.1 HF.out.2 HJ.out.1, SJ.out⟩
end Go.Proofs.Ytpaelakaolggmaa.rank
