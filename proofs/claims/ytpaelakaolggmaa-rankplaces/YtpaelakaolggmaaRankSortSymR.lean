/-
  The stable sort's merge where there is one element on the right.
-/
import Derived.Test.YtpaelakaolggmaaRankSortSym
namespace Go.Proofs.Ytpaelakaolggmaa.rank
open Go.ChangeShapes Go.WideShapes Go.ChangeAt Go.RowKit
open Go.Sort (swp PermIn SortedIn SWO swp_get swp_permIn permIn_refl permIn_trans permIn_mono permIn_all insInner insOuter)
set_option linter.unusedVariables false
variable {α : Type} [Inhabited α] {vl K : α → Nat} {blk bx : Nat} {cf : α → α → Int} {W0 W : World} {d : Array α}


set_option maxHeartbeats 8000000 in
set_option maxRecDepth 100000 in
/-- one element on the right -/
theorem sym_right (hK : ∀ x y : α, vl x < vl y → (cf y x < 0 ↔ K y < K x)) (cap a m b : Nat) (d : Array α) (w : World) (hC : Cmps vl blk W0 bx cf) (S : St vl blk W0 d w) (hm : b = m + 1) (ham : a + 1 < m) (hb : b ≤ d.size) (hsz : d.size < 4611686018427387904) (hp : Pre vl K a m b d) :
    Syms vl K blk bx W0 cap d.size a m b d w := by
  unfold Syms
  have HC : Aside (Cmps vl blk W0 bx cf) := hC
  have HK : Aside (∀ x y : α, vl x < vl y → (cf y x < 0 ↔ K y < K x)) := hK
  have HP : Aside (Pre vl K a m b d) := hp
  have S0 : Aside (St vl blk W0 d w) := S
  clear S hC hK hp
  have em1 : ((m : Int) - (a : Int) == 1) = false := by rw [beq_eq_false_iff_ne]; omega
  have em : (b : Int) - (m : Int) = 1 := by omega
  have HM : Hid (b = m + 1) := hm
  have hma : m < b := by omega
  clear hm
  go_enter Try.func33, Try.ntmps33
  go_wp2
  go_loopg [14, 15, 16] (m - a) (fun g1 vi vj vh wr => ∃ (i j : Nat), vi = .int .i64 i ∧ vj = .int .i64 j ∧ a ≤ i ∧ i ≤ j ∧ j ≤ m ∧ j - i ≤ g1 ∧ Aside (St vl blk W0 d wr) ∧ Hid ((a < i → K d[i - 1]! ≤ K d[m]!) ∧ (j < m → K d[m]! ≤ K d[j]!)))
  case atStart => exact ⟨a, m, rfl, rfl, Nat.le_refl _, by omega, Nat.le_refl _, Nat.le_refl _, S0, ⟨fun h => by omega, fun h => by omega⟩⟩
  case round =>
    clear S0
    obtain ⟨i, j, rfl, rfl, hmi, hij, hjb, hg1, SK, HI⟩ := hrel
    by_cases hlt : i < j
    · have hltz : (i : Int) < (j : Int) := by omega
      obtain ⟨h, hh⟩ : ∃ h, h = (i + j) / 2 := ⟨_, rfl⟩
      have eh : ((i : Int) + (j : Int)) / 2 = (h : Int) := by omega
      have hih : i ≤ h := by omega
      have hhj : h < j := by omega
      have bh : (h : Int) < (d.size : Int) := by omega
      have ba : (m : Int) < (d.size : Int) := by omega
      clear hh
      obtain ⟨cx, fx⟩ := SK.out.row h (by omega)
      obtain ⟨cy, fy⟩ := SK.out.row m (by omega)
      have hcc := Cmps.at HC.out SK.out d[m]! d[h]!
      have hkk := HK.out d[h]! d[m]! (HP.out.c h m (by omega) (by omega) (by omega) (by omega))
      by_cases hv : cf d[m]! d[h]! < 0
      · have HN : Hid ((a < i → K d[i - 1]! ≤ K d[m]!) ∧ (h < m → K d[m]! ≤ K d[h]!)) := ⟨HI.out.1, fun _ => Nat.le_of_lt (hkk.1 hv)⟩
        clear hkk
        generalize cf d[m]! d[h]! = cv at hcc hv
        have hd : decide (cv < 0) = true := decide_eq_true hv
        clear HI
        go_wp2_with fail
        go_quiet ((go_at_call 29; refine Calls.quiet_of (hcc _)))
        have S2 : Aside (St vl blk W0 d (wr.drewN nq)) := SK.out.drewN nq
        clear hcc cx cy fx fy SK
        generalize wr.drewN nq = w2 at S2 ⊢
        go_wp2
        go_roundg (h - i)
        case measure => omega
        case rel => exact ⟨i, h, rfl, rfl, by omega, by omega, by omega, Nat.le_refl _, S2, HN⟩
      · have HN : Hid ((a < h + 1 → K d[h + 1 - 1]! ≤ K d[m]!) ∧ (j < m → K d[m]! ≤ K d[j]!)) := ⟨fun _ => by have := mt hkk.2 hv; simp only [Nat.add_sub_cancel]; omega, HI.out.2⟩
        clear hkk
        generalize cf d[m]! d[h]! = cv at hcc hv
        have hd : decide (cv < 0) = false := decide_eq_false hv
        clear HI
        go_wp2_with fail
        go_quiet ((go_at_call 29; refine Calls.quiet_of (hcc _)))
        have S2 : Aside (St vl blk W0 d (wr.drewN nq)) := SK.out.drewN nq
        clear hcc cx cy fx fy SK
        generalize wr.drewN nq = w2 at S2 ⊢
        go_wp2
        go_roundg (j - (h + 1))
        case measure => omega
        case rel => exact ⟨h + 1, j, by go_num, rfl, by omega, by omega, by omega, Nat.le_refl _, S2, HN⟩
    · have hltz : ¬ (i : Int) < (j : Int) := by omega
      have e : i = j := by omega
      have HF : Hid ((a < i → K d[i - 1]! ≤ K d[m]!) ∧ (i < m → K d[m]! ≤ K d[i]!)) := ⟨HI.out.1, by rw [e]; exact HI.out.2⟩
      have hib : i ≤ m := by omega
      clear HI e
      go_wp2
      go_loopg [17] (m - i) (fun g2 vk wr2 => ∃ (k : Nat) (dk : Array α), vk = .int .i64 k ∧ i ≤ k ∧ k ≤ m ∧ k - i ≤ g2 ∧ Aside (St vl blk W0 dk wr2) ∧ Hid ((∀ x, dk[x]! = d[dnx k m x]!) ∧ PermIn a b d dk))
      case atStart => exact ⟨m, d, rfl, hib, Nat.le_refl _, by omega, SK, ⟨fun x => by rw [dnx_zero], permIn_refl _ _ _⟩⟩
      case round =>
        clear SK
        obtain ⟨l, dk, rfl, hak, hki, hg2, SJ, HJ⟩ := hrel
        have hsk : dk.size = d.size := HJ.out.2.1
        by_cases hlt2 : i < l
        · obtain ⟨k, hl⟩ : ∃ k, k + 1 = l := ⟨l - 1, by omega⟩
          have zlk : (l : Int) = (k : Int) + 1 := by omega
          have hlt2z : (i : Int) < (k : Int) + 1 := by omega
          have bk : (k : Int) < (d.size : Int) := by omega
          have bk1 : (k : Int) + 1 < (d.size : Int) := by omega
          have pk1 : (0 : Int) ≤ (k : Int) + 1 := by omega
          have el : ((k : Int) + 1).toNat = l := by omega
          have rl : IntKind.i64.wrap ((k : Int) + 1) = (k : Int) + 1 := by rw [IntKind.wrap_i64]; omega
          obtain ⟨x, hx⟩ : ∃ x, x = vl dk[l]! := ⟨_, rfl⟩
          obtain ⟨y, hy⟩ : ∃ y, y = vl dk[k]! := ⟨_, rfl⟩
          have S3 : Aside (St vl blk W0 (swp dk l k) ((wr.setCell ⟨blk, l, none⟩ (.int .i64 (y : Nat))).setCell ⟨blk, k, none⟩ (.int .i64 (x : Nat))).drew) := by rw [hx, hy]; exact SJ.out.swap l k (by omega) (by omega)
          obtain ⟨ca, fa⟩ := SJ.out.row l (by omega)
          obtain ⟨cb, fb⟩ := SJ.out.row k (by omega)
          obtain ⟨u, cc⟩ := SJ.out.second l k (by omega) (.int .i64 (y : Nat))
          rw [← hx] at ca
          rw [← hy] at cb
          have HN : Hid ((∀ x, (swp dk l k)[x]! = d[dnx k m x]!) ∧ PermIn a b d (swp dk l k)) := by
            refine ⟨fun z => ?_, permIn_trans _ _ _ _ _ HJ.out.2 (swp_permIn _ _ _ _ _ (by omega) (by omega) (by omega) (by omega) (by omega))⟩
            rw [swp_get dk (by omega) (by omega), dnx_step k m z (by omega), hl]
            split
            · exact HJ.out.1 l
            · split
              · exact HJ.out.1 k
              · exact HJ.out.1 z
          clear SJ HJ hx hy
          go_wp2_with fail
          go_region
          clear ca cb cc fa fb
          generalize ((wr.setCell ⟨blk, l, none⟩ (.int .i64 (y : Nat))).setCell ⟨blk, k, none⟩ (.int .i64 (x : Nat))).drew = w3 at S3 ⊢
          go_wp2
          go_roundg (k - i)
          case measure => omega
          case rel => exact ⟨k, swp dk l k, by first | rfl | go_num, by omega, by omega, by omega, S3, HN⟩
        · have hlt2z : ¬ (i : Int) < (l : Int) := by omega
          have e : l = i := by omega
          go_wp2
          rw [e] at HJ
          refine bodyPost_ret (results_none Try.results33 _ _ _) rfl ?_
          exact ⟨rfl, dk, HJ.out.2, dn_sorts HM.out hmi hib HP.out.l HF.out.1 HF.out.2 HJ.out.1, SJ.out⟩
end Go.Proofs.Ytpaelakaolggmaa.rank
