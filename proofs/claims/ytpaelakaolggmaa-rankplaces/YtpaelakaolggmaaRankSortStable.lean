/-
  The contract of slices.SortStableFunc at places 0, 1, .. that a comparison of means orders: whatever length.
-/
import Derived.Test.YtpaelakaolggmaaRankSortPass
import Derived.Test.YtpaelakaolggmaaRankSortSymM
namespace Go.Proofs.Ytpaelakaolggmaa.rank
open Go.ChangeShapes Go.WideShapes Go.ChangeAt Go.RowKit
open Go.Sort (swp PermIn SortedIn SWO swp_get swp_permIn permIn_refl permIn_trans permIn_mono permIn_all insInner insOuter)
set_option linter.unusedVariables false
variable {α : Type} [Inhabited α] {vl K : α → Nat} {blk bx : Nat} {cf : α → α → Int} {W0 W : World} {d : Array α}

set_option maxHeartbeats 16000000 in
set_option maxRecDepth 100000 in
theorem stable_any (hK : ∀ x y : α, vl x < vl y → (cf y x < 0 ↔ K y < K x)) (cap : Nat) (d : Array α) (w : World) (hC : Cmps vl blk W0 bx cf) (S : St vl blk W0 d w) (hsz : d.size < 1152921504606846976) (hv : ∀ i, i < d.size → vl d[i]! = i) :
    Calls Try.prog 31 #[.slice (some ⟨blk, 0, none⟩) d.size cap, .int .i64 d.size, .func (.func 29) #[] #[.pointer (some ⟨bx, 0, none⟩)]] w fun e w' => e = .returned (.tuple #[]) ∧
      ∃ d' : Array α, PermIn 0 d.size d d' ∧ Srt K 0 d.size d' ∧ St vl blk W0 d' w' := by
  have HC : Aside (Cmps vl blk W0 bx cf) := hC
  have HK : Aside (∀ x y : α, vl x < vl y → (cf y x < 0 ↔ K y < K x)) := hK
  have S0 : Aside (St vl blk W0 d w) := S
  have HV : Hid (Twenty vl K d.size 0 d) := Twenty.start hv
  clear S hC hK hv
  go_enter Try.func31, Try.ntmps31
  go_wp2
  go_loopg [7, 8] (d.size) (fun g1 va vb wr => ∃ (q a b : Nat) (dk : Array α), va = .int .i64 a ∧ vb = .int .i64 b ∧ Hid (a = 20 * q ∧ b = 20 * q + 20) ∧ 20 * q ≤ d.size ∧ d.size - 20 * q ≤ g1 ∧ dk.size = d.size ∧ Aside (St vl blk W0 dk wr) ∧ Hid (PermIn 0 d.size d dk ∧ Twenty vl K d.size q dk))
  case atStart => exact ⟨0, 0, 20, d, rfl, rfl, ⟨rfl, rfl⟩, by omega, by omega, rfl, S0, ⟨permIn_refl _ _ _, HV.out⟩⟩
  case round =>
    clear S0 HV
    obtain ⟨q, a, b, dk, rfl, rfl, HAB, hq, hg1, hsk, SK, HI⟩ := hrel
    obtain ⟨ha, hb⟩ := HAB.out
    clear HAB
    by_cases hlt : 20 * q + 20 ≤ d.size
    · as_aux_lemma =>
        have hltz : (b : Int) ≤ (d.size : Int) := by omega
        have hc := insertion_any bx cf cap a b dk wr HC.out SK.out (by omega) (by omega) (by omega)
        rw [hsk] at hc
        have hbb : b < 1152921504606846976 := by omega
        have HAB : Hid (a = 20 * q ∧ b = 20 * q + 20) := ⟨ha, hb⟩
        clear ha hb
        go_wp2_with (go_at_call 32; refine hc.mono ?_; rintro e w1 ⟨rfl, S1⟩)
        obtain ⟨ha, hb⟩ := HAB.out
        clear HAB
        have hi := ins_sorts cf HK.out a b dk (by omega) (by omega) (by rw [ha]; exact HI.out.2.rise (by omega))
        generalize Go.Sort.insertionSort (ltc cf) dk a b = d1 at hi S1
        have SA : Aside (St vl blk W0 d1 w1) := S1
        have HA : Hid (PermIn 0 d.size d d1 ∧ Twenty vl K d.size (q + 1) d1) := by
          refine ⟨permIn_trans _ _ _ _ _ HI.out.1 (permIn_mono _ _ _ _ _ _ (Nat.zero_le _) (by omega) (by omega) hi.1), HI.out.2.step hsk hlt ?_ ?_⟩
          · rw [← hb, ← ha]; exact hi.1
          · rw [← hb, ← ha]; exact hi.2
        have hs1 : d1.size = d.size := hi.1.1.trans hsk
        have hm : d.size - 20 * (q + 1) < d.size - 20 * q := by omega
        have HAB : Hid (b = 20 * (q + 1) ∧ b + 20 = 20 * (q + 1) + 20) := ⟨by omega, by omega⟩
        have hq1 : 20 * (q + 1) ≤ d.size := by omega
        clear hi S1 HI SK hc ha hb
        go_wp2
        go_roundg (d.size - 20 * (q + 1))
        case measure => omega
        case rel => exact ⟨q + 1, b, b + 20, d1, rfl, by go_num, HAB, by omega, by omega, hs1, SA, HA⟩
    · have hltz : ¬ (b : Int) ≤ (d.size : Int) := by omega
      have hc := insertion_any bx cf cap a d.size dk wr HC.out SK.out (by omega) (by omega) (by omega)
      rw [hsk] at hc
      have HAB : Hid (a = 20 * q ∧ b = 20 * q + 20) := ⟨ha, hb⟩
      clear ha hb
      go_wp2_with (go_at_call 32; refine hc.mono ?_; rintro e w1 ⟨rfl, S1⟩)
      obtain ⟨ha, hb⟩ := HAB.out
      clear HAB
      have hi := ins_sorts cf HK.out a d.size dk (by omega) (by omega) (by rw [ha]; exact HI.out.2.rise (by omega))
      generalize Go.Sort.insertionSort (ltc cf) dk a d.size = d1 at hi S1
      have SA : Aside (St vl blk W0 d1 w1) := S1
      have HA : Hid (PermIn 0 d.size d d1 ∧ Blocks vl K d.size 20 d1) := by
        refine ⟨permIn_trans _ _ _ _ _ HI.out.1 (permIn_mono _ _ _ _ _ _ (Nat.zero_le _) (by omega) (by omega) hi.1), HI.out.2.last hsk hq (by omega) ?_ ?_⟩
        · rw [← ha]; exact hi.1
        · rw [← ha]; exact hi.2
      have hs1 : d1.size = d.size := hi.1.1.trans hsk
      clear hi S1 HI SK hc hltz hlt hg1 ha hb
      go_loopg [6, 7, 8, 9] (d.size) (fun g2 vs va vb vm wr2 => ∃ (bs : Nat) (dk : Array α), vs = .int .i64 bs ∧ 20 ≤ bs ∧ bs < 2305843009213693952 ∧ d.size - bs ≤ g2 ∧ dk.size = d.size ∧ Aside (St vl blk W0 dk wr2) ∧ Hid (PermIn 0 d.size d dk ∧ Blocks vl K d.size bs dk))
      case atStart => exact ⟨20, d1, rfl, Nat.le_refl _, by omega, by omega, hs1, SA, HA⟩
      case round =>
        clear SA HA hs1 hq hsk
        obtain ⟨bs, dj, rfl, hb1, hb2, hg2, hsj, SJ, HJ⟩ := hrel
        by_cases hlt2 : bs < d.size
        · have hlt2z : (bs : Int) < (d.size : Int) := by omega
          have HP : Hid (PermIn 0 d.size d dj ∧ Pass vl K d.size bs 0 dj) := ⟨HJ.out.1, HJ.out.2.pass⟩
          clear HJ
          go_wp2
          go_loopg [7, 8] (d.size) (fun g3 va vb wr3 => ∃ (a2 b2 q2 : Nat) (dk : Array α), va = .int .i64 a2 ∧ vb = .int .i64 b2 ∧ Hid (b2 = a2 + 2 * bs) ∧ a2 ≤ d.size ∧ d.size - a2 ≤ g3 ∧ dk.size = d.size ∧ Aside (St vl blk W0 dk wr3) ∧ Hid (a2 = 2 * bs * q2) ∧ Hid (PermIn 0 d.size d dk ∧ Pass vl K d.size bs q2 dk))
          case atStart => exact ⟨0, 2 * bs, 0, dj, rfl, by go_num, (by omega : 2 * bs = 0 + 2 * bs), Nat.zero_le _, Nat.le_refl _, hsj, SJ, (by simp : (0 : Nat) = 2 * bs * 0), HP⟩
          case round =>
            clear SJ HP hsj dj
            obtain ⟨a2, b2, q2, d2, rfl, rfl, HB2, ha2, hg3, hs2, S2, HE, H2⟩ := hrel
            have hb2' := HB2.out
            clear HB2
            have eab : (a2 : Int) + (bs : Int) = ((a2 + bs : Nat) : Int) := by omega
            by_cases hlt3 : a2 + 2 * bs ≤ d.size
            · as_aux_lemma =>
                have hlt3z : (b2 : Int) ≤ (d.size : Int) := by omega
                have hpre : Pre vl K a2 (a2 + bs) b2 d2 := by
                  have e := HE.out
                  rw [e] at hb2' ⊢
                  exact H2.out.2.pre hs2 (by omega) (by omega) (by omega)
                have hc := sym_any HK.out cap d.size HC.out (by omega) (b2 - a2) a2 (a2 + bs) b2 d2 wr (Nat.le_refl _) S2.out (by omega) (by omega) (by omega) hs2 hpre
                unfold Syms at hc
                clear hpre
                obtain ⟨m2, hm2⟩ : ∃ m2, m2 = a2 + bs := ⟨_, rfl⟩
                rw [← hm2] at hc eab
                have HBB : Hid (b2 = a2 + 2 * bs ∧ m2 = a2 + bs) := ⟨hb2', hm2⟩
                have hbb : b2 < 1152921504606846976 := by omega
                clear hb2' hm2
                go_wp2_with (go_at_call 33; refine hc.mono ?_; rintro e w1 ⟨rfl, d3, p3, s3, S3⟩)
                obtain ⟨hb2', hm2⟩ := HBB.out
                clear HBB
                have SA : Aside (St vl blk W0 d3 w1) := S3
                have HA : Hid (PermIn 0 d.size d d3 ∧ Pass vl K d.size bs (q2 + 1) d3) := by
                  refine ⟨permIn_trans _ _ _ _ _ H2.out.1 (permIn_mono _ _ _ _ _ _ (Nat.zero_le _) (by omega) (by omega) p3), ?_⟩
                  have e := HE.out
                  rw [e] at p3 s3 hb2'
                  exact H2.out.2.step hs2 (by omega) p3 s3
                have hs3 : d3.size = d.size := p3.1.trans hs2
                have HE2 : Hid (b2 = 2 * bs * (q2 + 1)) := by show _ = _; rw [Nat.mul_succ, ← HE.out]; exact hb2'
                have hm3 : d.size - b2 < d.size - a2 := by omega
                clear S3 p3 s3 HE H2 S2 hc hb2' hm2
                go_wp2
                go_roundg (d.size - b2)
                case measure => omega
                case rel => exact ⟨b2, b2 + 2 * bs, q2 + 1, d3, rfl, by go_num, (rfl : b2 + 2 * bs = b2 + 2 * bs), by omega, by omega, hs3, SA, HE2, HA⟩
            · have hlt3z : ¬ (b2 : Int) ≤ (d.size : Int) := by omega
              by_cases hlt4 : a2 + bs < d.size
              · as_aux_lemma =>
                  have hlt4z : ((a2 + bs : Nat) : Int) < (d.size : Int) := by omega
                  have hpre : Pre vl K a2 (a2 + bs) d.size d2 := by
                    have e := HE.out
                    rw [e] at hlt4 hlt3 ⊢
                    exact H2.out.2.pre hs2 (by omega) (by omega) (by omega)
                  have hc := sym_any HK.out cap d.size HC.out (by omega) (d.size - a2) a2 (a2 + bs) d.size d2 wr (Nat.le_refl _) S2.out (by omega) (by omega) (by omega) hs2 hpre
                  unfold Syms at hc
                  clear hpre
                  obtain ⟨m2, hm2⟩ : ∃ m2, m2 = a2 + bs := ⟨_, rfl⟩
                  rw [← hm2] at hc eab hlt4z
                  have HBB : Hid (b2 = a2 + 2 * bs ∧ m2 = a2 + bs) := ⟨hb2', hm2⟩
                  clear hb2' hm2
                  go_wp2_with (go_at_call 33; refine hc.mono ?_; rintro e w1 ⟨rfl, d3, p3, s3, S3⟩)
                  obtain ⟨hb2', hm2⟩ := HBB.out
                  clear HBB
                  have SA : Aside (St vl blk W0 d3 w1) := S3
                  have HA : Hid (PermIn 0 d.size d d3 ∧ Blocks vl K d.size (2 * bs) d3) := by
                    refine ⟨permIn_trans _ _ _ _ _ H2.out.1 (permIn_mono _ _ _ _ _ _ (Nat.zero_le _) (by omega) (by omega) p3), ?_⟩
                    have e := HE.out
                    rw [e] at p3 s3 hlt3 hlt4
                    exact (H2.out.2.step hs2 (B := d.size) (by omega) p3 s3).last (by rw [Nat.mul_succ]; omega)
                  have hs3 : d3.size = d.size := p3.1.trans hs2
                  have hm3 : d.size - 2 * bs < d.size - bs := by omega
                  clear S3 p3 s3 HE H2 S2 hc hb2' hm2
                  go_wp2
                  go_roundg (d.size - 2 * bs)
                  case measure => omega
                  case rel => exact ⟨2 * bs, d3, by first | go_num | (congr 1; omega), by omega, by omega, by omega, hs3, SA, HA⟩
              · as_aux_lemma =>
                  have HA : Hid (PermIn 0 d.size d d2 ∧ Blocks vl K d.size (2 * bs) d2) := by
                    refine ⟨H2.out.1, ?_⟩
                    have e := HE.out
                    rw [e] at hlt4
                    exact H2.out.2.last (by omega)
                  obtain ⟨m2, hm2⟩ : ∃ m2, m2 = a2 + bs := ⟨_, rfl⟩
                  rw [← hm2] at eab
                  have hlt4z : ¬ (m2 : Int) < (d.size : Int) := by omega
                  have hm2b : m2 < 4611686018427387904 := by omega
                  clear HE H2 hb2' hm2 hlt4 hlt3
                  go_wp2
                  go_roundg (d.size - 2 * bs)
                  case measure => omega
                  case rel => exact ⟨2 * bs, d2, by first | go_num | (congr 1; omega), by omega, by omega, by omega, hs2, S2, HA⟩
        · as_aux_lemma =>
            have hlt2z : ¬ (bs : Int) < (d.size : Int) := by omega
            go_wp2
            go_end0
            exact ⟨rfl, dj, HJ.out.1, HJ.out.2.all (by omega), SJ.out⟩

set_option maxHeartbeats 2000000 in
theorem sort_any (hK : ∀ x y : α, vl x < vl y → (cf y x < 0 ↔ K y < K x)) (cap : Nat) (d : Array α) (w : World) (hC : Cmps vl blk W0 bx cf) (S : St vl blk W0 d w) (hsz : d.size < 1152921504606846976) (hv : ∀ i, i < d.size → vl d[i]! = i) :
    Calls Try.prog 28 #[.slice (some ⟨blk, 0, none⟩) d.size cap, .func (.func 29) #[] #[.pointer (some ⟨bx, 0, none⟩)]] w fun e w' => e = .returned (.tuple #[]) ∧
      ∃ d' : Array α, PermIn 0 d.size d d' ∧ Srt K 0 d.size d' ∧ St vl blk W0 d' w' := by
  have hc := stable_any hK cap d w hC S hsz hv
  clear hK hC S hv
  go_enter Try.func28, Try.ntmps28
  go_wp2_with (go_at_call 31; refine hc.mono ?_; rintro e w1 ⟨rfl, h1⟩)
  go_end0
  exact ⟨rfl, h1⟩
end Go.Proofs.Ytpaelakaolggmaa.rank
