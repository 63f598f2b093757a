/-
  The stable sort's merge, whole: by induction on how much there is to merge.
-/
import Derived.Test.YtpaelakaolggmaaRankSortSymR
import Derived.Deep.Cut
import Derived.Deep.CutRange
namespace Go.Proofs.Ytpaelakaolggmaa.rank
open Go.ChangeShapes Go.WideShapes Go.ChangeAt Go.RowKit
open Go.Sort (swp PermIn SortedIn SWO swp_get swp_permIn permIn_refl permIn_trans permIn_mono permIn_all insInner insOuter)
set_option linter.unusedVariables false
variable {α : Type} [Inhabited α] {vl K : α → Nat} {blk bx : Nat} {cf : α → α → Int} {W0 W : World} {d : Array α}


theorem rox_id {s m en : Nat} (h : ¬ (s < m ∧ m < en)) (h1 : s ≤ m) (h2 : m ≤ en) (x : Nat) : rox s m en x = x := by
  unfold rox
  repeat' split
  all_goals omega

set_option maxHeartbeats 16000000 in
set_option maxRecDepth 100000 in
theorem sym_more (hK : ∀ x y : α, vl x < vl y → (cf y x < 0 ↔ K y < K x)) (cap a m b : Nat) (d : Array α) (w : World) (hC : Cmps vl blk W0 bx cf) (S : St vl blk W0 d w) (ham : a + 1 < m) (hmb : m + 1 < b) (hb : b ≤ d.size) (hsz : d.size < 4611686018427387904) (hp : Pre vl K a m b d)
    (ih : ∀ (a' m' b' : Nat) (d' : Array α) (w' : World), b' - a' < b - a → St vl blk W0 d' w' → a' < m' → m' < b' → b' ≤ d'.size → d'.size = d.size → Pre vl K a' m' b' d' → Syms vl K blk bx W0 cap d.size a' m' b' d' w') :
    Syms vl K blk bx W0 cap d.size a m b d w := by
  unfold Syms at *
  have HC : Aside (Cmps vl blk W0 bx cf) := hC
  have HK : Aside (∀ x y : α, vl x < vl y → (cf y x < 0 ↔ K y < K x)) := hK
  have HP : Aside (Pre vl K a m b d) := hp
  have S0 : Aside (St vl blk W0 d w) := S
  have IH : Aside _ := ih
  clear S hC hK hp ih
  have em1 : ((m : Int) - (a : Int) == 1) = false := by rw [beq_eq_false_iff_ne]; omega
  have em2 : ((b : Int) - (m : Int) == 1) = false := by rw [beq_eq_false_iff_ne]; omega
  obtain ⟨mid, hmid⟩ : ∃ h, h = (a + b) / 2 := ⟨_, rfl⟩
  have emid : ((a : Int) + (b : Int)) / 2 = (mid : Int) := by omega
  have hd1 : 2 * mid ≤ a + b := by omega
  have hd2 : a + b ≤ 2 * mid + 1 := by omega
  clear hmid
  go_enter Try.func33, Try.ntmps33
  go_upto_if 140 with fail
  go_cut [20, 21] from 25 (fun s r wx => ∃ st0 r0 : Nat, s = .int .i64 st0 ∧ r = .int .i64 r0 ∧ st0 ≤ r0 ∧ a ≤ st0 ∧ r0 ≤ m ∧ r0 ≤ mid ∧ mid + m ≤ b + st0 ∧ (st0 = a ∨ mid + m = b + st0) ∧ (r0 = m ∨ r0 = mid) ∧ Aside (St vl blk W0 d wx))
  case first =>
    as_aux_lemma =>
      by_cases hmm : mid < m
      · have hmz : (mid : Int) < (m : Int) := by omega
        have es : (mid : Int) + (m : Int) - (b : Int) = ((mid + m - b : Nat) : Int) := by omega
        go_wp2_with fail
        go_meet
        case rel => exact ⟨mid + m - b, mid, rfl, rfl, by omega, by omega, by omega, by omega, by omega, by omega, by omega, S0⟩
      · have hmz : ¬ (mid : Int) < (m : Int) := by omega
        go_wp2_with fail
        go_meet
        case rel => exact ⟨a, m, rfl, rfl, by omega, by omega, by omega, by omega, by omega, by omega, by omega, S0⟩
  case rest =>
    clear S0
    obtain ⟨st0, r0, rfl, rfl, f1, f2, f3, f4, f5, f6, f7, SC⟩ := hcut
    go_wp2_with fail
    go_loopg [20, 21, 23] (r0 - st0) (fun g1 vs vr vc wr => ∃ (s r : Nat), vs = .int .i64 s ∧ vr = .int .i64 r ∧ st0 ≤ s ∧ s ≤ r ∧ r ≤ r0 ∧ r - s ≤ g1 ∧ Aside (St vl blk W0 d wr) ∧ Hid ((st0 < s → K d[s - 1]! ≤ K d[mid + m - s]!) ∧ (r < r0 → K d[mid + m - 1 - r]! ≤ K d[r]!)))
    case atStart => exact ⟨st0, r0, rfl, rfl, Nat.le_refl _, f1, Nat.le_refl _, Nat.le_refl _, SC, ⟨fun h => by omega, fun h => by omega⟩⟩
    case round =>
      clear SC
      obtain ⟨s, r, rfl, rfl, hs0, hsr, hr0, hg1, SK, HI⟩ := hrel
      by_cases hlt : s < r
      · have hltz : (s : Int) < (r : Int) := by omega
        obtain ⟨c, hh⟩ : ∃ h, h = (s + r) / 2 := ⟨_, rfl⟩
        have eh : ((s : Int) + (r : Int)) / 2 = (c : Int) := by omega
        have hih : s ≤ c := by omega
        have hhj : c < r := by omega
        obtain ⟨q, hq⟩ : ∃ q, q = mid + m - 1 - c := ⟨_, rfl⟩
        have eq1 : (mid : Int) + (m : Int) - 1 - (c : Int) = (q : Int) := by omega
        have hmq : m ≤ q := by omega
        have hqb : q < b := by omega
        have bh : (c : Int) < (d.size : Int) := by omega
        have ba : (q : Int) < (d.size : Int) := by omega
        clear hh
        obtain ⟨cx, fx⟩ := SK.out.row c (by omega)
        obtain ⟨cy, fy⟩ := SK.out.row q (by omega)
        have hcc := Cmps.at HC.out SK.out d[q]! d[c]!
        have hkk := HK.out d[c]! d[q]! (HP.out.c c q (by omega) (by omega) (by omega) (by omega))
        by_cases hv : cf d[q]! d[c]! < 0
        · as_aux_lemma =>
            have HN : Hid ((st0 < s → K d[s - 1]! ≤ K d[mid + m - s]!) ∧ (c < r0 → K d[mid + m - 1 - c]! ≤ K d[c]!)) := ⟨HI.out.1, fun _ => by rw [← hq]; exact Nat.le_of_lt (hkk.1 hv)⟩
            clear hkk hq
            generalize cf d[q]! d[c]! = cv at hcc hv
            have hd : decide (cv < 0) = true := decide_eq_true hv
            clear HI
            go_wp2_with fail
            go_quiet ((go_at_call 29; refine Calls.quiet_of (hcc _)))
            have S2 : Aside (St vl blk W0 d (wr.drewN nq)) := SK.out.drewN nq
            clear hcc cx cy fx fy SK
            generalize wr.drewN nq = w2 at S2 ⊢
            go_wp2
            go_roundg (c - s)
            case measure => omega
            case rel => exact ⟨s, c, rfl, rfl, by omega, by omega, by omega, Nat.le_refl _, S2, HN⟩
        · as_aux_lemma =>
            have HN : Hid ((st0 < c + 1 → K d[c + 1 - 1]! ≤ K d[mid + m - (c + 1)]!) ∧ (r < r0 → K d[mid + m - 1 - r]! ≤ K d[r]!)) := ⟨fun _ => by have := mt hkk.2 hv; simp only [Nat.add_sub_cancel]; rw [show mid + m - (c + 1) = q by omega]; omega, HI.out.2⟩
            clear hkk hq
            generalize cf d[q]! d[c]! = cv at hcc hv
            have hd : decide (cv < 0) = false := decide_eq_false hv
            clear HI
            go_wp2_with fail
            go_quiet ((go_at_call 29; refine Calls.quiet_of (hcc _)))
            have S2 : Aside (St vl blk W0 d (wr.drewN nq)) := SK.out.drewN nq
            clear hcc cx cy fx fy SK
            generalize wr.drewN nq = w2 at S2 ⊢
            go_wp2
            go_roundg (r - (c + 1))
            case measure => omega
            case rel => exact ⟨c + 1, r, by go_num, rfl, by omega, by omega, by omega, Nat.le_refl _, S2, HN⟩
      · have hltz : ¬ (s : Int) < (r : Int) := by omega
        have e : s = r := by omega
        obtain ⟨en, hen⟩ : ∃ en, en = mid + m - s := ⟨_, rfl⟩
        have een : (mid : Int) + (m : Int) - (s : Int) = (en : Int) := by omega
        have k1 : a ≤ s := by omega
        have k2 : s ≤ m := by omega
        have k3 : m ≤ en := by omega
        have k4 : en ≤ b := by omega
        have k5 : s ≤ mid := by omega
        have k6 : mid ≤ en := by omega
        have HF : Hid ((a < s → en < b → K d[s - 1]! ≤ K d[en]!) ∧ (s < m → m < en → K d[en - 1]! ≤ K d[s]!)) := by
          refine ⟨fun h1 h2 => ?_, fun h1 h2 => ?_⟩
          · rw [hen]; exact HI.out.1 (by omega)
          · have := HI.out.2 (by omega)
            rw [← e, show mid + m - 1 - s = en - 1 by omega] at this
            exact this
        have HE : Hid (en + s = mid + m) := (by omega : en + s = mid + m)
        clear HI e hen
        go_upto_region 39 with fail
        go_cut [185] from 25 (fun t wx => t = .bool (decide (s < m ∧ m < en)) ∧ Aside (St vl blk W0 d wx))
        case first =>
          as_aux_lemma =>
            by_cases t1 : s < m
            · have t1z : (s : Int) < (m : Int) := by omega
              by_cases t2 : m < en
              · have t2z : (m : Int) < (en : Int) := by omega
                go_wp2_with fail
                go_meet
                case rel => exact ⟨by rw [decide_eq_true ⟨t1, t2⟩], SK⟩
              · have t2z : ¬ (m : Int) < (en : Int) := by omega
                go_wp2_with fail
                go_meet
                case rel => exact ⟨by rw [decide_eq_false (fun h => t2 h.2)], SK⟩
            · have t1z : ¬ (s : Int) < (m : Int) := by omega
              go_wp2_with fail
              go_meet
              case rel => exact ⟨by rw [decide_eq_false (fun h => t1 h.1)], SK⟩
        case rest =>
          clear SK
          obtain ⟨rfl, SK⟩ := hcut
          go_upto_if 185 with fail
          go_cut [] from 25 (fun wx => ∃ d2 : Array α, Hid ((∀ x, d2[x]! = d[rox s m en x]!) ∧ PermIn a b d d2) ∧ Aside (St vl blk W0 d2 wx))
          case first =>
            as_aux_lemma =>
              by_cases t1 : s < m ∧ m < en
              · have t1d : decide (s < m ∧ m < en) = true := decide_eq_true t1
                have hc := rotate_any (.func (.func 29) #[] #[.pointer (some ⟨bx, 0, none⟩)]) cap s m en d wc SK.out t1.1 t1.2 (by omega) hsz
                go_wp2_with (go_at_call 34; refine hc.mono ?_; rintro e w1 ⟨rfl, d1, h1, p1, S1⟩)
                go_meet
                case rel => exact ⟨d1, ⟨h1, permIn_mono _ _ _ _ _ _ k1 k4 hb p1⟩, S1⟩
              · have t1d : decide (s < m ∧ m < en) = false := decide_eq_false t1
                go_wp2_with fail
                go_meet
                case rel => exact ⟨d, ⟨fun x => by rw [rox_id t1 k2 k3], permIn_refl _ _ _⟩, SK⟩
          case rest =>
            clear SK
            obtain ⟨d2, H2, SK⟩ := hcut
            have hz2 : d2.size = d.size := H2.out.2.1
            have PO : Aside (Post vl K a s mid en b d2) := rot_post HP.out k1 k2 k3 k4 HE.out k5 HF.out.1 HF.out.2 H2.out.1
            have P2 : Hid (PermIn a b d d2) := H2.out.2
            clear H2 HF
            go_upto_region 41 with fail
            go_cut [199] from 25 (fun t wx => t = .bool (decide (a < s ∧ s < mid)) ∧ Aside (St vl blk W0 d2 wx))
            case first =>
              as_aux_lemma =>
                by_cases t1 : a < s
                · have t1z : (a : Int) < (s : Int) := by omega
                  by_cases t2 : s < mid
                  · have t2z : (s : Int) < (mid : Int) := by omega
                    go_wp2_with fail
                    go_meet
                    case rel => exact ⟨by rw [decide_eq_true ⟨t1, t2⟩], SK⟩
                  · have t2z : ¬ (s : Int) < (mid : Int) := by omega
                    go_wp2_with fail
                    go_meet
                    case rel => exact ⟨by rw [decide_eq_false (fun h => t2 h.2)], SK⟩
                · have t1z : ¬ (a : Int) < (s : Int) := by omega
                  go_wp2_with fail
                  go_meet
                  case rel => exact ⟨by rw [decide_eq_false (fun h => t1 h.1)], SK⟩
            case rest =>
              clear SK
              obtain ⟨rfl, SK⟩ := hcut
              go_upto_if 199 with fail
              go_cut [] from 25 (fun wx => ∃ d3 : Array α, Hid (PermIn a mid d2 d3 ∧ Srt K a mid d3) ∧ Aside (St vl blk W0 d3 wx))
              case first =>
                as_aux_lemma =>
                  by_cases t1 : a < s ∧ s < mid
                  · have t1d : decide (a < s ∧ s < mid) = true := decide_eq_true t1
                    have hc := IH.out a s mid d2 wc (by omega) SK.out t1.1 t1.2 (by omega) hz2 PO.out.left
                    go_wp2_with (go_at_call 33; refine hc.mono ?_; rintro e w1 ⟨rfl, d1, p1, h1, S1⟩)
                    go_meet
                    case rel => exact ⟨d1, ⟨p1, h1⟩, S1⟩
                  · have t1d : decide (a < s ∧ s < mid) = false := decide_eq_false t1
                    go_wp2_with fail
                    go_meet
                    case rel =>
                      refine ⟨d2, ⟨permIn_refl _ _ _, ?_⟩, SK⟩
                      by_cases t2 : a < s
                      · exact PO.out.left.l.sub (Nat.le_refl _) (by omega)
                      · exact PO.out.left.r.sub (by omega) (Nat.le_refl _)
              case rest =>
                clear SK
                obtain ⟨d3, H3, SK⟩ := hcut
                have hz3 : d3.size = d.size := H3.out.1.1.trans hz2
                have hr3 : Hid (∀ i, mid ≤ i → i < b → d3[i]! = d2[i]!) := fun i h1 h2 => H3.out.1.2.1 i (.inr h1)
                have P3 : Hid (PermIn a b d d3) := permIn_trans _ _ _ _ _ P2.out (permIn_mono _ _ _ _ _ _ (Nat.le_refl _) (by omega) (by omega) H3.out.1)
                by_cases t1 : mid < en
                · have t1z : (mid : Int) < (en : Int) := by omega
                  by_cases t2 : en < b
                  · as_aux_lemma =>
                      have t2z : (en : Int) < (b : Int) := by omega
                      have hpre : Pre vl K mid en b d3 := ⟨PO.out.right.l.congr fun i h1 h2 => hr3.out i h1 (by omega), PO.out.right.r.congr fun i h1 h2 => hr3.out i (by omega) h2, fun x y h1 h2 h3 h4 => by rw [hr3.out x h1 (by omega), hr3.out y (by omega) h4]; exact PO.out.right.c x y h1 h2 h3 h4⟩
                      have hc := IH.out mid en b d3 wc (by omega) SK.out t1 t2 (by omega) hz3 hpre
                      clear hpre
                      go_wp2_with (go_at_call 33; refine hc.mono ?_; rintro e w1 ⟨rfl, d1, p1, h1, S1⟩)
                      go_end0
                      exact ⟨rfl, d1, permIn_trans _ _ _ _ _ P3.out (permIn_mono _ _ _ _ _ _ (by omega) (Nat.le_refl _) (by omega) p1), glue (by omega) (by omega) (by omega) PO.out.lo H3.out.1 H3.out.2 p1 h1, S1⟩
                  · as_aux_lemma =>
                      have t2z : ¬ (en : Int) < (b : Int) := by omega
                      go_wp2_with fail
                      go_end0
                      exact ⟨rfl, d3, P3.out, glue (by omega) (by omega) (by omega) PO.out.lo H3.out.1 H3.out.2 (permIn_refl _ _ _) ((PO.out.right.l.sub (Nat.le_refl _) (by omega : b ≤ en)).congr fun i h1 h2 => hr3.out i h1 h2), SK.out⟩
                · as_aux_lemma =>
                    have t1z : ¬ (mid : Int) < (en : Int) := by omega
                    go_wp2_with fail
                    go_end0
                    exact ⟨rfl, d3, P3.out, glue (by omega) (by omega) (by omega) PO.out.lo H3.out.1 H3.out.2 (permIn_refl _ _ _) ((PO.out.right.r.sub (by omega : en ≤ mid) (Nat.le_refl _)).congr fun i h1 h2 => hr3.out i h1 h2), SK.out⟩

/-- THE MERGE: two risen parts become one. -/
theorem sym_any (hK : ∀ x y : α, vl x < vl y → (cf y x < 0 ↔ K y < K x)) (cap size : Nat) (hC : Cmps vl blk W0 bx cf) (hsz : size < 4611686018427387904) : ∀ (n a m b : Nat) (d : Array α) (w : World), b - a ≤ n → St vl blk W0 d w → a < m → m < b → b ≤ d.size → d.size = size → Pre vl K a m b d →
    Syms vl K blk bx W0 cap size a m b d w := by
  intro n
  induction n with
  | zero => intro a m b d w hn S h1 h2; omega
  | succ n ih =>
    intro a m b d w hn S h1 h2 h3 hs hp
    by_cases e1 : m = a + 1
    · rw [← hs]; exact sym_left hK cap a m b d w hC S e1 h2 h3 (by omega) hp
    · by_cases e2 : b = m + 1
      · rw [← hs]; exact sym_right hK cap a m b d w hC S e2 (by omega) h3 (by omega) hp
      · rw [← hs]
        exact sym_more hK cap a m b d w hC S (by omega) (by omega) h3 (by omega) hp fun a' m' b' d' w' hl S' g1 g2 g3 g4 gp => by
          rw [hs]; exact ih a' m' b' d' w' (by omega) S' g1 g2 g3 (g4.trans hs) gp
end Go.Proofs.Ytpaelakaolggmaa.rank
