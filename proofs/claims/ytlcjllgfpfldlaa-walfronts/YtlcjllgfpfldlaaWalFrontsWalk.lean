/-
 The walk of WalFronts.
-/
import Derived.Test.YtlcjllgfpfldlaaWalShare
namespace Go.Proofs.Ytlcjllgfpfldlaa.wal
open Go.ChangeShapes Go.WideShapes Go.ChangeAt Go.RowKit Go.Deep
open Go.Proofs.Ytlcjllgfpfldlaa.code (Rc PRec pr rcC rcV RecIn OwnIn sndRec recB dec dec_recB Far far_row I64)
open Go.Proofs.Ytlcjllgfpfldlaa.bytes
open Go.Proofs.Ytlcjllgfpfldlaa.disk
open Go.Proofs.Ytlcjllgfpfldlaa.frame (scanB rowsB wrapB wrapB_len)
set_option linter.unusedVariables false
set_option maxRecDepth 100000
set_option linter.unusedSimpArgs false

theorem lazy_free {rs : List PRec} {d : Dk} (hb : d.b = logB recB rs) (hl : d.left = -1) (x : PRec) :
  ((lazyR x d).2 = 0 ∧ encN x = 0 ∧ (lazyR x d).1.b = logB recB (rs ++ [x]) ∧ (lazyR x d).1.lasts = d.lasts ∧ (lazyR x d).1.left = -1) ∨ ((lazyR x d).2 ≠ 0 ∧ (lazyR x d).1.b = d.b ∧ (lazyR x d).1.lasts = d.lasts ∧ (lazyR x d).1.left = -1) := by
 by_cases he : encN x = 0
 ·rw [lazyR_ok he]
  rcases lazy_is hb hl x with ⟨h1, h2⟩ | ⟨h1, h2, h3, -, h4⟩
  ·rw [h2]; exact .inl ⟨h1, he, rfl, rfl, rfl⟩
  ·exact .inr ⟨by omega, h2, h3, h4⟩
 ·rw [lazyR_no he]
  exact .inr ⟨he, rfl, rfl, hl⟩

set_option maxHeartbeats 16000000 in
theorem fronts_walk (n c n' c' : Nat) (a a' : Option Addr) (os os' : List Wop) (keep : Int) (w : World) (hO : OpsIn w a os) (hn : os.length = n) (hn2 : n ≤ 9223372036854775807) (hO' : OpsIn w a' os') (hn' : os'.length = n') (hn2' : n' ≤ 9223372036854775807) :
  Calls Try.prog 5 #[.slice a n c, .slice a' n' c', .int .i64 keep] w fun e w' => e = .returned (.bool true) ∧ Below w.heap.size w w' := by
 obtain ⟨i0, hi, hz0, hz1, hz2⟩ := info_parts info_rec
 have H : Aside (OpsIn w a os ∧ os.length = n) := ⟨hO, hn⟩
 have H' : Aside (OpsIn w a' os' ∧ os'.length = n') := ⟨hO', hn'⟩
 have hC1 := heavy_any n c a os w hO hn hn2
 clear hO hn hO' hn'
 go_enter Try.func5, Try.ntmps5
 go_wp2_with (go_at_call 6; refine hC1.mono ?_; rintro e w1 ⟨t, rfl, ht, g1⟩; refine Hid.out ?_)
 refine hid ?_
 clear hC1
 have hK := known_any w1
 have hC2 := heavy_any n' c' a' os' w1 (H'.out.1.keep g1) H'.out.2 hn2'
 have G1 : Aside (Below w.heap.size w w1) := g1
 clear g1
 cases t with
 | true =>
  clear hC2
  go_wp2_with (go_at_call 7; refine hK.mono ?_; rintro e w2 ⟨rfl, g2⟩)
  go_ret
  exact ⟨rfl, G1.out.trans (g2.mono G1.out.size)⟩
 | false =>
 have hn40 : n ≤ 40 := ht rfl
 clear ht hK
 go_wp2_with (go_at_call 6; refine hC2.mono ?_; rintro e w2 ⟨t', rfl, ht', g2⟩; refine Hid.out ?_)
 refine hid ?_
 clear hC2
 have hK := known_any w2
 have G2 : Aside (Below w.heap.size w w2) := G1.out.trans (g2.mono G1.out.size)
 clear g2 G1
 cases t' with
 | true =>
  go_wp2_with (go_at_call 7; refine hK.mono ?_; rintro e w3 ⟨rfl, g3⟩)
  go_ret
  exact ⟨rfl, G2.out.trans (g3.mono G2.out.size)⟩
 | false =>
 have hm40 : n' ≤ 40 := ht' rfl
 clear ht'
 go_wp2_with (go_at_call 7; refine hK.mono ?_; rintro e w3 ⟨rfl, g3⟩; refine Hid.out ?_)
 refine hid ?_
 have G3 : Aside (Below w.heap.size w w3) := G2.out.trans (g3.mono G2.out.size)
 have hC3 := new_one (B := w.heap.size) (w := w3) 524288 (by omega) G3.out.size
 clear hK g3 G2
 obtain ⟨K, hKK⟩ : ∃ K, w3.heap.size = K := ⟨_, rfl⟩
 rw [hKK] at hC3
 have HKK : Aside (w.heap.size ≤ K) := by have := G3.out.size; show _ ≤ _; omega
 clear hKK
 go_wp2_with (go_at_call 8; refine hC3.mono ?_; rintro e w4 ⟨rfl, hp4, g4⟩; refine Hid.out ?_)
 refine hid ?_
 have hC4 := open_yes (dsk_one _ _) w4 (new 524288) hp4 _ (open_new 524288)
 have G4 : Aside (Below w.heap.size w w4) := G3.out.trans (g4.mono HKK.out)
 clear hC3 hp4 g4 G3
 go_wp2_with (go_at_call 9; refine hC4.mono ?_; rintro e w5 ⟨h, va, vc, rs0, rfl, hx, -, -, hp5, s5⟩; refine Hid.out ?_)
 refine hid ?_
 have S0 : Aside (One w.heap.size K w5 ⟨[], 0, 524288, -1⟩ ∧ bytes.Boxed w5 h #[.pointer (some ⟨K, 0, none⟩)] 60 ∧ Below w.heap.size w w5) := ⟨hp5, hx, G4.out.trans s5.below⟩
 generalize rs0.length = z0
 clear hC4 hx hp5 s5 G4
 go_wp2_with fail
 go_loopg [11, 12] n (fun g1 vl vi wr => ∃ (k j : Nat) (la : Option Addr) (lc : Nat), vi = .int .i64 k ∧ vl = .slice la j lc ∧ k ≤ n ∧ n - k ≤ g1 ∧ j ≤ k ∧ Aside (∃ rs d, RsOwn w.heap.size wr (.slice la j lc) rs ∧ One w.heap.size K wr d ∧ LogIs recB (rs.map pr) d ∧ d.left = -1 ∧ (∀ x ∈ rs.map pr, encN x = 0) ∧ bytes.Boxed wr h #[.pointer (some ⟨K, 0, none⟩)] 60 ∧ Below w.heap.size w wr))
 case atStart => exact ⟨0, 0, none, 0, rfl, rfl, Nat.zero_le _, Nat.le_refl _, Nat.le_refl _, [], _, RsOwn.nil _ _, S0.out.1, log_new 524288, rfl, by simp, S0.out.2.1, S0.out.2.2⟩
 case round =>
  clear S0
  obtain ⟨k, j, la, lc, rfl, rfl, hk, hg1, hj, SK⟩ := hrel
  obtain ⟨rs, d, hrs, hp, hlog, hleft, henc, hx, hb⟩ := SK.out
  clear SK
  by_cases hlt : k < n
  ·have hltz : (k : Int) < (n : Int) := by omega
   have H5 : Aside (RsOwn w.heap.size wr (.slice la j lc) rs ∧ One w.heap.size K wr d ∧ bytes.Boxed wr h #[.pointer (some ⟨K, 0, none⟩)] 60 ∧ Below w.heap.size w wr ∧ LogIs recB (rs.map pr) d ∧ d.left = -1 ∧ (∀ x ∈ rs.map pr, encN x = 0)) := ⟨hrs, hp, hx, hb, hlog, hleft, henc⟩
   clear hrs hp hlog hleft henc hx hb
   obtain ⟨b, off, ha, hcs, ho⟩ := wp_at (H.out.1.keep H5.out.2.2.2.1) (k := k) (by rw [H.out.2]; exact hlt)
   subst ha
   obtain ⟨r0, r1, r2, r3, r4, r5, r6, r7, r8, r9, r10, r11, r12⟩ := wps_at hcs

   have hC5 := sound_any wr _ ho
   obtain ⟨o, ho5⟩ : ∃ o, wopn os k = o := ⟨_, rfl⟩
   have HO : Aside (wopn os k = o) := ho5
   rw [ho5] at hC5 r0 r1 r2 r3 r4 r5 r6 r7 r8 r9 r10 r11 r12
   clear ho5 hcs ho
   go_wp2_with (go_at_call 12; refine hC5.mono ?_; rintro e w6 ⟨r, rfl, hO6, hs6, hp6, g6⟩; refine Hid.out ?_)
   refine hid ?_
   have H6 : Aside (RsOwn w.heap.size w6 (.slice la j lc) rs ∧ One w.heap.size K w6 d ∧ bytes.Boxed w6 h #[.pointer (some ⟨K, 0, none⟩)] 60 ∧ Below w.heap.size w w6 ∧ pr r = sxP o) := ⟨H5.out.1.keep g6, (dsk_one _ _).keep _ _ _ H5.out.2.1 g6, H5.out.2.2.1.below g6, H5.out.2.2.2.1.trans (g6.mono H5.out.2.2.2.1.size), hp6⟩
   have hC6 := force_any (dsk_one _ _) w6 d h r H6.out.2.1 H6.out.2.2.1 hO6.recIn
   clear hC5 hO6 hs6 hp6 g6 r0 r1 r2 r3 r4 r5 r6 r7 r8 r9 r10 r11 r12
   rcases force_free H5.out.2.2.2.2.1 H5.out.2.2.2.2.2.1 (pr r) with ⟨h0, he, hl7, hf7⟩ | ⟨h0, hl7, hf7⟩
   ·rw [h0] at hC6
    have HM7 : Aside (LogIs recB (rs.map pr ++ [pr r]) (forceR (pr r) d).1 ∧ (forceR (pr r) d).1.left = -1 ∧ encN (pr r) = 0 ∧ (∀ x ∈ rs.map pr, encN x = 0)) := ⟨hl7, hf7, he, H5.out.2.2.2.2.2.2⟩
    clear h0 he hl7 hf7 H5
    generalize (forceR (pr r) d).1 = d7 at hC6 HM7
    go_wp2_with (go_at_call 11; refine hC6.mono ?_; rintro e w7 ⟨rfl, hp7, s7⟩; refine Hid.out ?_)
    refine hid ?_
    have b7 := H6.out.2.2.2.1.trans s7.below
    have H7 : Aside (RsOwn w.heap.size w7 (.slice la j lc) rs ∧ One w.heap.size K w7 d7 ∧ bytes.Boxed w7 h #[.pointer (some ⟨K, 0, none⟩)] 60 ∧ Below w.heap.size w w7) := ⟨H6.out.1.stay s7, hp7, s7.boxes _ _ _ H6.out.2.2.1 kt_log, b7⟩
    obtain ⟨b, off, ha, hcs, ho⟩ := wp_at (H.out.1.keep b7) (k := k) (by rw [H.out.2]; exact hlt)
    injection ha with ha
    injection ha with ha1 ha2
    subst ha1 ha2
    rw [HO.out] at hcs ho
    obtain ⟨r0, r1, r2, r3, r4, r5, r6, r7, r8, r9, r10, r11, r12⟩ := wps_at hcs

    have hC8 := sound_any w7 _ ho
    clear hC6 hp7 s7 b7 hcs ho
    go_wp2_with (go_at_call 12; refine hC8.mono ?_; rintro e w8 ⟨r', rfl, hO8, hs8, hp8, g8⟩; refine Hid.out ?_)
    refine hid ?_
    have H8 : Aside (RsOwn w.heap.size w8 (.slice la j lc) rs ∧ One w.heap.size K w8 d7 ∧ bytes.Boxed w8 h #[.pointer (some ⟨K, 0, none⟩)] 60 ∧ Below w.heap.size w w8 ∧ OwnIn w8 r') := ⟨H7.out.1.keep g8, (dsk_one _ _).keep _ _ _ H7.out.2.1 g8, H7.out.2.2.1.below g8, H7.out.2.2.2.trans (g8.mono H7.out.2.2.2.size), hO8⟩
    have HP8 : Aside (pr r' = pr r) := hp8.trans H6.out.2.2.2.2.symm
    clear hC8 hO8 hs8 hp8 g8 r0 r1 r2 r3 r4 r5 r6 r7 r8 r9 r10 r11 r12 H7
    have hown : w8.ownsRow w.heap.size 44 10 (.slice la j lc) j (rs.flatMap rcL) := by have := H8.out.1.own; rwa [← H8.out.1.at_.1] at this
    have hbase : w.heap.size ≤ w8.heap.size := H8.out.2.2.2.1.size
    unfold rcV rcC
    go_wp2_with (at_builtin; refine wpList_append_lies _ rfl _ _ 29 rfl w.heap.size 44 i0 _ 10 136 Try.underlying29 hi hz0 hz1 hz2 rfl (by decide) _ j _ rfl (hown.alloc _) ⟨w8.heap.size, 0, none⟩ 1 1 (rcL r') rfl rfl (cells_rec_new w8 r' _) (rcL_cell r') (by omega) (by unfold maxLen; omega) (by omega) (by simp; omega) (w8.heap.size + 1) (by simp) ?_; intro g3 c3' w9 hown9 hgr9 hat9 hlt9; refine Hid.out ?_)
    refine hid ?_
    have hfar : ∀ o e, 44 ≠ e → Far (w8.alloc o) (Value.slice la j lc).ownBlock e := fun o e he => far_row (World.ownsRow.alloc hown o) he
    have ha8 : ∀ o, Below w8.heap.size w8 (w8.alloc o) := fun o => (Below.refl _ _).alloc (Nat.le_refl _) o
    have H9 : Aside (RsOwn w.heap.size w9 (.slice (some ⟨g3, 0, none⟩) (j + 1) c3') (rs ++ [r']) ∧ One w.heap.size K w9 d7 ∧ bytes.Boxed w9 h #[.pointer (some ⟨K, 0, none⟩)] 60 ∧ Below w.heap.size w w9) :=
     ⟨H8.out.1.push H8.out.2.2.2.2 H8.out.1.at_.1.symm hown9 hgr9, ((dsk_one _ _).keep _ _ _ H8.out.2.1 (ha8 _)).grow hgr9 (hfar _ _ (by decide)) (hfar _ _ (by decide)), box_grow (H8.out.2.2.1.below (ha8 _)) hgr9 (hfar _ _ (by decide)), (H8.out.2.2.2.1.alloc hbase _).grown hgr9 (by simp; omega) fun q hq => (World.ownsRow.lt hown _ hq).1⟩
    clear hown hbase hown9 hgr9 hat9 hlt9 hfar ha8

    have S9 : Aside (∃ rs d, RsOwn w.heap.size w9 (.slice (some ⟨g3, 0, none⟩) (j + 1) c3') rs ∧ One w.heap.size K w9 d ∧ LogIs recB (rs.map pr) d ∧ d.left = -1 ∧ (∀ x ∈ rs.map pr, encN x = 0) ∧ bytes.Boxed w9 h #[.pointer (some ⟨K, 0, none⟩)] 60 ∧ Below w.heap.size w w9) := by
     refine ⟨rs ++ [r'], d7, H9.out.1, H9.out.2.1, ?_, HM7.out.2.1, fun x hx => ?_, H9.out.2.2.1, H9.out.2.2.2⟩
     ·rw [List.map_append, List.map_cons, List.map_nil, HP8.out]; exact HM7.out.1
     ·rw [List.map_append, List.map_cons, List.map_nil, HP8.out] at hx
      rcases List.mem_append.1 hx with hx | hx
      ·exact HM7.out.2.2.2 x hx
      ·simp at hx; rw [hx]; exact HM7.out.2.2.1
    clear H9 H8 H6 HP8 HM7
    go_wp2
    go_roundg (n - (k + 1))
    case measure => omega
    case rel => exact ⟨k + 1, j + 1, _, _, by go_num, rfl, by omega, by omega, by omega, S9⟩
   ·obtain ⟨E, hE⟩ : ∃ E : Int, (((forceR (pr r) d).2 : Nat) : Int) = E := ⟨_, rfl⟩
    have hE0 : ¬ E = 0 := by omega
    rw [hE] at hC6
    have HM7 : Aside (LogIs recB (rs.map pr) (forceR (pr r) d).1 ∧ (forceR (pr r) d).1.left = -1 ∧ (∀ x ∈ rs.map pr, encN x = 0)) := ⟨hl7, hf7, H5.out.2.2.2.2.2.2⟩
    clear h0 hl7 hf7 hE H5
    generalize (forceR (pr r) d).1 = d7 at hC6 HM7
    go_wp2_with (go_at_call 11; refine hC6.mono ?_; rintro e w7 ⟨rfl, hp7, s7⟩; refine Hid.out ?_)
    refine hid ?_
    have S9 : Aside (∃ rs d, RsOwn w.heap.size w7 (.slice la j lc) rs ∧ One w.heap.size K w7 d ∧ LogIs recB (rs.map pr) d ∧ d.left = -1 ∧ (∀ x ∈ rs.map pr, encN x = 0) ∧ bytes.Boxed w7 h #[.pointer (some ⟨K, 0, none⟩)] 60 ∧ Below w.heap.size w w7) := ⟨rs, d7, H6.out.1.stay s7, hp7, HM7.out.1, HM7.out.2.1, HM7.out.2.2, s7.boxes _ _ _ H6.out.2.2.1 kt_log, H6.out.2.2.2.1.trans s7.below⟩
    clear hC6 hp7 s7 H6 HM7
    go_wp2
    go_roundg (n - (k + 1))
    case measure => omega
    case rel => exact ⟨k + 1, j, _, _, by go_num, rfl, by omega, by omega, by omega, S9⟩
  ·have hltz : ¬ (k : Int) < (n : Int) := by omega
   have T0 : Aside (∃ rs ss d, rs.length = j ∧ RsOwn w.heap.size wr (.slice la j lc) (rs ++ ss) ∧ One w.heap.size K wr d ∧ d.b = logB recB ((rs ++ ss).map pr) ∧ (logB recB (rs.map pr)).length ≤ d.lasts ∧ d.left = -1 ∧ (∀ x ∈ (rs ++ ss).map pr, encN x = 0) ∧ bytes.Boxed wr h #[.pointer (some ⟨K, 0, none⟩)] 60 ∧ Below w.heap.size w wr) := ⟨rs, [], d, by have := hrs.at_.1; omega, by rw [List.append_nil]; exact hrs, hp, by rw [List.append_nil]; exact hlog.bytes, by rw [hlog.lasts]; exact Nat.le_refl _, hleft, by rw [List.append_nil]; exact henc, hx, hb⟩
   have hp40 : j ≤ 40 := by omega
   clear hrs hp hlog hleft henc hx hb hj hk hg1
   obtain ⟨p, hpj⟩ : ∃ p, p = j := ⟨_, rfl⟩
   subst hpj
   have T1 : Aside (∃ rs ss d, rs.length = p ∧ RsOwn w.heap.size wr (.slice la p lc) (rs ++ ss) ∧ One w.heap.size K wr d ∧ d.b = logB recB ((rs ++ ss).map pr) ∧ (logB recB (rs.map pr)).length ≤ d.lasts ∧ d.left = -1 ∧ (∀ x ∈ (rs ++ ss).map pr, encN x = 0) ∧ bytes.Boxed wr h #[.pointer (some ⟨K, 0, none⟩)] 60 ∧ Below w.heap.size w wr) := T0.out
   clear T0
   go_wp2_with fail
   go_loopg [11, 14] n' (fun g1 vl vi wr => ∃ (k j : Nat) (la : Option Addr) (lc : Nat), vi = .int .i64 k ∧ vl = .slice la j lc ∧ k ≤ n' ∧ n' - k ≤ g1 ∧ j ≤ p + k ∧ Aside (∃ rs ss d, rs.length = p ∧ RsOwn w.heap.size wr (.slice la j lc) (rs ++ ss) ∧ One w.heap.size K wr d ∧ d.b = logB recB ((rs ++ ss).map pr) ∧ (logB recB (rs.map pr)).length ≤ d.lasts ∧ d.left = -1 ∧ (∀ x ∈ (rs ++ ss).map pr, encN x = 0) ∧ bytes.Boxed wr h #[.pointer (some ⟨K, 0, none⟩)] 60 ∧ Below w.heap.size w wr))
   case atStart => exact ⟨0, p, la, lc, rfl, rfl, Nat.zero_le _, Nat.le_refl _, by omega, T1.out⟩
   case round =>
    clear T1
    obtain ⟨k, q, la, lc, rfl, rfl, hk, hg1, hj, SK⟩ := hrel
    obtain ⟨rs, ss, d, hrl, hrs, hp, hby, hla, hleft, henc, hx, hb⟩ := SK.out
    clear SK
    by_cases hlt : k < n'
    ·have hltz : (k : Int) < (n' : Int) := by omega
     have H5 : Aside (RsOwn w.heap.size wr (.slice la q lc) (rs ++ ss) ∧ One w.heap.size K wr d ∧ bytes.Boxed wr h #[.pointer (some ⟨K, 0, none⟩)] 60 ∧ Below w.heap.size w wr ∧ d.b = logB recB ((rs ++ ss).map pr) ∧ (logB recB (rs.map pr)).length ≤ d.lasts ∧ d.left = -1 ∧ (∀ x ∈ (rs ++ ss).map pr, encN x = 0) ∧ rs.length = p) := ⟨hrs, hp, hx, hb, hby, hla, hleft, henc, hrl⟩
     clear hrs hp hby hla hleft henc hx hb hrl
     obtain ⟨b, off, ha, hcs, ho⟩ := wp_at (H'.out.1.keep H5.out.2.2.2.1) (k := k) (by rw [H'.out.2]; exact hlt)
     subst ha
     obtain ⟨r0, r1, r2, r3, r4, r5, r6, r7, r8, r9, r10, r11, r12⟩ := wps_at hcs

     have hC5 := sound_any wr _ ho
     obtain ⟨o, ho5⟩ : ∃ o, wopn os' k = o := ⟨_, rfl⟩
     have HO : Aside (wopn os' k = o) := ho5
     rw [ho5] at hC5 r0 r1 r2 r3 r4 r5 r6 r7 r8 r9 r10 r11 r12
     clear ho5 hcs ho
     go_wp2_with (go_at_call 12; refine hC5.mono ?_; rintro e w6 ⟨r, rfl, hO6, hs6, hp6, g6⟩; refine Hid.out ?_)
     refine hid ?_
     have H6 : Aside (RsOwn w.heap.size w6 (.slice la q lc) (rs ++ ss) ∧ One w.heap.size K w6 d ∧ bytes.Boxed w6 h #[.pointer (some ⟨K, 0, none⟩)] 60 ∧ Below w.heap.size w w6 ∧ pr r = sxP o) := ⟨H5.out.1.keep g6, (dsk_one _ _).keep _ _ _ H5.out.2.1 g6, H5.out.2.2.1.below g6, H5.out.2.2.2.1.trans (g6.mono H5.out.2.2.2.1.size), hp6⟩
     have hC6 := lazy_any (dsk_one _ _) w6 d h r H6.out.2.1 H6.out.2.2.1 hO6.recIn
     clear hC5 hO6 hs6 hp6 g6 r0 r1 r2 r3 r4 r5 r6 r7 r8 r9 r10 r11 r12
     rcases lazy_free H5.out.2.2.2.2.1 H5.out.2.2.2.2.2.2.1 (pr r) with ⟨h0, he, hb7, hl7, hf7⟩ | ⟨h0, hb7, hl7, hf7⟩
     ·rw [h0] at hC6
      have HM7 : Aside ((lazyR (pr r) d).1.b = logB recB ((rs ++ ss).map pr ++ [pr r]) ∧ (logB recB (rs.map pr)).length ≤ (lazyR (pr r) d).1.lasts ∧ (lazyR (pr r) d).1.left = -1 ∧ encN (pr r) = 0 ∧ (∀ x ∈ (rs ++ ss).map pr, encN x = 0) ∧ rs.length = p) := ⟨hb7, by rw [hl7]; exact H5.out.2.2.2.2.2.1, hf7, he, H5.out.2.2.2.2.2.2.2.1, H5.out.2.2.2.2.2.2.2.2⟩
      clear h0 he hb7 hl7 hf7 H5
      generalize (lazyR (pr r) d).1 = d7 at hC6 HM7
      go_wp2_with (go_at_call 18; refine hC6.mono ?_; rintro e w7 ⟨rfl, hp7, s7⟩; refine Hid.out ?_)
      refine hid ?_
      have b7 := H6.out.2.2.2.1.trans s7.below
      have H7 : Aside (RsOwn w.heap.size w7 (.slice la q lc) (rs ++ ss) ∧ One w.heap.size K w7 d7 ∧ bytes.Boxed w7 h #[.pointer (some ⟨K, 0, none⟩)] 60 ∧ Below w.heap.size w w7) := ⟨H6.out.1.stay s7, hp7, s7.boxes _ _ _ H6.out.2.2.1 kt_log, b7⟩
      obtain ⟨b, off, ha, hcs, ho⟩ := wp_at (H'.out.1.keep b7) (k := k) (by rw [H'.out.2]; exact hlt)
      injection ha with ha
      injection ha with ha1 ha2
      subst ha1 ha2
      rw [HO.out] at hcs ho
      obtain ⟨r0, r1, r2, r3, r4, r5, r6, r7, r8, r9, r10, r11, r12⟩ := wps_at hcs

      have hC8 := sound_any w7 _ ho
      clear hC6 hp7 s7 b7 hcs ho
      go_wp2_with (go_at_call 12; refine hC8.mono ?_; rintro e w8 ⟨r', rfl, hO8, hs8, hp8, g8⟩; refine Hid.out ?_)
      refine hid ?_
      have H8 : Aside (RsOwn w.heap.size w8 (.slice la q lc) (rs ++ ss) ∧ One w.heap.size K w8 d7 ∧ bytes.Boxed w8 h #[.pointer (some ⟨K, 0, none⟩)] 60 ∧ Below w.heap.size w w8 ∧ OwnIn w8 r') := ⟨H7.out.1.keep g8, (dsk_one _ _).keep _ _ _ H7.out.2.1 g8, H7.out.2.2.1.below g8, H7.out.2.2.2.trans (g8.mono H7.out.2.2.2.size), hO8⟩
      have HP8 : Aside (pr r' = pr r) := hp8.trans H6.out.2.2.2.2.symm
      clear hC8 hO8 hs8 hp8 g8 r0 r1 r2 r3 r4 r5 r6 r7 r8 r9 r10 r11 r12 H7
      obtain ⟨us, hus⟩ : ∃ us, rs ++ ss = us := ⟨_, rfl⟩
      rw [hus] at H8
      have hown : w8.ownsRow w.heap.size 44 10 (.slice la q lc) q (us.flatMap rcL) := by have := H8.out.1.own; rwa [← H8.out.1.at_.1] at this
      have hbase : w.heap.size ≤ w8.heap.size := H8.out.2.2.2.1.size
      unfold rcV rcC
      go_wp2_with (at_builtin; refine wpList_append_lies _ rfl _ _ 29 rfl w.heap.size 44 i0 _ 10 136 Try.underlying29 hi hz0 hz1 hz2 rfl (by decide) _ q _ rfl (hown.alloc _) ⟨w8.heap.size, 0, none⟩ 1 1 (rcL r') rfl rfl (cells_rec_new w8 r' _) (rcL_cell r') (by omega) (by unfold maxLen; omega) (by omega) (by simp; omega) (w8.heap.size + 1) (by simp) ?_; intro g3 c3' w9 hown9 hgr9 hat9 hlt9; refine Hid.out ?_)
      refine hid ?_
      have hfar : ∀ o e, 44 ≠ e → Far (w8.alloc o) (Value.slice la q lc).ownBlock e := fun o e he => far_row (World.ownsRow.alloc hown o) he
      have ha8 : ∀ o, Below w8.heap.size w8 (w8.alloc o) := fun o => (Below.refl _ _).alloc (Nat.le_refl _) o
      have H9 : Aside (RsOwn w.heap.size w9 (.slice (some ⟨g3, 0, none⟩) (q + 1) c3') (us ++ [r']) ∧ One w.heap.size K w9 d7 ∧ bytes.Boxed w9 h #[.pointer (some ⟨K, 0, none⟩)] 60 ∧ Below w.heap.size w w9) :=
       ⟨H8.out.1.push H8.out.2.2.2.2 H8.out.1.at_.1.symm hown9 hgr9, ((dsk_one _ _).keep _ _ _ H8.out.2.1 (ha8 _)).grow hgr9 (hfar _ _ (by decide)) (hfar _ _ (by decide)), box_grow (H8.out.2.2.1.below (ha8 _)) hgr9 (hfar _ _ (by decide)), (H8.out.2.2.2.1.alloc hbase _).grown hgr9 (by simp; omega) fun q hq => (World.ownsRow.lt hown _ hq).1⟩
      clear hown hbase hown9 hgr9 hat9 hlt9 hfar ha8

      have S9 : Aside (∃ rs ss d, rs.length = p ∧ RsOwn w.heap.size w9 (.slice (some ⟨g3, 0, none⟩) (q + 1) c3') (rs ++ ss) ∧ One w.heap.size K w9 d ∧ d.b = logB recB ((rs ++ ss).map pr) ∧ (logB recB (rs.map pr)).length ≤ d.lasts ∧ d.left = -1 ∧ (∀ x ∈ (rs ++ ss).map pr, encN x = 0) ∧ bytes.Boxed w9 h #[.pointer (some ⟨K, 0, none⟩)] 60 ∧ Below w.heap.size w w9) := by
       refine ⟨rs, ss ++ [r'], d7, HM7.out.2.2.2.2.2, by rw [← List.append_assoc, hus]; exact H9.out.1, H9.out.2.1, ?_, HM7.out.2.1, HM7.out.2.2.1, fun x hx => ?_, H9.out.2.2.1, H9.out.2.2.2⟩
       ·rw [← List.append_assoc, List.map_append, List.map_cons, List.map_nil, HP8.out]; exact HM7.out.1
       ·rw [← List.append_assoc, List.map_append, List.map_cons, List.map_nil, HP8.out] at hx
        rcases List.mem_append.1 hx with hx | hx
        ·exact HM7.out.2.2.2.2.1 x hx
        ·simp at hx; rw [hx]; exact HM7.out.2.2.2.1
      clear H9 H8 H6 HP8 HM7 hus
      go_wp2
      go_roundg (n' - (k + 1))
      case measure => omega
      case rel => exact ⟨k + 1, q + 1, _, _, by go_num, rfl, by omega, by omega, by omega, S9⟩
     ·obtain ⟨E, hE⟩ : ∃ E : Int, (((lazyR (pr r) d).2 : Nat) : Int) = E := ⟨_, rfl⟩
      have hE0 : ¬ E = 0 := by omega
      rw [hE] at hC6
      have HM7 : Aside ((lazyR (pr r) d).1.b = logB recB ((rs ++ ss).map pr) ∧ (logB recB (rs.map pr)).length ≤ (lazyR (pr r) d).1.lasts ∧ (lazyR (pr r) d).1.left = -1 ∧ (∀ x ∈ (rs ++ ss).map pr, encN x = 0) ∧ rs.length = p) := ⟨hb7.trans H5.out.2.2.2.2.1, by rw [hl7]; exact H5.out.2.2.2.2.2.1, hf7, H5.out.2.2.2.2.2.2.2.1, H5.out.2.2.2.2.2.2.2.2⟩
      clear h0 hb7 hl7 hf7 hE H5
      generalize (lazyR (pr r) d).1 = d7 at hC6 HM7
      go_wp2_with (go_at_call 18; refine hC6.mono ?_; rintro e w7 ⟨rfl, hp7, s7⟩; refine Hid.out ?_)
      refine hid ?_
      have S9 : Aside (∃ rs ss d, rs.length = p ∧ RsOwn w.heap.size w7 (.slice la q lc) (rs ++ ss) ∧ One w.heap.size K w7 d ∧ d.b = logB recB ((rs ++ ss).map pr) ∧ (logB recB (rs.map pr)).length ≤ d.lasts ∧ d.left = -1 ∧ (∀ x ∈ (rs ++ ss).map pr, encN x = 0) ∧ bytes.Boxed w7 h #[.pointer (some ⟨K, 0, none⟩)] 60 ∧ Below w.heap.size w w7) := ⟨rs, ss, d7, HM7.out.2.2.2.2, H6.out.1.stay s7, hp7, HM7.out.1, HM7.out.2.1, HM7.out.2.2.1, HM7.out.2.2.2.1, s7.boxes _ _ _ H6.out.2.2.1 kt_log, H6.out.2.2.2.1.trans s7.below⟩
      clear hC6 hp7 s7 H6 HM7
      go_wp2
      go_roundg (n' - (k + 1))
      case measure => omega
      case rel => exact ⟨k + 1, q, _, _, by go_num, rfl, by omega, by omega, by omega, S9⟩
    ·have hltz : ¬ (k : Int) < (n' : Int) := by omega
     have hf := (dsk_one _ _).fit _ _ hp
     have hg : Good dec recB (rs.map pr ++ ss.map pr) := by rw [← List.map_append]; exact good_of hrs.all henc
     obtain ⟨mm, hmm, hrd⟩ := crash_reads hg (by rw [hby, List.map_append]) hla hf.lasts keep
     have hC4 := crash_one hp keep
     have hqq : q = p + ss.length := by have := hrs.at_.1; rw [List.length_append] at this; omega
     have hm2 : mm ≤ ss.length := by rw [List.length_map] at hmm; exact hmm
     have HS : Aside (RsOwn w.heap.size wr (.slice la q lc) (rs ++ ss) ∧ (∀ x ∈ (rs ++ ss).map pr, sndRec x = true) ∧ Below w.heap.size w wr ∧ recs dec (scanB (crash keep d).b) = ((rs ++ ss).take (p + mm)).map pr ∧ Fit d) := by
      refine ⟨hrs, snd_enc henc, hb, ?_, hf⟩
      rw [hrd, ← hrl, List.take_length_add_append, List.map_append, List.map_take]
     obtain ⟨z, hz⟩ : ∃ z, p + mm = z := ⟨_, rfl⟩
     rw [hz] at HS
     have hzq : z ≤ q ∧ p ≤ z ∧ z ≤ 80 := by omega
     clear hqq hz hrs hp hby hla hleft henc hx hb hf hg hrd hmm
     go_wp2_with (go_at_call 13; refine hC4.mono ?_; rintro e w5 ⟨rfl, hp5, s5⟩; refine Hid.out ?_)
     refine hid ?_
     have hC5 := open_yes (dsk_one _ _) w5 _ hp5 _ (open_crash HS.out.2.2.2.2 keep)
     rw [HS.out.2.2.2.1] at hC5
     have H5 : Aside (Stay w.heap.size wr w5) := s5
     clear hC4 hp5 s5
     go_wp2_with (go_at_call 9; refine hC5.mono ?_; rintro e w6 ⟨h6, ga, gc, gs, rfl, -, hgs, hpr6, -, s6⟩; refine Hid.out ?_)
     refine hid ?_
     have s06 := H5.out.trans s6
     have hr6 := HS.out.1.stay s06
     obtain ⟨hj6, hi6⟩ := hr6.at_
     obtain ⟨a6, c6, he6, hqc, hcm, -⟩ := hr6.rsIn
     injection he6 with hc1 hc2 hc3
     clear hc2
     subst hc1 hc3
     rw [← hj6] at hqc
     have hgl : gs.length = z := by
      have := congrArg List.length hpr6
      rw [List.length_map, List.length_map, List.length_take, ← hj6] at this
      omega
     have hC7 := lawSame_any gs.length z gc lc ga la gs ((rs ++ ss).take z) w6 hgs.at_.2 (hi6.take z) rfl (by rw [List.length_take, ← hj6]; omega) (by omega) (by omega) (snd_all hpr6 fun x hx => HS.out.2.1 x (by obtain ⟨y, hy, rfl⟩ := List.mem_map.1 hx; exact List.mem_map_of_mem (List.mem_of_mem_take hy))) (snd_all rfl fun x hx => HS.out.2.1 x (by obtain ⟨y, hy, rfl⟩ := List.mem_map.1 hx; exact List.mem_map_of_mem (List.mem_of_mem_take hy)))
     have H6 : Aside (gs.map pr = ((rs ++ ss).take z).map pr ∧ Below w.heap.size w w6) := ⟨hpr6, HS.out.2.2.1.trans s06.below⟩
     rw [hgl] at hC7 ⊢
     have hz1 : (p : Int) ≤ (z : Int) := by omega
     have hz2 : (z : Int) ≤ (q : Int) := by omega
     have hz3 : z ≤ lc := by omega
     have hz4 : (z : Int) ≤ (lc : Int) := by omega
     have hz5 : (0 : Int) ≤ (z : Int) := by omega
     clear hC5 hgs hpr6 s6 s06 hr6 hj6 hi6 H5 HS hgl hm2 hzq hqc hcm
     go_wp2_with (go_at_call 14; refine hC7.mono ?_; rintro e w7 ⟨t, rfl, ht, g7⟩; obtain rfl := ht.2 H6.out.1)
     go_ret
     exact ⟨rfl, H6.out.2.trans (g7.mono H6.out.2.size)⟩
end Go.Proofs.Ytlcjllgfpfldlaa.wal
