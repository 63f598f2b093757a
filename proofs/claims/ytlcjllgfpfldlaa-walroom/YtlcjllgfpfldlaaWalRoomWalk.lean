/-
 The walk of WalRoom.
-/
import Derived.Test.YtlcjllgfpfldlaaWalShare
namespace Go.Proofs.Ytlcjllgfpfldlaa.wal
open Go.ChangeShapes Go.WideShapes Go.ChangeAt Go.RowKit Go.Deep
open Go.Proofs.Ytlcjllgfpfldlaa.code (Rc PRec pr rcC rcV RecIn OwnIn sndRec recB dec dec_recB Far far_row I64)
open Go.Proofs.Ytlcjllgfpfldlaa.bytes
open Go.Proofs.Ytlcjllgfpfldlaa.disk
open Go.Proofs.Ytlcjllgfpfldlaa.frame (scanB rowsB wrapB wrapB_len)
set_option linter.unusedVariables false
set_option maxRecDepth 100000
set_option linter.unusedSimpArgs false


set_option maxHeartbeats 16000000 in
theorem room_walk (n c : Nat) (a : Option Addr) (os : List Wop) (room : Int) (w : World) (hO : OpsIn w a os) (hn : os.length = n) (hn2 : n ≤ 9223372036854775807) (hr : 0 ≤ room ∧ room ≤ 65535) :
  Calls Try.prog 3 #[.slice a n c, .int .u16 room] w fun e w' => e = .returned (.bool true) ∧ Below w.heap.size w w' := by
 obtain ⟨i0, hi, hz0, hz1, hz2⟩ := info_parts info_rec
 have H : Aside (OpsIn w a os ∧ os.length = n) := ⟨hO, hn⟩
 have hC1 := heavy_any n c a os w hO hn hn2
 clear hO hn
 obtain ⟨m, hm, hm2⟩ : ∃ m : Nat, room.tmod 2000 = (m : Int) ∧ m < 2000 := by
  rw [Int.tmod_eq_emod_of_nonneg hr.1]
  exact ⟨(room % 2000).toNat, by omega, by omega⟩
 have hm3 : IntKind.i64.wrap (m : Int) = (m : Int) := by rw [IntKind.wrap_i64]; omega
 go_enter Try.func3, Try.ntmps3
 go_wp2_with (go_at_call 6; refine hC1.mono ?_; rintro e w1 ⟨t, rfl, ht, g1⟩; refine Hid.out ?_)
 refine hid ?_
 clear hC1
 have hK := known_any w1
 have G1 : Aside (Below w.heap.size w w1) := g1
 clear g1
 cases t with
 | true =>
  go_wp2_with (go_at_call 7; refine hK.mono ?_; rintro e w2 ⟨rfl, g2⟩)
  go_ret
  exact ⟨rfl, G1.out.trans (g2.mono G1.out.size)⟩
 | false =>
 have hn40 : n ≤ 40 := ht rfl
 clear ht
 go_wp2_with (go_at_call 7; refine hK.mono ?_; rintro e w2 ⟨rfl, g2⟩; refine Hid.out ?_)
 refine hid ?_
 have G2 : Aside (Below w.heap.size w w2) := G1.out.trans (g2.mono G1.out.size)
 have hC2 := new_one (B := w.heap.size) (w := w2) m (by omega) G2.out.size
 clear hK g2 G1
 obtain ⟨K, hKK⟩ : ∃ K, w2.heap.size = K := ⟨_, rfl⟩
 rw [hKK] at hC2
 have HKK : Aside (w.heap.size ≤ K) := by have := G2.out.size; show _ ≤ _; omega
 clear hKK
 go_wp2_with (go_at_call 8; refine hC2.mono ?_; rintro e w3 ⟨rfl, hp3, g3⟩; refine Hid.out ?_)
 refine hid ?_
 have hC3 := open_yes (dsk_one _ _) w3 (new m) hp3 _ (open_new m)
 have G3 : Aside (Below w.heap.size w w3) := G2.out.trans (g3.mono HKK.out)
 clear hC2 hp3 g3 hm hm2 hm3
 go_wp2_with (go_at_call 9; refine hC3.mono ?_; rintro e w4 ⟨h, va, vc, rs0, rfl, hx, -, -, hp4, s4⟩; refine Hid.out ?_)
 refine hid ?_
 have S0 : Aside (One w.heap.size K w4 ⟨[], 0, m, -1⟩ ∧ bytes.Boxed w4 h #[.pointer (some ⟨K, 0, none⟩)] 60 ∧ Below w.heap.size w w4) := ⟨hp4, hx, G3.out.trans s4.below⟩
 generalize rs0.length = z0
 clear hC3 hx hp4 s4 G2 G3
 go_wp2_with fail
 go_loopg [9, 10] n (fun g1 vl vi wr => ∃ (k j : Nat) (la : Option Addr) (lc : Nat), vi = .int .i64 k ∧ vl = .slice la j lc ∧ k ≤ n ∧ n - k ≤ g1 ∧ j ≤ k ∧ Aside (∃ rs d, RsOwn w.heap.size wr (.slice la j lc) rs ∧ One w.heap.size K wr d ∧ LogIs recB (rs.map pr) d ∧ d.left = -1 ∧ (∀ x ∈ rs.map pr, encN x = 0) ∧ bytes.Boxed wr h #[.pointer (some ⟨K, 0, none⟩)] 60 ∧ Below w.heap.size w wr))
 case atStart => exact ⟨0, 0, none, 0, rfl, rfl, Nat.zero_le _, Nat.le_refl _, Nat.le_refl _, [], _, RsOwn.nil _ _, S0.out.1, log_new m, rfl, by simp, S0.out.2.1, S0.out.2.2⟩
 case round =>
  clear S0
  obtain ⟨k, j, la, lc, rfl, rfl, hk, hg1, hj, SK⟩ := hrel
  obtain ⟨rs, d, hrs, hp, hlog, hleft, henc, hx, hb⟩ := SK.out
  clear SK
  by_cases hlt : k < n
  ·have hltz : (k : Int) < (n : Int) := by omega
   have HS : Aside (RsOwn w.heap.size wr (.slice la j lc) rs ∧ One w.heap.size K wr d ∧ LogIs recB (rs.map pr) d ∧ d.left = -1 ∧ (∀ x ∈ rs.map pr, encN x = 0) ∧ bytes.Boxed wr h #[.pointer (some ⟨K, 0, none⟩)] 60 ∧ Below w.heap.size w wr) := ⟨hrs, hp, hlog, hleft, henc, hx, hb⟩
   have hC4 := read_str (dsk_one _ _) wr d hp d.b rfl
   clear hrs hp hlog hleft henc hx hb
   go_wp2_with (go_at_call 10; refine hC4.mono ?_; rintro e w5 ⟨v5, rfl, -, hs5, g5⟩; refine Hid.out ?_)
   refine hid ?_
   have H5 : Aside (RsOwn w.heap.size w5 (.slice la j lc) rs ∧ One w.heap.size K w5 d ∧ bytes.Boxed w5 h #[.pointer (some ⟨K, 0, none⟩)] 60 ∧ Below w.heap.size w w5) := ⟨HS.out.1.keep g5, (dsk_one _ _).keep _ _ _ HS.out.2.1 g5, HS.out.2.2.2.2.2.1.below g5, HS.out.2.2.2.2.2.2.trans (g5.mono HS.out.2.2.2.2.2.2.size)⟩
   obtain ⟨b, off, ha, hcs, ho⟩ := wp_at (H.out.1.keep H5.out.2.2.2) (k := k) (by rw [H.out.2]; exact hlt)
   subst ha
   obtain ⟨r0, r1, r2, r3, r4, r5, r6, r7, r8, r9, r10, r11, r12⟩ := wps_at hcs

   have hC5 := sound_any w5 _ ho
   clear hC4 g5 hcs ho
   obtain ⟨o, ho5⟩ : ∃ o, wopn os k = o := ⟨_, rfl⟩
   have HO : Aside (wopn os k = o) := ho5
   rw [ho5] at hC5 r0 r1 r2 r3 r4 r5 r6 r7 r8 r9 r10 r11 r12
   clear ho5
   go_wp2_with (go_at_call 12; refine hC5.mono ?_; rintro e w6 ⟨r, rfl, hO6, hs6, hp6, g6⟩; refine Hid.out ?_)
   refine hid ?_
   have H6 : Aside (RsOwn w.heap.size w6 (.slice la j lc) rs ∧ One w.heap.size K w6 d ∧ bytes.Boxed w6 h #[.pointer (some ⟨K, 0, none⟩)] 60 ∧ Below w.heap.size w w6 ∧ pr r = sxP o) := ⟨H5.out.1.keep g6, (dsk_one _ _).keep _ _ _ H5.out.2.1 g6, H5.out.2.2.1.below g6, H5.out.2.2.2.trans (g6.mono H5.out.2.2.2.size), hp6⟩
   have hC6 := force_any (dsk_one _ _) w6 d h r H6.out.2.1 H6.out.2.2.1 hO6.recIn
   clear hC5 hO6 hs6 hp6 g6 H5 r0 r1 r2 r3 r4 r5 r6 r7 r8 r9 r10 r11 r12
   rcases force_free HS.out.2.2.1 HS.out.2.2.2.1 (pr r) with ⟨h0, he, hl7, hf7⟩ | ⟨h0, hl7, hf7⟩
   ·rw [h0] at hC6
    have HM7 : Aside (LogIs recB (rs.map pr ++ [pr r]) (forceR (pr r) d).1 ∧ (forceR (pr r) d).1.left = -1 ∧ encN (pr r) = 0) := ⟨hl7, hf7, he⟩
    clear h0 he hl7 hf7
    generalize (forceR (pr r) d).1 = d7 at hC6 HM7
    go_wp2_with (go_at_call 11; refine hC6.mono ?_; rintro e w7 ⟨rfl, hp7, s7⟩; refine Hid.out ?_)
    refine hid ?_
    have b7 := H6.out.2.2.2.1.trans s7.below
    have H7 : Aside (RsOwn w.heap.size w7 (.slice la j lc) rs ∧ One w.heap.size K w7 d7 ∧ bytes.Boxed w7 h #[.pointer (some ⟨K, 0, none⟩)] 60 ∧ Below w.heap.size w w7) := ⟨H6.out.1.stay s7, hp7, s7.boxes _ _ _ H6.out.2.2.1 kt_log, b7⟩
    obtain ⟨b, off, ha, hcs, ho⟩ := wp_at (H.out.1.keep b7) (k := k) (by rw [H.out.2]; exact hlt)
    injection ha with ha
    injection ha with ha1 ha2
    subst ha1 ha2
    rw [HO.out] at hcs ho
    obtain ⟨r0, r1, r2, r3, r4, r5, r6, r7, r8, r9, r10, r11, r12⟩ := wps_at hcs

    have hC8 := sound_any w7 _ ho
    clear hC6 hp7 s7 b7 hcs ho
    go_wp2_with (go_at_call 12; refine hC8.mono ?_; rintro e w8 ⟨r', rfl, hO8, hs8, hp8, g8⟩; refine Hid.out ?_)
    refine hid ?_
    have H8 : Aside (RsOwn w.heap.size w8 (.slice la j lc) rs ∧ One w.heap.size K w8 d7 ∧ bytes.Boxed w8 h #[.pointer (some ⟨K, 0, none⟩)] 60 ∧ Below w.heap.size w w8 ∧ OwnIn w8 r') := ⟨H7.out.1.keep g8, (dsk_one _ _).keep _ _ _ H7.out.2.1 g8, H7.out.2.2.1.below g8, H7.out.2.2.2.trans (g8.mono H7.out.2.2.2.size), hO8⟩
    have HP8 : Aside (pr r' = pr r) := hp8.trans H6.out.2.2.2.2.symm
    clear hC8 hO8 hs8 hp8 g8 r0 r1 r2 r3 r4 r5 r6 r7 r8 r9 r10 r11 r12 H7
    have hown : w8.ownsRow w.heap.size 44 10 (.slice la j lc) j (rs.flatMap rcL) := by have := H8.out.1.own; rwa [← H8.out.1.at_.1] at this
    have hbase : w.heap.size ≤ w8.heap.size := H8.out.2.2.2.1.size
    unfold rcV rcC
    go_wp2_with (at_builtin; refine wpList_append_lies _ rfl _ _ 29 rfl w.heap.size 44 i0 _ 10 136 Try.underlying29 hi hz0 hz1 hz2 rfl (by decide) _ j _ rfl (hown.alloc _) ⟨w8.heap.size, 0, none⟩ 1 1 (rcL r') rfl rfl (cells_rec_new w8 r' _) (rcL_cell r') (by omega) (by unfold maxLen; omega) (by omega) (by simp; omega) (w8.heap.size + 1) (by simp) ?_; intro g3 c3' w9 hown9 hgr9 hat9 hlt9; refine Hid.out ?_)
    refine hid ?_
    have hfar : ∀ o e, 44 ≠ e → Far (w8.alloc o) (Value.slice la j lc).ownBlock e := fun o e he => far_row (World.ownsRow.alloc hown o) he
    have ha8 : ∀ o, Below w8.heap.size w8 (w8.alloc o) := fun o => (Below.refl _ _).alloc (Nat.le_refl _) o
    have H9 : Aside (RsOwn w.heap.size w9 (.slice (some ⟨g3, 0, none⟩) (j + 1) c3') (rs ++ [r']) ∧ One w.heap.size K w9 d7 ∧ bytes.Boxed w9 h #[.pointer (some ⟨K, 0, none⟩)] 60 ∧ Below w.heap.size w w9) :=
     ⟨H8.out.1.push H8.out.2.2.2.2 H8.out.1.at_.1.symm hown9 hgr9, ((dsk_one _ _).keep _ _ _ H8.out.2.1 (ha8 _)).grow hgr9 (hfar _ _ (by decide)) (hfar _ _ (by decide)), box_grow (H8.out.2.2.1.below (ha8 _)) hgr9 (hfar _ _ (by decide)), (H8.out.2.2.2.1.alloc hbase _).grown hgr9 (by simp; omega) fun q hq => (World.ownsRow.lt hown _ hq).1⟩
    clear hown hbase hown9 hgr9 hat9 hlt9 hfar ha8

    have S9 : Aside (∃ rs d, RsOwn w.heap.size w9 (.slice (some ⟨g3, 0, none⟩) (j + 1) c3') rs ∧ One w.heap.size K w9 d ∧ LogIs recB (rs.map pr) d ∧ d.left = -1 ∧ (∀ x ∈ rs.map pr, encN x = 0) ∧ bytes.Boxed w9 h #[.pointer (some ⟨K, 0, none⟩)] 60 ∧ Below w.heap.size w w9) := by
     refine ⟨rs ++ [r'], d7, H9.out.1, H9.out.2.1, ?_, HM7.out.2.1, fun x hx => ?_, H9.out.2.2.1, H9.out.2.2.2⟩
     ·rw [List.map_append, List.map_cons, List.map_nil, HP8.out]; exact HM7.out.1
     ·rw [List.map_append, List.map_cons, List.map_nil, HP8.out] at hx
      rcases List.mem_append.1 hx with hx | hx
      ·exact HS.out.2.2.2.2.1 x hx
      ·simp at hx; rw [hx]; exact HM7.out.2.2
    clear H9 H8 H6 HS HP8 HM7
    go_wp2
    go_roundg (n - (k + 1))
    case measure => omega
    case rel => exact ⟨k + 1, j + 1, _, _, by go_num, rfl, by omega, by omega, by omega, S9⟩
   ·obtain ⟨E, hE⟩ : ∃ E : Int, (((forceR (pr r) d).2 : Nat) : Int) = E := ⟨_, rfl⟩
    have hE0 : ¬ E = 0 := by omega
    rw [hE] at hC6
    have HM7 : Aside (LogIs recB (rs.map pr) (forceR (pr r) d).1 ∧ (forceR (pr r) d).1.left = -1 ∧ (forceR (pr r) d).1.b = d.b) := ⟨hl7, hf7, by rw [hl7.bytes, HS.out.2.2.1.bytes]⟩
    clear h0 hl7 hf7 hE
    generalize (forceR (pr r) d).1 = d7 at hC6 HM7
    go_wp2_with (go_at_call 11; refine hC6.mono ?_; rintro e w7 ⟨rfl, hp7, s7⟩; refine Hid.out ?_)
    refine hid ?_
    have b7 := H6.out.2.2.2.1.trans s7.below
    have H7 : Aside (RsOwn w.heap.size w7 (.slice la j lc) rs ∧ One w.heap.size K w7 d7 ∧ bytes.Boxed w7 h #[.pointer (some ⟨K, 0, none⟩)] 60 ∧ Below w.heap.size w w7) := ⟨H6.out.1.stay s7, hp7, s7.boxes _ _ _ H6.out.2.2.1 kt_log, b7⟩
    have hC8 := read_str (dsk_one _ _) w7 d7 hp7 d.b HM7.out.2.2
    clear hC6 hp7 s7 b7
    go_wp2_with (go_at_call 10; refine hC8.mono ?_; rintro e w8 ⟨v8, rfl, -, hs8, g8⟩; refine Hid.out ?_)
    refine hid ?_
    have S9 : Aside (∃ rs d, RsOwn w.heap.size w8 (.slice la j lc) rs ∧ One w.heap.size K w8 d ∧ LogIs recB (rs.map pr) d ∧ d.left = -1 ∧ (∀ x ∈ rs.map pr, encN x = 0) ∧ bytes.Boxed w8 h #[.pointer (some ⟨K, 0, none⟩)] 60 ∧ Below w.heap.size w w8) := ⟨rs, d7, H7.out.1.keep g8, (dsk_one _ _).keep _ _ _ H7.out.2.1 g8, HM7.out.1, HM7.out.2.1, HS.out.2.2.2.2.1, H7.out.2.2.1.below g8, H7.out.2.2.2.trans (g8.mono H7.out.2.2.2.size)⟩
    clear hC8 g8 H7 H6 HS HM7
    go_wp2
    go_roundg (n - (k + 1))
    case measure => omega
    case rel => exact ⟨k + 1, j, _, _, by go_num, rfl, by omega, by omega, by omega, S9⟩
  ·have hltz : ¬ (k : Int) < (n : Int) := by omega
   have hf := (dsk_one _ _).fit _ _ hp
   have hg : Good dec recB (rs.map pr) := good_of hrs.all henc
   have hcw := crash_whole hg hlog 0
   have hC4 := crash_one hp 0
   have HS : Aside (RsOwn w.heap.size wr (.slice la j lc) rs ∧ (∀ x ∈ rs.map pr, sndRec x = true) ∧ Below w.heap.size w wr ∧ recs dec (scanB (crash 0 d).b) = rs.map pr ∧ Fit d) := ⟨hrs, snd_enc henc, hb, hcw.2, hf⟩
   clear hrs hp hlog hleft henc hx hb hf hg hcw
   go_wp2_with (go_at_call 13; refine hC4.mono ?_; rintro e w5 ⟨rfl, hp5, s5⟩; refine Hid.out ?_)
   refine hid ?_
   have hC5 := open_yes (dsk_one _ _) w5 _ hp5 _ (open_crash HS.out.2.2.2.2 0)
   rw [HS.out.2.2.2.1] at hC5
   have H5 : Aside (Stay w.heap.size wr w5) := s5
   clear hC4 hp5 s5
   go_wp2_with (go_at_call 9; refine hC5.mono ?_; rintro e w6 ⟨h6, ga, gc, gs, rfl, -, hgs, hpr6, -, s6⟩; refine Hid.out ?_)
   refine hid ?_
   have s06 := H5.out.trans s6
   have hr6 := HS.out.1.stay s06
   obtain ⟨hj6, hi6⟩ := hr6.at_
   have hC7 := lawSame_any gs.length j gc lc ga la gs rs w6 hgs.at_.2 hi6 rfl hj6.symm (by have := congrArg List.length hpr6; rw [List.length_map, List.length_map] at this; omega) (by omega) (snd_all hpr6 HS.out.2.1) (snd_all rfl HS.out.2.1)
   have H6 : Aside (gs.map pr = rs.map pr ∧ Below w.heap.size w w6) := ⟨hpr6, HS.out.2.2.1.trans s06.below⟩
   clear hC5 hgs hpr6 s6 s06 hr6 hj6 hi6 H5 HS
   go_wp2_with (go_at_call 14; refine hC7.mono ?_; rintro e w7 ⟨t, rfl, ht, g7⟩; obtain rfl := ht.2 H6.out.1)
   go_ret
   exact ⟨rfl, H6.out.2.trans (g7.mono H6.out.2.size)⟩
end Go.Proofs.Ytlcjllgfpfldlaa.wal
