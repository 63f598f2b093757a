/-
 The walk of WalDoes.
-/
import Derived.Test.YtlcjllgfpfldlaaGreatWalZ48K
import Derived.Deep.CutBlock
set_option maxHeartbeats 16000000
open Go.ChangeShapes Go.WideShapes Go.ChangeAt Go.RowKit Go.Deep
set_option linter.unusedVariables false
set_option maxRecDepth 100000
set_option linter.unusedSimpArgs false
namespace Go.Proofs.YtlcjllgfpfldlaaGreat
namespace wal
open code (PRec pr rcC rcV dec I64)
open bytes
open disk
open frame (scanB)
structure Bth (B k1 k2 h g : Nat) (W : World) (d r : Dk) : Prop where
 two : Two B W k1 k2 d r
 lg : bytes.Boxed W h #[.pointer (some ⟨k1, 0, none⟩)] 67
 rg : bytes.Boxed W g #[.pointer (some ⟨k2, 0, none⟩)] 79
theorem Bth.keep {B k1 k2 h g : Nat} {W W' : World} {d r : Dk} (t : Bth B k1 k2 h g W d r) (hb : Below W.heap.size W W') : Bth B k1 k2 h g W' d r := ⟨t.two.keep hb, t.lg.below hb, t.rg.below hb⟩
theorem Bth.stay {B k1 k2 h g : Nat} {W W' : World} {d r d' r' : Dk} (t : Bth B k1 k2 h g W d r) (s : Stay B W W') (h2 : Two B W' k1 k2 d' r') : Bth B k1 k2 h g W' d' r' := ⟨h2, s.boxes _ _ _ t.lg kt_log, s.boxes _ _ _ t.rg kt_rlog⟩
theorem lazy_err (x : PRec) (d : Dk) : (lazyR x d).2 ≤ 100 := by
 unfold lazyR app
 rcases encN_three x with h | h | h <;> rw [h] <;> simp
 split
 ·simp
 ·split <;> simp
theorem force_err (x : PRec) (d : Dk) : (forceR x d).2 ≤ 100 := by
 unfold forceR
 split
 ·exact lazy_err x d
 ·unfold sync
  split
  ·split <;> simp
  ·split <;> simp
theorem conv_err {E : Int} (h : 0 ≤ E ∧ E ≤ 100) : IntKind.i64.wrap E = E := by rw [IntKind.wrap_i64]; omega

theorem does_walk (n c : Nat) (a : Option Addr) (os : List Wop) (room : Int) (w : World) (hO : OpsIn w a os) (hn : os.length = n) (hn2 : n ≤ 9223372036854775807) (hr : 0 ≤ room ∧ room ≤ 65535) :
  Calls Tryz.prog 3 #[.int .u16 room, .slice a n c] w fun e w' => e = .returned (.bool true) ∧ Below w.heap.size w w' := by
 have H : Aside (OpsIn w a os ∧ os.length = n) := ⟨hO, hn⟩
 have hC1 := heavy_any n c a os w hO hn hn2
 clear hO hn
 obtain ⟨m, rfl⟩ : ∃ m : Nat, room = (m : Int) := ⟨room.toNat, by omega⟩
 have hm2 : m ≤ 65535 := by omega
 have hm3 : IntKind.i64.wrap (m : Int) = (m : Int) := by rw [IntKind.wrap_i64]; omega
 clear hr
 go_enter Tryz.func3, Tryz.ntmps3
 go_wp2_with (go_at_call 5; refine hC1.mono ?_; rintro e w1 ⟨t, rfl, ht, g1⟩; refine Hid.out ?_)
 refine hid ?_
 clear hC1
 have hK := known_any w1
 have G1 : Aside (Below w.heap.size w w1) := g1
 clear g1
 cases t with
 | true =>
  go_wp2_with (go_at_call 6; refine hK.mono ?_; rintro e w2 ⟨rfl, g2⟩)
  go_ret
  exact ⟨rfl, G1.out.trans (g2.mono G1.out.size)⟩
 | false =>
 clear ht
 go_wp2_with (go_at_call 6; refine hK.mono ?_; rintro e w2 ⟨rfl, g2⟩; refine Hid.out ?_)
 refine hid ?_
 have G2 : Aside (Below w.heap.size w w2) := G1.out.trans (g2.mono G1.out.size)
 have hC1 := new_any w.heap.size m w2 (by omega) G2.out.size
 obtain ⟨k1, hk1⟩ : ∃ k, w2.heap.size = k := ⟨_, rfl⟩
 rw [hk1] at hC1
 have HK1 : Aside (w.heap.size ≤ k1) := by have := G2.out.size; show _ ≤ _; omega
 clear hK g2 hk1 G1
 go_wp2_with (go_at_call 7; refine hC1.mono ?_; rintro e w3 ⟨rfl, hd3, g3⟩; refine Hid.out ?_)
 refine hid ?_
 have G3 : Aside (Below w.heap.size w w3) := G2.out.trans (g3.mono HK1.out)
 have hC2 := two_new hd3 (by omega)
 obtain ⟨k2, hk2⟩ : ∃ k, w3.heap.size = k := ⟨_, rfl⟩
 rw [hk2] at hC2
 have HK2 : Aside (w.heap.size ≤ k2) := by have := G3.out.size; show _ ≤ _; omega
 clear hC1 hd3 g3 hk2 G2
 go_wp2_with (go_at_call 8; refine hC2.mono ?_; rintro e w4 ⟨rfl, hT4, g4⟩; refine Hid.out ?_)
 refine hid ?_
 have G4 : Aside (Below w.heap.size w w4) := G3.out.trans (g4.mono HK2.out)
 have hC3 := open_yes (dsk_two w.heap.size k1 k2 (new m)) w4 _ hT4 _ (open_new m)
 clear hC2 hT4 g4 G3 hm2 hm3
 go_wp2_with (go_at_call 9; refine hC3.mono ?_; rintro e w5 ⟨h0, va, vc, rs0, rfl, hx5, -, -, hT5, s5⟩; refine Hid.out ?_)
 refine hid ?_
 have G5 : Aside (Below w.heap.size w w5 ∧ bytes.Boxed w5 h0 #[.pointer (some ⟨k1, 0, none⟩)] 67) := ⟨G4.out.trans s5.below, hx5⟩
 have hC4 := refOpen_yes (rdsk_two w.heap.size k1 k2 ⟨[], 0, m, -1⟩) w5 _ hT5 _ (open_new m)
 generalize rs0.length = z0
 clear hC3 hx5 hT5 s5 G4
 go_wp2_with (go_at_call 10; refine hC4.mono ?_; rintro e w6 ⟨g0, ua, uc, ss0, rfl, hx6, -, -, hT6, s6⟩; refine Hid.out ?_)
 refine hid ?_
 have S0 : Aside (Bth w.heap.size k1 k2 h0 g0 w6 ⟨[], 0, m, -1⟩ ⟨[], 0, m, -1⟩ ∧ Below w.heap.size w w6) := ⟨⟨hT6, s6.boxes _ _ _ G5.out.2 kt_log, hx6⟩, G5.out.1.trans s6.below⟩
 generalize ss0.length = z1
 clear hC4 hx6 hT6 s6 G5
 go_wp2_with fail
 go_loopg [7, 9, 10, 13] n (fun g1 v7 v9 v10 vi wr => ∃ (k h g : Nat), v7 = .pointer (some ⟨h, 0, none⟩) ∧ v9 = .int .u16 0 ∧ v10 = .pointer (some ⟨g, 0, none⟩) ∧ vi = .int .i64 k ∧ k ≤ n ∧ n - k ≤ g1 ∧ Aside (∃ d, Bth w.heap.size k1 k2 h g wr d d ∧ Below w.heap.size w wr))
 case atStart => exact ⟨0, h0, g0, rfl, rfl, rfl, rfl, Nat.zero_le _, nrQ _, _, S0.out.1, S0.out.2⟩
 case round =>
  clear S0
  obtain ⟨k, h, g, rfl, rfl, rfl, rfl, hk, hg1, SK⟩ := hrel
  by_cases hlt : k < n
  rotate_left
  ·have hltz : ¬ (k : Int) < (n : Int) := by omega
   obtain ⟨d, -, hb⟩ := SK.out
   have HB : Aside (Below w.heap.size w wr) := hb
   clear SK hb
   go_wp2
   go_ret
   exact ⟨rfl, HB.out⟩
  have hltz : (k : Int) < (n : Int) := by omega
  obtain ⟨d, ht, hb⟩ := SK.out
  have HT : Aside (Bth w.heap.size k1 k2 h g wr d d ∧ Below w.heap.size w wr) := ⟨ht, hb⟩
  obtain ⟨b, off, ha, hcs, ho⟩ := wp_at (H.out.1.keep hb) (k := k) (by rw [H.out.2]; exact hlt)
  subst ha
  obtain ⟨o, ho5⟩ : ∃ o, wopn os k = o := ⟨_, rfl⟩
  rw [ho5] at hcs ho
  have HO : Aside (∀ W, Below w.heap.size w W → (W.cell? ⟨b, off + k * 13, none⟩ = some (.int .u8 o.q) ∧ W.cell? ⟨b, off + k * 13 + 1, none⟩ = some (.int .u8 o.r.kind) ∧ W.cell? ⟨b, off + k * 13 + 2, none⟩ = some (.int .u32 o.r.id) ∧ W.cell? ⟨b, off + k * 13 + 3, none⟩ = some (.int .u32 o.r.at_) ∧ W.cell? ⟨b, off + k * 13 + 4, none⟩ = some (.slice o.r.na o.r.nodes.length o.r.nc) ∧ W.cell? ⟨b, off + k * 13 + 5, none⟩ = some (.slice o.r.fa o.r.facts.length o.r.fc) ∧ W.cell? ⟨b, off + k * 13 + 6, none⟩ = some (.int .u32 o.r.epoch) ∧ W.cell? ⟨b, off + k * 13 + 7, none⟩ = some (.slice o.r.sa o.r.spans.length o.r.sc) ∧ W.cell? ⟨b, off + k * 13 + 8, none⟩ = some (.int .i64 o.r.frm) ∧ W.cell? ⟨b, off + k * 13 + 9, none⟩ = some (.int .i64 o.r.til) ∧ W.cell? ⟨b, off + k * 13 + 10, none⟩ = some (.slice o.r.ea o.r.ents.length o.r.ec) ∧ W.cell? ⟨b, off + k * 13 + 11, none⟩ = some (.int .u8 o.wh) ∧ W.cell? ⟨b, off + k * 13 + 12, none⟩ = some (.int .i64 o.n)) ∧ WopOk W o) := fun W hW => by
   obtain ⟨b', off', ha', hcs', ho'⟩ := wp_at (H.out.1.keep hW) (k := k) (by rw [H.out.2]; exact hlt)
   injection ha' with ha'
   injection ha' with e1 e2
   subst e1 e2
   rw [ho5] at hcs' ho'
   exact ⟨wps_at hcs', ho'⟩
  obtain ⟨r0, r1, r2, r3, r4, r5, r6, r7, r8, r9, r10, r11, r12⟩ := wps_at hcs
  have hq := ho.kind
  have hnum : I64 o.n := ho.num
  unfold I64 at hnum
  obtain ⟨z, hz, hz8⟩ : ∃ z : Nat, o.q.tmod 8 = (z : Int) ∧ z < 8 := by
   rw [Int.tmod_eq_emod_of_nonneg hq.1]
   exact ⟨(o.q % 8).toNat, by omega, by omega⟩
  clear SK ht hb hcs ho ho5 hq
  go_upto_block 2 with fail
  go_cut [7, 9, 10, 14] from 52 to 195 (fun t7 t9 t10 t14 wx => ∃ (h' g' : Nat), t7 = .pointer (some ⟨h', 0, none⟩) ∧ t9 = .int .u16 0 ∧ t10 = .pointer (some ⟨g', 0, none⟩) ∧ t14 = .bool true ∧ Aside (∃ d', Bth w.heap.size k1 k2 h' g' wx d' d' ∧ Below w.heap.size w wx))
  case first =>
   have hzc : (z = 0 ∨ z = 1 ∨ z = 2) ∨ (z = 3 ∨ z = 4) ∨ z = 5 ∨ z = 6 ∨ z = 7 := by omega
   clear hz8
   rcases hzc with hzc | hzc | rfl | rfl | rfl
   ·rcases hzc with rfl | rfl | rfl
    all_goals
     as_aux_lemma =>
      obtain ⟨E, hE⟩ : ∃ E : Int, (((forceR (sxP o) d).2 : Nat) : Int) = E := ⟨_, rfl⟩
      have hE2 : 0 ≤ E ∧ E ≤ 100 := by have := force_err (sxP o) d; omega
      have hEw := conv_err hE2
      obtain ⟨d7, hd7⟩ : ∃ d7, (forceR (sxP o) d).1 = d7 := ⟨_, rfl⟩
      have HE : Aside ((((forceR (sxP o) d).2 : Nat) : Int) = E ∧ (forceR (sxP o) d).1 = d7) := ⟨hE, hd7⟩
      have HB0 : Aside (Bth w.heap.size k1 k2 h g wr.drew d d ∧ Below w.heap.size w wr.drew) := ⟨HT.out.1.keep (Below.refl _ _).drew, HT.out.2.trans ((Below.refl _ _).drew.mono HT.out.2.size)⟩
      have q0 := (HO.out _ HB0.out.2).1
      clear hE hd7 hE2
      go_upto_region 16 with fail
      refine wp_region_held_drew (S := fun W => W.cell? ⟨b, off + k * 13, none⟩ = some (.int .u8 o.q) ∧ W.cell? ⟨b, off + k * 13 + 1, none⟩ = some (.int .u8 o.r.kind) ∧ W.cell? ⟨b, off + k * 13 + 2, none⟩ = some (.int .u32 o.r.id) ∧ W.cell? ⟨b, off + k * 13 + 3, none⟩ = some (.int .u32 o.r.at_) ∧ W.cell? ⟨b, off + k * 13 + 4, none⟩ = some (.slice o.r.na o.r.nodes.length o.r.nc) ∧ W.cell? ⟨b, off + k * 13 + 5, none⟩ = some (.slice o.r.fa o.r.facts.length o.r.fc) ∧ W.cell? ⟨b, off + k * 13 + 6, none⟩ = some (.int .u32 o.r.epoch) ∧ W.cell? ⟨b, off + k * 13 + 7, none⟩ = some (.slice o.r.sa o.r.spans.length o.r.sc) ∧ W.cell? ⟨b, off + k * 13 + 8, none⟩ = some (.int .i64 o.r.frm) ∧ W.cell? ⟨b, off + k * 13 + 9, none⟩ = some (.int .i64 o.r.til) ∧ W.cell? ⟨b, off + k * 13 + 10, none⟩ = some (.slice o.r.ea o.r.ents.length o.r.ec) ∧ W.cell? ⟨b, off + k * 13 + 11, none⟩ = some (.int .u8 o.wh) ∧ W.cell? ⟨b, off + k * 13 + 12, none⟩ = some (.int .i64 o.n)) (by kernel_rfl) ?_ (fun hHeld => ?_)
      ·(try dsimp only); exact q0
      change wpAnyH _ _ _ _ _ 17 #[false, false, false, false, false, false, false, false, false, false, false, false, false, false, false, false, false] _ _
      refine wpAnyH_take (i := 0) (oi := { dst := some 70, op := Op.move (.tmp 7), type := 30, pos := "law.go:101", after := #[], guard := none }) (v := ?_) rfl (by kernel_rfl) (by kernel_rfl) (by kernel_rfl) (fun _ _ _ h => h) (Or.inl ⟨by kernel_rfl, ?_⟩) (by assumption) ?_
      rotate_left
      focus
       intro w hSw
       (try dsimp only at hSw)
       go_simp
       all_goals (try with_reducible rfl)
      simp only [Act.put, saQ, szQ, ssQ]
      refine wpAnyH_take (i := 1) (oi := { dst := some 71, op := Op.move (.tmp 1), type := 23, pos := "law.go:101", after := #[], guard := none }) (v := ?_) rfl (by kernel_rfl) (by kernel_rfl) (by kernel_rfl) (fun _ _ _ h => h) (Or.inl ⟨by kernel_rfl, ?_⟩) (by assumption) ?_
      rotate_left
      focus
       intro w hSw
       (try dsimp only at hSw)
       go_simp
       all_goals (try with_reducible rfl)
      simp only [Act.put, saQ, szQ, ssQ]
      refine wpAnyH_take (i := 2) (oi := { dst := some 72, op := Op.move (.tmp 13), type := 3, pos := "law.go:101", after := #[], guard := none }) (v := ?_) rfl (by kernel_rfl) (by kernel_rfl) (by kernel_rfl) (fun _ _ _ h => h) (Or.inl ⟨by kernel_rfl, ?_⟩) (by assumption) ?_
      rotate_left
      focus
       intro w hSw
       (try dsimp only at hSw)
       go_simp
       all_goals (try with_reducible rfl)
      simp only [Act.put, saQ, szQ, ssQ]
      refine wpAnyH_take (i := 3) (oi := { dst := some 73, op := Op.indexAddr 23 (.tmp 71) (.tmp 72), type := 0, pos := "law.go:101", after := #[{ on := 1, ground := .data }, { on := 2, ground := .data }], guard := none }) (v := ?_) rfl (by kernel_rfl) (by kernel_rfl) (by kernel_rfl) (fun _ _ _ h => h) (Or.inl ⟨by kernel_rfl, ?_⟩) (by assumption) ?_
      rotate_left
      focus
       intro w hSw
       (try dsimp only at hSw)
       go_simp
       all_goals (try with_reducible rfl)
      simp only [Act.put, saQ, szQ, ssQ]
      refine wpAnyH_take (i := 4) (oi := { dst := some 74, op := Op.load 48 (.tmp 73), type := 48, pos := "law.go:101", after := #[{ on := 3, ground := .data }], guard := none }) (v := ?_) rfl (by kernel_rfl) (by kernel_rfl) (by kernel_rfl) (fun _ _ _ h => h) (Or.inl ⟨by kernel_rfl, ?_⟩) (by assumption) ?_
      rotate_left
      focus
       intro w hSw
       (try dsimp only at hSw)
       go_simp
       all_goals (try with_reducible rfl)
      simp only [Act.put, saQ, szQ, ssQ]
      refine wpAnyH_take (i := 8) (oi := { dst := some 78, op := Op.move (.tmp 10), type := 35, pos := "law.go:101", after := #[], guard := none }) (v := ?_) rfl (by kernel_rfl) (by kernel_rfl) (by kernel_rfl) (fun _ _ _ h => h) (Or.inl ⟨by kernel_rfl, ?_⟩) (by assumption) ?_
      rotate_left
      focus
       intro w hSw
       (try dsimp only at hSw)
       go_simp
       all_goals (try with_reducible rfl)
      simp only [Act.put, saQ, szQ, ssQ]
      refine wpAnyH_take (i := 9) (oi := { dst := some 79, op := Op.move (.tmp 1), type := 23, pos := "law.go:101", after := #[], guard := none }) (v := ?_) rfl (by kernel_rfl) (by kernel_rfl) (by kernel_rfl) (fun _ _ _ h => h) (Or.inl ⟨by kernel_rfl, ?_⟩) (by assumption) ?_
      rotate_left
      focus
       intro w hSw
       (try dsimp only at hSw)
       go_simp
       all_goals (try with_reducible rfl)
      simp only [Act.put, saQ, szQ, ssQ]
      refine wpAnyH_take (i := 10) (oi := { dst := some 80, op := Op.move (.tmp 13), type := 3, pos := "law.go:101", after := #[], guard := none }) (v := ?_) rfl (by kernel_rfl) (by kernel_rfl) (by kernel_rfl) (fun _ _ _ h => h) (Or.inl ⟨by kernel_rfl, ?_⟩) (by assumption) ?_
      rotate_left
      focus
       intro w hSw
       (try dsimp only at hSw)
       go_simp
       all_goals (try with_reducible rfl)
      simp only [Act.put, saQ, szQ, ssQ]
      refine wpAnyH_take (i := 11) (oi := { dst := some 81, op := Op.indexAddr 23 (.tmp 79) (.tmp 80), type := 0, pos := "law.go:101", after := #[{ on := 9, ground := .data }, { on := 10, ground := .data }], guard := none }) (v := ?_) rfl (by kernel_rfl) (by kernel_rfl) (by kernel_rfl) (fun _ _ _ h => h) (Or.inl ⟨by kernel_rfl, ?_⟩) (by assumption) ?_
      rotate_left
      focus
       intro w hSw
       (try dsimp only at hSw)
       go_simp
       all_goals (try with_reducible rfl)
      simp only [Act.put, saQ, szQ, ssQ]
      refine wpAnyH_take (i := 12) (oi := { dst := some 82, op := Op.load 48 (.tmp 81), type := 48, pos := "law.go:101", after := #[{ on := 11, ground := .data }], guard := none }) (v := ?_) rfl (by kernel_rfl) (by kernel_rfl) (by kernel_rfl) (fun _ _ _ h => h) (Or.inl ⟨by kernel_rfl, ?_⟩) (by assumption) ?_
      rotate_left
      focus
       intro w hSw
       (try dsimp only at hSw)
       go_simp
       all_goals (try with_reducible rfl)
      simp only [Act.put, saQ, szQ, ssQ]
      refine wpAnyH_ready (rs := [5]) (by kernel_rfl) (by simp) ?_
      refine AllReadyH.cons (o := { dst := some 75, op := Op.call { callee := Callee.value (Operand.func 12), args := #[Operand.tmp 74], argTypes := #[48] }, type := 46, pos := "law.go:101", after := #[{ on := 4, ground := .data }], guard := none }) rfl (fun K hK => ?_) AllReadyH.nil
      go_simp
      refine (sound_any _ o (HO.out _ HB0.out.2).2).mono ?_
      (rintro e w6 ⟨r, rfl, hO6, hs6, hp6, g6⟩)
      have H6 : Aside (Bth w.heap.size k1 k2 h g w6 d d ∧ Below w.heap.size w w6) := ⟨HB0.out.1.keep g6, HB0.out.2.trans (g6.mono HB0.out.2.size)⟩
      have hC6 := force_any (dsk_two w.heap.size k1 k2 d) w6 d h r H6.out.1.two H6.out.1.lg hO6.recIn
      rw [hp6, HE.out.1, HE.out.2] at hC6
      clear hO6 hs6 hp6 g6
      go_wp2_with fail
      refine hK.out _ _ ?_ (fun hHeld2 => ?_)
      ·(try dsimp only); exact (HO.out _ H6.out.2).1
      clear hK K hHeld
      have hHeld := hHeld2
      clear hHeld2
      simp only [saQ, szQ, ssQ]
      refine wpAnyH_ready (rs := [6]) (by kernel_rfl) (by simp) ?_
      refine AllReadyH.cons (o := { dst := some 76, op := Op.call { callee := Callee.value (Operand.func 14), args := #[Operand.tmp 70, Operand.tmp 75], argTypes := #[30, 46] }, type := 32, pos := "law.go:101", after := #[{ on := 0, ground := .data }, { on := 5, ground := .data }, { on := 5, ground := .chain }], guard := none }) rfl (fun K hK => ?_) AllReadyH.nil
      go_simp
      refine hC6.mono ?_
      (rintro e w7 ⟨rfl, hT7, s7⟩)
      have H7 : Aside (Bth w.heap.size k1 k2 h g w7 d7 d ∧ Below w.heap.size w w7) := ⟨H6.out.1.stay s7 hT7, H6.out.2.trans s7.below⟩
      clear hC6 hT7 s7
      go_wp2_with fail
      refine hK.out _ _ ?_ (fun hHeld2 => ?_)
      ·(try dsimp only); exact (HO.out _ H7.out.2).1
      clear hK K hHeld
      have hHeld := hHeld2
      clear hHeld2
      simp only [saQ, szQ, ssQ]
      refine wpAnyH_take (i := 7) (oi := { dst := some 77, op := Op.convert 32 3 (.tmp 76), type := 3, pos := "law.go:101", after := #[{ on := 6, ground := .data }], guard := none }) (v := ?_) rfl (by kernel_rfl) (by kernel_rfl) (by kernel_rfl) (fun _ _ _ h => h) (Or.inl ⟨by kernel_rfl, ?_⟩) (by assumption) ?_
      rotate_left
      focus
       intro w hSw
       (try dsimp only at hSw)
       go_simp
       all_goals (try with_reducible rfl)
      simp only [Act.put, saQ, szQ, ssQ]
      refine wpAnyH_ready (rs := [13]) (by kernel_rfl) (by simp) ?_
      refine AllReadyH.cons (o := { dst := some 83, op := Op.call { callee := Callee.value (Operand.func 12), args := #[Operand.tmp 82], argTypes := #[48] }, type := 46, pos := "law.go:101", after := #[{ on := 12, ground := .data }, { on := 6, ground := .chain }], guard := none }) rfl (fun K hK => ?_) AllReadyH.nil
      go_simp
      refine (sound_any _ o (HO.out _ H7.out.2).2).mono ?_
      (rintro e w8 ⟨r', rfl, hO8, hs8, hp8, g8⟩)
      have H8 : Aside (Bth w.heap.size k1 k2 h g w8 d7 d ∧ Below w.heap.size w w8) := ⟨H7.out.1.keep g8, H7.out.2.trans (g8.mono H7.out.2.size)⟩
      have hC8 := refForce_any (rdsk_two w.heap.size k1 k2 d7) w8 d g r' H8.out.1.two H8.out.1.rg hO8.recIn
      rw [hp8, HE.out.1, HE.out.2] at hC8
      clear hO8 hs8 hp8 g8
      go_wp2_with fail
      refine hK.out _ _ ?_ (fun hHeld2 => ?_)
      ·(try dsimp only); exact (HO.out _ H8.out.2).1
      clear hK K hHeld
      have hHeld := hHeld2
      clear hHeld2
      simp only [saQ, szQ, ssQ]
      refine wpAnyH_ready (rs := [14]) (by kernel_rfl) (by simp) ?_
      refine AllReadyH.cons (o := { dst := some 84, op := Op.call { callee := Callee.value (Operand.func 15), args := #[Operand.tmp 78, Operand.tmp 83], argTypes := #[35, 46] }, type := 3, pos := "law.go:101", after := #[{ on := 8, ground := .data }, { on := 13, ground := .data }, { on := 13, ground := .chain }], guard := none }) rfl (fun K hK => ?_) AllReadyH.nil
      go_simp
      refine hC8.mono ?_
      (rintro e w9 ⟨rfl, hT9, s9⟩)
      have H9 : Aside (Bth w.heap.size k1 k2 h g w9 d7 d7 ∧ Below w.heap.size w w9) := ⟨H8.out.1.stay s9 hT9, H8.out.2.trans s9.below⟩
      clear hC8 hT9 s9
      go_wp2_with fail
      refine hK.out _ _ ?_ (fun hHeld2 => ?_)
      ·(try dsimp only); exact (HO.out _ H9.out.2).1
      clear hK K hHeld
      have hHeld := hHeld2
      clear hHeld2
      simp only [saQ, szQ, ssQ]
      refine wpAnyH_take (i := 15) (oi := { dst := some 85, op := Op.binOp BinOp.eql 3 (.tmp 77) (.tmp 84) 3, type := 4, pos := "law.go:101", after := #[{ on := 7, ground := .data }, { on := 14, ground := .data }], guard := none }) (v := ?_) rfl (by kernel_rfl) (by kernel_rfl) (by kernel_rfl) (fun _ _ _ h => h) (Or.inl ⟨by kernel_rfl, ?_⟩) (by assumption) ?_
      rotate_left
      focus
       intro w hSw
       (try dsimp only at hSw)
       go_simp
       all_goals (try with_reducible rfl)
      simp only [Act.put, saQ, szQ, ssQ]
      refine wpAnyH_take (i := 16) (oi := { dst := some 14, op := Op.assign (.tmp 85), type := 4, pos := "law.go:101", after := #[{ on := 15, ground := .data }, { on := 14, ground := .chain }, { on := 0, ground := .phase }, { on := 1, ground := .phase }, { on := 2, ground := .phase }, { on := 3, ground := .phase }, { on := 4, ground := .phase }, { on := 5, ground := .phase }, { on := 6, ground := .phase }, { on := 7, ground := .phase }, { on := 8, ground := .phase }, { on := 9, ground := .phase }, { on := 10, ground := .phase }, { on := 11, ground := .phase }, { on := 12, ground := .phase }, { on := 13, ground := .phase }, { on := 14, ground := .phase }, { on := 15, ground := .phase }], guard := none }) (v := ?_) rfl (by kernel_rfl) (by kernel_rfl) (by kernel_rfl) (fun _ _ _ h => h) (Or.inl ⟨by kernel_rfl, ?_⟩) (by assumption) ?_
      rotate_left
      focus
       intro w hSw
       (try dsimp only at hSw)
       go_simp
       all_goals (try with_reducible rfl)
      simp only [Act.put, saQ, szQ, ssQ]
      refine wpAnyH_done (by kernel_rfl) ?_ _
      go_wp2
      go_meet
      case rel => exact ⟨_, _, rfl, rfl, rfl, by simp, d7, H9.out.1, H9.out.2⟩
   ·rcases hzc with rfl | rfl
    all_goals
     as_aux_lemma =>
      obtain ⟨E, hE⟩ : ∃ E : Int, (((lazyR (sxP o) d).2 : Nat) : Int) = E := ⟨_, rfl⟩
      have hE2 : 0 ≤ E ∧ E ≤ 100 := by have := lazy_err (sxP o) d; omega
      have hEw := conv_err hE2
      obtain ⟨d7, hd7⟩ : ∃ d7, (lazyR (sxP o) d).1 = d7 := ⟨_, rfl⟩
      have HE : Aside ((((lazyR (sxP o) d).2 : Nat) : Int) = E ∧ (lazyR (sxP o) d).1 = d7) := ⟨hE, hd7⟩
      have HB0 : Aside (Bth w.heap.size k1 k2 h g wr.drew d d ∧ Below w.heap.size w wr.drew) := ⟨HT.out.1.keep (Below.refl _ _).drew, HT.out.2.trans ((Below.refl _ _).drew.mono HT.out.2.size)⟩
      have q0 := (HO.out _ HB0.out.2).1
      clear hE hd7 hE2
      go_upto_region 19 with fail
      refine wp_region_held_drew (S := fun W => W.cell? ⟨b, off + k * 13, none⟩ = some (.int .u8 o.q) ∧ W.cell? ⟨b, off + k * 13 + 1, none⟩ = some (.int .u8 o.r.kind) ∧ W.cell? ⟨b, off + k * 13 + 2, none⟩ = some (.int .u32 o.r.id) ∧ W.cell? ⟨b, off + k * 13 + 3, none⟩ = some (.int .u32 o.r.at_) ∧ W.cell? ⟨b, off + k * 13 + 4, none⟩ = some (.slice o.r.na o.r.nodes.length o.r.nc) ∧ W.cell? ⟨b, off + k * 13 + 5, none⟩ = some (.slice o.r.fa o.r.facts.length o.r.fc) ∧ W.cell? ⟨b, off + k * 13 + 6, none⟩ = some (.int .u32 o.r.epoch) ∧ W.cell? ⟨b, off + k * 13 + 7, none⟩ = some (.slice o.r.sa o.r.spans.length o.r.sc) ∧ W.cell? ⟨b, off + k * 13 + 8, none⟩ = some (.int .i64 o.r.frm) ∧ W.cell? ⟨b, off + k * 13 + 9, none⟩ = some (.int .i64 o.r.til) ∧ W.cell? ⟨b, off + k * 13 + 10, none⟩ = some (.slice o.r.ea o.r.ents.length o.r.ec) ∧ W.cell? ⟨b, off + k * 13 + 11, none⟩ = some (.int .u8 o.wh) ∧ W.cell? ⟨b, off + k * 13 + 12, none⟩ = some (.int .i64 o.n)) (by kernel_rfl) ?_ (fun hHeld => ?_)
      ·(try dsimp only); exact q0
      change wpAnyH _ _ _ _ _ 17 #[false, false, false, false, false, false, false, false, false, false, false, false, false, false, false, false, false] _ _
      refine wpAnyH_take (i := 0) (oi := { dst := some 89, op := Op.move (.tmp 7), type := 30, pos := "law.go:85", after := #[], guard := none }) (v := ?_) rfl (by kernel_rfl) (by kernel_rfl) (by kernel_rfl) (fun _ _ _ h => h) (Or.inl ⟨by kernel_rfl, ?_⟩) (by assumption) ?_
      rotate_left
      focus
       intro w hSw
       (try dsimp only at hSw)
       go_simp
       all_goals (try with_reducible rfl)
      simp only [Act.put, saQ, szQ, ssQ]
      refine wpAnyH_take (i := 1) (oi := { dst := some 90, op := Op.move (.tmp 1), type := 23, pos := "law.go:85", after := #[], guard := none }) (v := ?_) rfl (by kernel_rfl) (by kernel_rfl) (by kernel_rfl) (fun _ _ _ h => h) (Or.inl ⟨by kernel_rfl, ?_⟩) (by assumption) ?_
      rotate_left
      focus
       intro w hSw
       (try dsimp only at hSw)
       go_simp
       all_goals (try with_reducible rfl)
      simp only [Act.put, saQ, szQ, ssQ]
      refine wpAnyH_take (i := 2) (oi := { dst := some 91, op := Op.move (.tmp 13), type := 3, pos := "law.go:85", after := #[], guard := none }) (v := ?_) rfl (by kernel_rfl) (by kernel_rfl) (by kernel_rfl) (fun _ _ _ h => h) (Or.inl ⟨by kernel_rfl, ?_⟩) (by assumption) ?_
      rotate_left
      focus
       intro w hSw
       (try dsimp only at hSw)
       go_simp
       all_goals (try with_reducible rfl)
      simp only [Act.put, saQ, szQ, ssQ]
      refine wpAnyH_take (i := 3) (oi := { dst := some 92, op := Op.indexAddr 23 (.tmp 90) (.tmp 91), type := 0, pos := "law.go:85", after := #[{ on := 1, ground := .data }, { on := 2, ground := .data }], guard := none }) (v := ?_) rfl (by kernel_rfl) (by kernel_rfl) (by kernel_rfl) (fun _ _ _ h => h) (Or.inl ⟨by kernel_rfl, ?_⟩) (by assumption) ?_
      rotate_left
      focus
       intro w hSw
       (try dsimp only at hSw)
       go_simp
       all_goals (try with_reducible rfl)
      simp only [Act.put, saQ, szQ, ssQ]
      refine wpAnyH_take (i := 4) (oi := { dst := some 93, op := Op.load 48 (.tmp 92), type := 48, pos := "law.go:85", after := #[{ on := 3, ground := .data }], guard := none }) (v := ?_) rfl (by kernel_rfl) (by kernel_rfl) (by kernel_rfl) (fun _ _ _ h => h) (Or.inl ⟨by kernel_rfl, ?_⟩) (by assumption) ?_
      rotate_left
      focus
       intro w hSw
       (try dsimp only at hSw)
       go_simp
       all_goals (try with_reducible rfl)
      simp only [Act.put, saQ, szQ, ssQ]
      refine wpAnyH_take (i := 8) (oi := { dst := some 97, op := Op.move (.tmp 10), type := 35, pos := "law.go:85", after := #[], guard := none }) (v := ?_) rfl (by kernel_rfl) (by kernel_rfl) (by kernel_rfl) (fun _ _ _ h => h) (Or.inl ⟨by kernel_rfl, ?_⟩) (by assumption) ?_
      rotate_left
      focus
       intro w hSw
       (try dsimp only at hSw)
       go_simp
       all_goals (try with_reducible rfl)
      simp only [Act.put, saQ, szQ, ssQ]
      refine wpAnyH_take (i := 9) (oi := { dst := some 98, op := Op.move (.tmp 1), type := 23, pos := "law.go:85", after := #[], guard := none }) (v := ?_) rfl (by kernel_rfl) (by kernel_rfl) (by kernel_rfl) (fun _ _ _ h => h) (Or.inl ⟨by kernel_rfl, ?_⟩) (by assumption) ?_
      rotate_left
      focus
       intro w hSw
       (try dsimp only at hSw)
       go_simp
       all_goals (try with_reducible rfl)
      simp only [Act.put, saQ, szQ, ssQ]
      refine wpAnyH_take (i := 10) (oi := { dst := some 99, op := Op.move (.tmp 13), type := 3, pos := "law.go:85", after := #[], guard := none }) (v := ?_) rfl (by kernel_rfl) (by kernel_rfl) (by kernel_rfl) (fun _ _ _ h => h) (Or.inl ⟨by kernel_rfl, ?_⟩) (by assumption) ?_
      rotate_left
      focus
       intro w hSw
       (try dsimp only at hSw)
       go_simp
       all_goals (try with_reducible rfl)
      simp only [Act.put, saQ, szQ, ssQ]
      refine wpAnyH_take (i := 11) (oi := { dst := some 100, op := Op.indexAddr 23 (.tmp 98) (.tmp 99), type := 0, pos := "law.go:85", after := #[{ on := 9, ground := .data }, { on := 10, ground := .data }], guard := none }) (v := ?_) rfl (by kernel_rfl) (by kernel_rfl) (by kernel_rfl) (fun _ _ _ h => h) (Or.inl ⟨by kernel_rfl, ?_⟩) (by assumption) ?_
      rotate_left
      focus
       intro w hSw
       (try dsimp only at hSw)
       go_simp
       all_goals (try with_reducible rfl)
      simp only [Act.put, saQ, szQ, ssQ]
      refine wpAnyH_take (i := 12) (oi := { dst := some 101, op := Op.load 48 (.tmp 100), type := 48, pos := "law.go:85", after := #[{ on := 11, ground := .data }], guard := none }) (v := ?_) rfl (by kernel_rfl) (by kernel_rfl) (by kernel_rfl) (fun _ _ _ h => h) (Or.inl ⟨by kernel_rfl, ?_⟩) (by assumption) ?_
      rotate_left
      focus
       intro w hSw
       (try dsimp only at hSw)
       go_simp
       all_goals (try with_reducible rfl)
      simp only [Act.put, saQ, szQ, ssQ]
      refine wpAnyH_ready (rs := [5]) (by kernel_rfl) (by simp) ?_
      refine AllReadyH.cons (o := { dst := some 94, op := Op.call { callee := Callee.value (Operand.func 12), args := #[Operand.tmp 93], argTypes := #[48] }, type := 46, pos := "law.go:85", after := #[{ on := 4, ground := .data }], guard := none }) rfl (fun K hK => ?_) AllReadyH.nil
      go_simp
      refine (sound_any _ o (HO.out _ HB0.out.2).2).mono ?_
      (rintro e w6 ⟨r, rfl, hO6, hs6, hp6, g6⟩)
      have H6 : Aside (Bth w.heap.size k1 k2 h g w6 d d ∧ Below w.heap.size w w6) := ⟨HB0.out.1.keep g6, HB0.out.2.trans (g6.mono HB0.out.2.size)⟩
      have hC6 := lazy_any (dsk_two w.heap.size k1 k2 d) w6 d h r H6.out.1.two H6.out.1.lg hO6.recIn
      rw [hp6, HE.out.1, HE.out.2] at hC6
      clear hO6 hs6 hp6 g6
      go_wp2_with fail
      refine hK.out _ _ ?_ (fun hHeld2 => ?_)
      ·(try dsimp only); exact (HO.out _ H6.out.2).1
      clear hK K hHeld
      have hHeld := hHeld2
      clear hHeld2
      simp only [saQ, szQ, ssQ]
      refine wpAnyH_ready (rs := [6]) (by kernel_rfl) (by simp) ?_
      refine AllReadyH.cons (o := { dst := some 95, op := Op.call { callee := Callee.value (Operand.func 11), args := #[Operand.tmp 89, Operand.tmp 94], argTypes := #[30, 46] }, type := 32, pos := "law.go:85", after := #[{ on := 0, ground := .data }, { on := 5, ground := .data }, { on := 5, ground := .chain }], guard := none }) rfl (fun K hK => ?_) AllReadyH.nil
      go_simp
      refine hC6.mono ?_
      (rintro e w7 ⟨rfl, hT7, s7⟩)
      have H7 : Aside (Bth w.heap.size k1 k2 h g w7 d7 d ∧ Below w.heap.size w w7) := ⟨H6.out.1.stay s7 hT7, H6.out.2.trans s7.below⟩
      clear hC6 hT7 s7
      go_wp2_with fail
      refine hK.out _ _ ?_ (fun hHeld2 => ?_)
      ·(try dsimp only); exact (HO.out _ H7.out.2).1
      clear hK K hHeld
      have hHeld := hHeld2
      clear hHeld2
      simp only [saQ, szQ, ssQ]
      refine wpAnyH_take (i := 7) (oi := { dst := some 96, op := Op.convert 32 3 (.tmp 95), type := 3, pos := "law.go:85", after := #[{ on := 6, ground := .data }], guard := none }) (v := ?_) rfl (by kernel_rfl) (by kernel_rfl) (by kernel_rfl) (fun _ _ _ h => h) (Or.inl ⟨by kernel_rfl, ?_⟩) (by assumption) ?_
      rotate_left
      focus
       intro w hSw
       (try dsimp only at hSw)
       go_simp
       all_goals (try with_reducible rfl)
      simp only [Act.put, saQ, szQ, ssQ]
      refine wpAnyH_ready (rs := [13]) (by kernel_rfl) (by simp) ?_
      refine AllReadyH.cons (o := { dst := some 102, op := Op.call { callee := Callee.value (Operand.func 12), args := #[Operand.tmp 101], argTypes := #[48] }, type := 46, pos := "law.go:85", after := #[{ on := 12, ground := .data }, { on := 6, ground := .chain }], guard := none }) rfl (fun K hK => ?_) AllReadyH.nil
      go_simp
      refine (sound_any _ o (HO.out _ H7.out.2).2).mono ?_
      (rintro e w8 ⟨r', rfl, hO8, hs8, hp8, g8⟩)
      have H8 : Aside (Bth w.heap.size k1 k2 h g w8 d7 d ∧ Below w.heap.size w w8) := ⟨H7.out.1.keep g8, H7.out.2.trans (g8.mono H7.out.2.size)⟩
      have hC8 := refLazy_any (rdsk_two w.heap.size k1 k2 d7) w8 d g r' H8.out.1.two H8.out.1.rg hO8.recIn
      rw [hp8, HE.out.1, HE.out.2] at hC8
      clear hO8 hs8 hp8 g8
      go_wp2_with fail
      refine hK.out _ _ ?_ (fun hHeld2 => ?_)
      ·(try dsimp only); exact (HO.out _ H8.out.2).1
      clear hK K hHeld
      have hHeld := hHeld2
      clear hHeld2
      simp only [saQ, szQ, ssQ]
      refine wpAnyH_ready (rs := [14]) (by kernel_rfl) (by simp) ?_
      refine AllReadyH.cons (o := { dst := some 103, op := Op.call { callee := Callee.value (Operand.func 13), args := #[Operand.tmp 97, Operand.tmp 102], argTypes := #[35, 46] }, type := 3, pos := "law.go:85", after := #[{ on := 8, ground := .data }, { on := 13, ground := .data }, { on := 13, ground := .chain }], guard := none }) rfl (fun K hK => ?_) AllReadyH.nil
      go_simp
      refine hC8.mono ?_
      (rintro e w9 ⟨rfl, hT9, s9⟩)
      have H9 : Aside (Bth w.heap.size k1 k2 h g w9 d7 d7 ∧ Below w.heap.size w w9) := ⟨H8.out.1.stay s9 hT9, H8.out.2.trans s9.below⟩
      clear hC8 hT9 s9
      go_wp2_with fail
      refine hK.out _ _ ?_ (fun hHeld2 => ?_)
      ·(try dsimp only); exact (HO.out _ H9.out.2).1
      clear hK K hHeld
      have hHeld := hHeld2
      clear hHeld2
      simp only [saQ, szQ, ssQ]
      refine wpAnyH_take (i := 15) (oi := { dst := some 104, op := Op.binOp BinOp.eql 3 (.tmp 96) (.tmp 103) 3, type := 4, pos := "law.go:85", after := #[{ on := 7, ground := .data }, { on := 14, ground := .data }], guard := none }) (v := ?_) rfl (by kernel_rfl) (by kernel_rfl) (by kernel_rfl) (fun _ _ _ h => h) (Or.inl ⟨by kernel_rfl, ?_⟩) (by assumption) ?_
      rotate_left
      focus
       intro w hSw
       (try dsimp only at hSw)
       go_simp
       all_goals (try with_reducible rfl)
      simp only [Act.put, saQ, szQ, ssQ]
      refine wpAnyH_take (i := 16) (oi := { dst := some 14, op := Op.assign (.tmp 104), type := 4, pos := "law.go:85", after := #[{ on := 15, ground := .data }, { on := 14, ground := .chain }, { on := 0, ground := .phase }, { on := 1, ground := .phase }, { on := 2, ground := .phase }, { on := 3, ground := .phase }, { on := 4, ground := .phase }, { on := 5, ground := .phase }, { on := 6, ground := .phase }, { on := 7, ground := .phase }, { on := 8, ground := .phase }, { on := 9, ground := .phase }, { on := 10, ground := .phase }, { on := 11, ground := .phase }, { on := 12, ground := .phase }, { on := 13, ground := .phase }, { on := 14, ground := .phase }, { on := 15, ground := .phase }], guard := none }) (v := ?_) rfl (by kernel_rfl) (by kernel_rfl) (by kernel_rfl) (fun _ _ _ h => h) (Or.inl ⟨by kernel_rfl, ?_⟩) (by assumption) ?_
      rotate_left
      focus
       intro w hSw
       (try dsimp only at hSw)
       go_simp
       all_goals (try with_reducible rfl)
      simp only [Act.put, saQ, szQ, ssQ]
      refine wpAnyH_done (by kernel_rfl) ?_ _
      go_wp2
      go_meet
      case rel => exact ⟨_, _, rfl, rfl, rfl, by simp, d7, H9.out.1, H9.out.2⟩
   ·as_aux_lemma =>
     have HB0 : Aside (Bth w.heap.size k1 k2 h g wr.drew d d ∧ Below w.heap.size w wr.drew) := ⟨HT.out.1.keep (Below.refl _ _).drew, HT.out.2.trans ((Below.refl _ _).drew.mono HT.out.2.size)⟩
     have hC6 := force_any (dsk_two w.heap.size k1 k2 d) wr.drew d h o.r HB0.out.1.two HB0.out.1.lg (HO.out _ HB0.out.2).2.row
     have hC8 := fun W (t : Bth w.heap.size k1 k2 h g W (forceR (pr o.r) d).1 d) hW => refForce_any (rdsk_two w.heap.size k1 k2 (forceR (pr o.r) d).1) W d g o.r t.two t.rg (HO.out W hW).2.row
     obtain ⟨E, hE⟩ : ∃ E : Int, (((forceR (pr o.r) d).2 : Nat) : Int) = E := ⟨_, rfl⟩
     have hE2 : 0 ≤ E ∧ E ≤ 100 := by have := force_err (pr o.r) d; omega
     have hEw := conv_err hE2
     rw [hE] at hC6 hC8
     generalize (forceR (pr o.r) d).1 = d7 at hC6 hC8
     unfold rcV rcC at hC6 hC8
     have q0 := (HO.out _ HB0.out.2).1
     clear hE hE2
     go_upto_region 21 with fail
     refine wp_region_held_drew (S := fun W => W.cell? ⟨b, off + k * 13, none⟩ = some (.int .u8 o.q) ∧ W.cell? ⟨b, off + k * 13 + 1, none⟩ = some (.int .u8 o.r.kind) ∧ W.cell? ⟨b, off + k * 13 + 2, none⟩ = some (.int .u32 o.r.id) ∧ W.cell? ⟨b, off + k * 13 + 3, none⟩ = some (.int .u32 o.r.at_) ∧ W.cell? ⟨b, off + k * 13 + 4, none⟩ = some (.slice o.r.na o.r.nodes.length o.r.nc) ∧ W.cell? ⟨b, off + k * 13 + 5, none⟩ = some (.slice o.r.fa o.r.facts.length o.r.fc) ∧ W.cell? ⟨b, off + k * 13 + 6, none⟩ = some (.int .u32 o.r.epoch) ∧ W.cell? ⟨b, off + k * 13 + 7, none⟩ = some (.slice o.r.sa o.r.spans.length o.r.sc) ∧ W.cell? ⟨b, off + k * 13 + 8, none⟩ = some (.int .i64 o.r.frm) ∧ W.cell? ⟨b, off + k * 13 + 9, none⟩ = some (.int .i64 o.r.til) ∧ W.cell? ⟨b, off + k * 13 + 10, none⟩ = some (.slice o.r.ea o.r.ents.length o.r.ec) ∧ W.cell? ⟨b, off + k * 13 + 11, none⟩ = some (.int .u8 o.wh) ∧ W.cell? ⟨b, off + k * 13 + 12, none⟩ = some (.int .i64 o.n)) (by kernel_rfl) ?_ (fun hHeld => ?_)
     ·(try dsimp only); exact q0
     change wpAnyH _ _ _ _ _ 17 #[false, false, false, false, false, false, false, false, false, false, false, false, false, false, false, false, false] _ _
     refine wpAnyH_take (i := 0) (oi := { dst := some 107, op := Op.move (.tmp 7), type := 30, pos := "law.go:87", after := #[], guard := none }) (v := ?_) rfl (by kernel_rfl) (by kernel_rfl) (by kernel_rfl) (fun _ _ _ h => h) (Or.inl ⟨by kernel_rfl, ?_⟩) (by assumption) ?_
     rotate_left
     focus
      intro w hSw
      (try dsimp only at hSw)
      go_simp
      all_goals (try with_reducible rfl)
     simp only [Act.put, saQ, szQ, ssQ]
     refine wpAnyH_take (i := 1) (oi := { dst := some 108, op := Op.move (.tmp 1), type := 23, pos := "law.go:87", after := #[], guard := none }) (v := ?_) rfl (by kernel_rfl) (by kernel_rfl) (by kernel_rfl) (fun _ _ _ h => h) (Or.inl ⟨by kernel_rfl, ?_⟩) (by assumption) ?_
     rotate_left
     focus
      intro w hSw
      (try dsimp only at hSw)
      go_simp
      all_goals (try with_reducible rfl)
     simp only [Act.put, saQ, szQ, ssQ]
     refine wpAnyH_take (i := 2) (oi := { dst := some 109, op := Op.move (.tmp 13), type := 3, pos := "law.go:87", after := #[], guard := none }) (v := ?_) rfl (by kernel_rfl) (by kernel_rfl) (by kernel_rfl) (fun _ _ _ h => h) (Or.inl ⟨by kernel_rfl, ?_⟩) (by assumption) ?_
     rotate_left
     focus
      intro w hSw
      (try dsimp only at hSw)
      go_simp
      all_goals (try with_reducible rfl)
     simp only [Act.put, saQ, szQ, ssQ]
     refine wpAnyH_take (i := 3) (oi := { dst := some 110, op := Op.indexAddr 23 (.tmp 108) (.tmp 109), type := 0, pos := "law.go:87", after := #[{ on := 1, ground := .data }, { on := 2, ground := .data }], guard := none }) (v := ?_) rfl (by kernel_rfl) (by kernel_rfl) (by kernel_rfl) (fun _ _ _ h => h) (Or.inl ⟨by kernel_rfl, ?_⟩) (by assumption) ?_
     rotate_left
     focus
      intro w hSw
      (try dsimp only at hSw)
      go_simp
      all_goals (try with_reducible rfl)
     simp only [Act.put, saQ, szQ, ssQ]
     refine wpAnyH_take (i := 4) (oi := { dst := some 111, op := Op.fieldAddr 48 (.tmp 110) 1, type := 0, pos := "law.go:87", after := #[{ on := 3, ground := .data }], guard := none }) (v := ?_) rfl (by kernel_rfl) (by kernel_rfl) (by kernel_rfl) (fun _ _ _ h => h) (Or.inl ⟨by kernel_rfl, ?_⟩) (by assumption) ?_
     rotate_left
     focus
      intro w hSw
      (try dsimp only at hSw)
      go_simp
      all_goals (try with_reducible rfl)
     simp only [Act.put, saQ, szQ, ssQ]
     refine wpAnyH_take (i := 5) (oi := { dst := some 112, op := Op.load 46 (.tmp 111), type := 46, pos := "law.go:87", after := #[{ on := 4, ground := .data }], guard := none }) (v := ?_) rfl (by kernel_rfl) (by kernel_rfl) (by kernel_rfl) (fun _ _ _ h => h) (Or.inl ⟨by kernel_rfl, ?_⟩) (by assumption) ?_
     rotate_left
     focus
      intro w hSw
      (try dsimp only at hSw)
      go_simp
      all_goals (try with_reducible rfl)
     simp only [Act.put, saQ, szQ, ssQ]
     refine wpAnyH_take (i := 8) (oi := { dst := some 115, op := Op.move (.tmp 10), type := 35, pos := "law.go:87", after := #[], guard := none }) (v := ?_) rfl (by kernel_rfl) (by kernel_rfl) (by kernel_rfl) (fun _ _ _ h => h) (Or.inl ⟨by kernel_rfl, ?_⟩) (by assumption) ?_
     rotate_left
     focus
      intro w hSw
      (try dsimp only at hSw)
      go_simp
      all_goals (try with_reducible rfl)
     simp only [Act.put, saQ, szQ, ssQ]
     refine wpAnyH_take (i := 9) (oi := { dst := some 116, op := Op.move (.tmp 1), type := 23, pos := "law.go:87", after := #[], guard := none }) (v := ?_) rfl (by kernel_rfl) (by kernel_rfl) (by kernel_rfl) (fun _ _ _ h => h) (Or.inl ⟨by kernel_rfl, ?_⟩) (by assumption) ?_
     rotate_left
     focus
      intro w hSw
      (try dsimp only at hSw)
      go_simp
      all_goals (try with_reducible rfl)
     simp only [Act.put, saQ, szQ, ssQ]
     refine wpAnyH_take (i := 10) (oi := { dst := some 117, op := Op.move (.tmp 13), type := 3, pos := "law.go:87", after := #[], guard := none }) (v := ?_) rfl (by kernel_rfl) (by kernel_rfl) (by kernel_rfl) (fun _ _ _ h => h) (Or.inl ⟨by kernel_rfl, ?_⟩) (by assumption) ?_
     rotate_left
     focus
      intro w hSw
      (try dsimp only at hSw)
      go_simp
      all_goals (try with_reducible rfl)
     simp only [Act.put, saQ, szQ, ssQ]
     refine wpAnyH_take (i := 11) (oi := { dst := some 118, op := Op.indexAddr 23 (.tmp 116) (.tmp 117), type := 0, pos := "law.go:87", after := #[{ on := 9, ground := .data }, { on := 10, ground := .data }], guard := none }) (v := ?_) rfl (by kernel_rfl) (by kernel_rfl) (by kernel_rfl) (fun _ _ _ h => h) (Or.inl ⟨by kernel_rfl, ?_⟩) (by assumption) ?_
     rotate_left
     focus
      intro w hSw
      (try dsimp only at hSw)
      go_simp
      all_goals (try with_reducible rfl)
     simp only [Act.put, saQ, szQ, ssQ]
     refine wpAnyH_take (i := 12) (oi := { dst := some 119, op := Op.fieldAddr 48 (.tmp 118) 1, type := 0, pos := "law.go:87", after := #[{ on := 11, ground := .data }], guard := none }) (v := ?_) rfl (by kernel_rfl) (by kernel_rfl) (by kernel_rfl) (fun _ _ _ h => h) (Or.inl ⟨by kernel_rfl, ?_⟩) (by assumption) ?_
     rotate_left
     focus
      intro w hSw
      (try dsimp only at hSw)
      go_simp
      all_goals (try with_reducible rfl)
     simp only [Act.put, saQ, szQ, ssQ]
     refine wpAnyH_take (i := 13) (oi := { dst := some 120, op := Op.load 46 (.tmp 119), type := 46, pos := "law.go:87", after := #[{ on := 12, ground := .data }], guard := none }) (v := ?_) rfl (by kernel_rfl) (by kernel_rfl) (by kernel_rfl) (fun _ _ _ h => h) (Or.inl ⟨by kernel_rfl, ?_⟩) (by assumption) ?_
     rotate_left
     focus
      intro w hSw
      (try dsimp only at hSw)
      go_simp
      all_goals (try with_reducible rfl)
     simp only [Act.put, saQ, szQ, ssQ]
     refine wpAnyH_ready (rs := [6]) (by kernel_rfl) (by simp) ?_
     refine AllReadyH.cons (o := { dst := some 113, op := Op.call { callee := Callee.value (Operand.func 14), args := #[Operand.tmp 107, Operand.tmp 112], argTypes := #[30, 46] }, type := 32, pos := "law.go:87", after := #[{ on := 0, ground := .data }, { on := 5, ground := .data }], guard := none }) rfl (fun K hK => ?_) AllReadyH.nil
     go_simp
     refine hC6.mono ?_
     (rintro e w7 ⟨rfl, hT7, s7⟩)
     have H7 : Aside (Bth w.heap.size k1 k2 h g w7 d7 d ∧ Below w.heap.size w w7) := ⟨HB0.out.1.stay s7 hT7, HB0.out.2.trans s7.below⟩
     clear hC6 hT7 s7
     go_wp2_with fail
     refine hK.out _ _ ?_ (fun hHeld2 => ?_)
     ·(try dsimp only); exact (HO.out _ H7.out.2).1
     clear hK K hHeld
     have hHeld := hHeld2
     clear hHeld2
     simp only [saQ, szQ, ssQ]
     refine wpAnyH_take (i := 7) (oi := { dst := some 114, op := Op.convert 32 3 (.tmp 113), type := 3, pos := "law.go:87", after := #[{ on := 6, ground := .data }], guard := none }) (v := ?_) rfl (by kernel_rfl) (by kernel_rfl) (by kernel_rfl) (fun _ _ _ h => h) (Or.inl ⟨by kernel_rfl, ?_⟩) (by assumption) ?_
     rotate_left
     focus
      intro w hSw
      (try dsimp only at hSw)
      go_simp
      all_goals (try with_reducible rfl)
     simp only [Act.put, saQ, szQ, ssQ]
     refine wpAnyH_ready (rs := [14]) (by kernel_rfl) (by simp) ?_
     refine AllReadyH.cons (o := { dst := some 121, op := Op.call { callee := Callee.value (Operand.func 15), args := #[Operand.tmp 115, Operand.tmp 120], argTypes := #[35, 46] }, type := 3, pos := "law.go:87", after := #[{ on := 8, ground := .data }, { on := 13, ground := .data }, { on := 6, ground := .chain }], guard := none }) rfl (fun K hK => ?_) AllReadyH.nil
     go_simp
     refine (hC8 _ H7.out.1 H7.out.2).mono ?_
     (rintro e w9 ⟨rfl, hT9, s9⟩)
     have H9 : Aside (Bth w.heap.size k1 k2 h g w9 d7 d7 ∧ Below w.heap.size w w9) := ⟨H7.out.1.stay s9 hT9, H7.out.2.trans s9.below⟩
     clear hC8 hT9 s9
     go_wp2_with fail
     refine hK.out _ _ ?_ (fun hHeld2 => ?_)
     ·(try dsimp only); exact (HO.out _ H9.out.2).1
     clear hK K hHeld
     have hHeld := hHeld2
     clear hHeld2
     simp only [saQ, szQ, ssQ]
     refine wpAnyH_take (i := 15) (oi := { dst := some 122, op := Op.binOp BinOp.eql 3 (.tmp 114) (.tmp 121) 3, type := 4, pos := "law.go:87", after := #[{ on := 7, ground := .data }, { on := 14, ground := .data }], guard := none }) (v := ?_) rfl (by kernel_rfl) (by kernel_rfl) (by kernel_rfl) (fun _ _ _ h => h) (Or.inl ⟨by kernel_rfl, ?_⟩) (by assumption) ?_
     rotate_left
     focus
      intro w hSw
      (try dsimp only at hSw)
      go_simp
      all_goals (try with_reducible rfl)
     simp only [Act.put, saQ, szQ, ssQ]
     refine wpAnyH_take (i := 16) (oi := { dst := some 14, op := Op.assign (.tmp 122), type := 4, pos := "law.go:87", after := #[{ on := 15, ground := .data }, { on := 14, ground := .chain }, { on := 0, ground := .phase }, { on := 1, ground := .phase }, { on := 2, ground := .phase }, { on := 3, ground := .phase }, { on := 4, ground := .phase }, { on := 5, ground := .phase }, { on := 6, ground := .phase }, { on := 7, ground := .phase }, { on := 8, ground := .phase }, { on := 9, ground := .phase }, { on := 10, ground := .phase }, { on := 11, ground := .phase }, { on := 12, ground := .phase }, { on := 13, ground := .phase }, { on := 14, ground := .phase }, { on := 15, ground := .phase }], guard := none }) (v := ?_) rfl (by kernel_rfl) (by kernel_rfl) (by kernel_rfl) (fun _ _ _ h => h) (Or.inl ⟨by kernel_rfl, ?_⟩) (by assumption) ?_
     rotate_left
     focus
      intro w hSw
      (try dsimp only at hSw)
      go_simp
      all_goals (try with_reducible rfl)
     simp only [Act.put, saQ, szQ, ssQ]
     refine wpAnyH_done (by kernel_rfl) ?_ _
     go_wp2
     go_meet
     case rel => exact ⟨_, _, rfl, rfl, rfl, by simp, d7, H9.out.1, H9.out.2⟩
   ·as_aux_lemma =>
     clear hnum hz
     have hC2 := halt_l HT.out.1.two (max o.n 0 % 9) (by omega)
     go_wp2_with (go_at_call 16; refine hC2.mono ?_; rintro e w2 ⟨rfl, hT2, s2⟩; refine Hid.out ?_)
     refine hid ?_
     have H2 : Aside (Below w.heap.size w w2 ∧ Bth w.heap.size k1 k2 h g w2 (halt (max o.n 0 % 9) d) d) := ⟨HT.out.2.trans s2.below, HT.out.1.stay (.of_stp s2) hT2⟩
     have hC3 := halt_r hT2 (max o.n 0 % 9) (by omega)
     clear hC2 hT2 s2 r0 r1 r2 r3 r4 r5 r6 r7 r8 r9 r10 r11 r12
     obtain ⟨r0, r1, r2, r3, r4, r5, r6, r7, r8, r9, r10, r11, r12⟩ := (HO.out _ H2.out.1).1
     go_wp2_with (go_at_call 17; refine hC3.mono ?_; rintro e w3 ⟨rfl, hT3, s3⟩; refine Hid.out ?_)
     refine hid ?_
     have H3 : Aside (Below w.heap.size w w3 ∧ Bth w.heap.size k1 k2 h g w3 (halt (max o.n 0 % 9) d) (halt (max o.n 0 % 9) d)) := ⟨H2.out.1.trans s3.below, H2.out.2.stay (.of_stp s3) hT3⟩
     clear hC3 hT3 s3
     go_wp2_with fail
     go_meet
     case rel => exact ⟨_, _, rfl, rfl, rfl, by simp, _, H3.out.2, H3.out.1⟩
   ·as_aux_lemma =>
     have hC2 := crash_l HT.out.1.two o.n
     go_wp2_with (go_at_call 18; refine hC2.mono ?_; rintro e w2 ⟨rfl, hT2, s2⟩; refine Hid.out ?_)
     refine hid ?_
     have H2 : Aside (Below w.heap.size w w2 ∧ Fit d) := ⟨HT.out.2.trans s2.below, HT.out.1.two.fit⟩
     have hC3 := crash_r hT2 o.n
     clear hC2 hT2 s2 r0 r1 r2 r3 r4 r5 r6 r7 r8 r9 r10 r11 r12
     obtain ⟨r0, r1, r2, r3, r4, r5, r6, r7, r8, r9, r10, r11, r12⟩ := (HO.out _ H2.out.1).1
     go_wp2_with (go_at_call 19; refine hC3.mono ?_; rintro e w3 ⟨rfl, hT3, s3⟩; refine Hid.out ?_)
     refine hid ?_
     have H3 : Aside (Below w.heap.size w w3) := H2.out.1.trans s3.below
     have hoc := open_crash H2.out.2 o.n
     have HOC : Aside (openD dec (crash o.n d) = ((openD dec (crash o.n d)).1, 0)) := hoc
     have hC4 := open_yes (dsk_two w.heap.size k1 k2 (crash o.n d)) w3 _ hT3 _ HOC.out
     generalize (openD dec (crash o.n d)).1 = d9 at hC4 HOC
     clear hC3 hT3 s3 hoc r0 r1 r2 r3 r4 r5 r6 r7 r8 r9 r10 r11 r12
     go_wp2_with (go_at_call 9; refine hC4.mono ?_; rintro e w4 ⟨h4, va4, vc4, rs4, rfl, hx4, hrs4, hpr4, hT4, s4⟩; refine Hid.out ?_)
     refine hid ?_
     have H4 : Aside (Below w.heap.size w w4 ∧ bytes.Boxed w4 h4 #[.pointer (some ⟨k1, 0, none⟩)] 67 ∧ RsOwn w3.heap.size w4 (.slice va4 rs4.length vc4) rs4 ∧ rs4.map pr = recs dec (scanB (crash o.n d).b)) := ⟨H3.out.trans s4.below, hx4, hrs4, hpr4⟩
     have hC5 := refOpen_yes (rdsk_two w.heap.size k1 k2 d9) w4 _ hT4 _ HOC.out
     generalize rs4.length = n4 at *
     clear hC4 hx4 hrs4 hpr4 hT4 s4
     go_wp2_with (go_at_call 10; refine hC5.mono ?_; rintro e w5 ⟨g5, va5, vc5, rs5, rfl, hx5, hrs5, hpr5, hT5, s5⟩; refine Hid.out ?_)
     refine hid ?_
     have H5 : Aside (Below w.heap.size w w5 ∧ Bth w.heap.size k1 k2 h4 g5 w5 d9 d9) := ⟨H4.out.1.trans s5.below, hT5, s5.boxes _ _ _ H4.out.2.1 kt_log, hx5⟩
     have hC6 := same_yes (H4.out.2.2.1.stay s5) hrs5 H4.out.2.2.2 hpr5 rec_snd w5 (Below.refl _ _)
     generalize rs5.length = n5 at *
     clear hC5 hx5 hrs5 hpr5 hT5 s5 H4
     have hw0 : IntKind.i64.wrap (0 : Int) = 0 := by rw [IntKind.wrap_i64]; omega
     go_wp2_with (go_at_call 20; refine hC6.mono ?_; rintro e w6 ⟨rfl, g6⟩)
     go_meet
     case rel => exact ⟨h4, g5, rfl, rfl, rfl, by simp, d9, H5.out.2.keep g6.out, H5.out.1.trans (g6.out.mono H5.out.1.size)⟩
  case rest =>
   obtain ⟨h', g', rfl, rfl, rfl, rfl, SC⟩ := hcut
   clear HT HO r0 r1 r2 r3 r4 r5 r6 r7 r8 r9 r10 r11 r12 hnum hz hz8
   obtain ⟨d', ht', hb'⟩ := SC.out
   have RD := fun W hW => read_up (dsk_two w.heap.size k1 k2 d') ht'.two (l := d'.b) rfl W hW
   obtain ⟨ca, cn, cc, hcu⟩ := cell_up (rdsk_two w.heap.size k1 k2 d') ht'.two (l := d'.b) rfl
   have HC : Aside (∀ W, Below wc.heap.size wc W → W.cell? ⟨k2, 0, none⟩ = some (.slice ca cn cc) ∧ (convert 54 9 (.slice ca cn cc)).run Tryz.prog W = .ok (.string ⟨d'.b.toArray⟩) W) := hcu
   have HT' : Aside (Bth w.heap.size k1 k2 h' g' wc d' d' ∧ Below w.heap.size w wc) := ⟨ht', hb'⟩
   generalize d'.b = l at *
   have HB0 : Aside (Below wc.heap.size wc wc.drew) := (Below.refl _ _).drew
   have q0 := HC.out _ HB0.out
   clear SC ht' hb' hcu
   go_wp2_with fail
   refine wp_region_held_drew (S := fun W => W.cell? ⟨k2, 0, none⟩ = some (.slice ca cn cc) ∧ (convert 54 9 (.slice ca cn cc)).run Tryz.prog W = .ok (.string ⟨l.toArray⟩) W) (by kernel_rfl) ?_ (fun hHeld => ?_)
   ·(try dsimp only); exact q0
   change wpAnyH _ _ _ _ _ 13 #[false, false, false, false, false, false, false, false, false, false, false, false, false] _ _
   refine wpAnyH_take (i := 0) (oi := { dst := some 183, op := Op.move (.tmp 14), type := 4, pos := "law.go:103", after := #[], guard := none }) (v := ?_) rfl (by kernel_rfl) (by kernel_rfl) (by kernel_rfl) (fun _ _ _ h => h) (Or.inl ⟨by kernel_rfl, ?_⟩) (by assumption) ?_
   rotate_left
   focus
    intro w hSw
    (try dsimp only at hSw)
    go_simp
    all_goals (try with_reducible rfl)
   simp only [Act.put, saQ, szQ, ssQ]
   refine wpAnyH_take (i := 1) (oi := { dst := some 184, op := Op.unOp UnOp.not 4 (.tmp 183), type := 4, pos := "law.go:103", after := #[{ on := 0, ground := .data }], guard := none }) (v := ?_) rfl (by kernel_rfl) (by kernel_rfl) (by kernel_rfl) (fun _ _ _ h => h) (Or.inl ⟨by kernel_rfl, ?_⟩) (by assumption) ?_
   rotate_left
   focus
    intro w hSw
    (try dsimp only at hSw)
    go_simp
    all_goals (try with_reducible rfl)
   simp only [Act.put, saQ, szQ, ssQ]
   refine wpAnyH_take (i := 2) (oi := { dst := some 185, op := Op.move (.tmp 184), type := 4, pos := "law.go:103", after := #[{ on := 1, ground := .data }], guard := none }) (v := ?_) rfl (by kernel_rfl) (by kernel_rfl) (by kernel_rfl) (fun _ _ _ h => h) (Or.inl ⟨by kernel_rfl, ?_⟩) (by assumption) ?_
   rotate_left
   focus
    intro w hSw
    (try dsimp only at hSw)
    go_simp
    all_goals (try with_reducible rfl)
   simp only [Act.put, saQ, szQ, ssQ]
   refine wpAnyH_take (i := 3) (oi := { dst := some 186, op := Op.move (.tmp 5), type := 26, pos := "law.go:103", after := #[{ on := 2, ground := .guard }], guard := some (2, false) }) (v := ?_) rfl (by kernel_rfl) (by kernel_rfl) (by kernel_rfl) (fun _ _ _ h => h) (Or.inl ⟨by kernel_rfl, ?_⟩) (by assumption) ?_
   rotate_left
   focus
    intro w hSw
    (try dsimp only at hSw)
    go_simp
    all_goals (try with_reducible rfl)
   simp only [Act.put, saQ, szQ, ssQ]
   refine wpAnyH_take (i := 6) (oi := { dst := some 189, op := Op.move (.tmp 6), type := 28, pos := "law.go:103", after := #[{ on := 2, ground := .guard }], guard := some (2, false) }) (v := ?_) rfl (by kernel_rfl) (by kernel_rfl) (by kernel_rfl) (fun _ _ _ h => h) (Or.inl ⟨by kernel_rfl, ?_⟩) (by assumption) ?_
   rotate_left
   focus
    intro w hSw
    (try dsimp only at hSw)
    go_simp
    all_goals (try with_reducible rfl)
   simp only [Act.put, saQ, szQ, ssQ]
   refine wpAnyH_take (i := 7) (oi := { dst := some 190, op := Op.nilCheck (.tmp 189), type := 0, pos := "law.go:103", after := #[{ on := 6, ground := .data }, { on := 2, ground := .guard }], guard := some (2, false) }) (v := ?_) rfl (by kernel_rfl) (by kernel_rfl) (by kernel_rfl) (fun _ _ _ h => h) (Or.inl ⟨by kernel_rfl, ?_⟩) (by assumption) ?_
   rotate_left
   focus
    intro w hSw
    (try dsimp only at hSw)
    go_simp
    all_goals (try with_reducible rfl)
   simp only [Act.put, saQ, szQ, ssQ]
   refine wpAnyH_take (i := 8) (oi := { dst := some 191, op := Op.fieldAddr 57 (.tmp 190) 0, type := 0, pos := "law.go:103", after := #[{ on := 7, ground := .data }, { on := 2, ground := .guard }], guard := some (2, false) }) (v := ?_) rfl (by kernel_rfl) (by kernel_rfl) (by kernel_rfl) (fun _ _ _ h => h) (Or.inl ⟨by kernel_rfl, ?_⟩) (by assumption) ?_
   rotate_left
   focus
    intro w hSw
    (try dsimp only at hSw)
    go_simp
    all_goals (try with_reducible rfl)
   simp only [Act.put, saQ, szQ, ssQ]
   refine wpAnyH_take (i := 9) (oi := { dst := some 192, op := Op.load 54 (.tmp 191), type := 54, pos := "law.go:103", after := #[{ on := 8, ground := .data }, { on := 2, ground := .guard }], guard := some (2, false) }) (v := ?_) rfl (by kernel_rfl) (by kernel_rfl) (by kernel_rfl) (fun _ _ _ h => h) (Or.inl ⟨by kernel_rfl, ?_⟩) (by assumption) ?_
   rotate_left
   focus
    intro w hSw
    (try dsimp only at hSw)
    go_simp
    all_goals (try with_reducible rfl)
   simp only [Act.put, saQ, szQ, ssQ]
   refine wpAnyH_take (i := 10) (oi := { dst := some 193, op := Op.convert 54 9 (.tmp 192), type := 9, pos := "law.go:103", after := #[{ on := 9, ground := .data }, { on := 2, ground := .guard }], guard := some (2, false) }) (v := ?_) rfl (by kernel_rfl) (by kernel_rfl) (by kernel_rfl) (fun _ _ _ h => h) (Or.inl ⟨by kernel_rfl, ?_⟩) (by assumption) ?_
   rotate_left
   focus
    intro w hSw
    (try dsimp only at hSw)
    go_simp
    all_goals (try with_reducible rfl)
   simp only [Act.put, saQ, szQ, ssQ]
   refine wpAnyH_ready (rs := [4]) (by kernel_rfl) (by simp) ?_
   refine AllReadyH.cons (o := { dst := some 187, op := Op.call { callee := Callee.value (Operand.func 21), args := #[Operand.tmp 186], argTypes := #[26] }, type := 54, pos := "law.go:103", after := #[{ on := 3, ground := .data }, { on := 2, ground := .chain }, { on := 2, ground := .guard }], guard := some (2, false) }) rfl (fun K hK => ?_) AllReadyH.nil
   go_simp
   refine (RD _ HB0.out).mono ?_
   (rintro e waR ⟨vR, rfl, hbR, hcR⟩)
   go_wp2_with fail
   refine hK.out _ _ ?_ (fun hHeld2 => ?_)
   ·(try dsimp only); exact HC.out _ hbR.out
   clear hK K hHeld
   have hHeld := hHeld2
   clear hHeld2
   simp only [saQ, szQ, ssQ]
   refine wpAnyH_ready (rs := [5]) (by kernel_rfl) (by simp) ?_
   refine AllReadyH.cons (o := { dst := some 188, op := Op.convert 54 9 (.tmp 187), type := 9, pos := "law.go:103", after := #[{ on := 4, ground := .data }, { on := 2, ground := .guard }], guard := some (2, false) }) rfl (fun K hK => ?_) AllReadyH.nil
   go_simp
   refine hK.out _ _ ?_ (fun hHeld2 => ?_)
   ·(try dsimp only); exact HC.out _ hbR.out
   clear hK K hHeld
   have hHeld := hHeld2
   clear hHeld2
   simp only [saQ, szQ, ssQ]
   refine wpAnyH_take (i := 11) (oi := { dst := some 194, op := Op.binOp BinOp.neq 9 (.tmp 188) (.tmp 193) 9, type := 4, pos := "law.go:103", after := #[{ on := 5, ground := .data }, { on := 10, ground := .data }, { on := 2, ground := .guard }], guard := some (2, false) }) (v := ?_) rfl (by kernel_rfl) (by kernel_rfl) (by kernel_rfl) (fun _ _ _ h => h) (Or.inl ⟨by kernel_rfl, ?_⟩) (by assumption) ?_
   rotate_left
   focus
    intro w hSw
    (try dsimp only at hSw)
    go_simp
    all_goals (try with_reducible rfl)
   simp only [Act.put, saQ, szQ, ssQ]
   refine wpAnyH_take (i := 12) (oi := { dst := some 195, op := Op.pick (.tmp 185) (.const (Value.bool true)) (.tmp 194), type := 4, pos := "law.go:103", after := #[{ on := 2, ground := .data }, { on := 11, ground := .data }], guard := none }) (v := ?_) rfl (by kernel_rfl) (by kernel_rfl) (by kernel_rfl) (fun _ _ _ h => h) (Or.inl ⟨by kernel_rfl, ?_⟩) (by assumption) ?_
   rotate_left
   focus
    intro w hSw
    (try dsimp only at hSw)
    go_simp
    all_goals (try with_reducible rfl)
   simp only [Act.put, saQ, szQ, ssQ]
   refine wpAnyH_done (by kernel_rfl) ?_ _
   have S9 : Aside (∃ d, Bth w.heap.size k1 k2 h' g' waR d d ∧ Below w.heap.size w waR) := ⟨d', HT'.out.1.keep hbR.out, HT'.out.2.trans (hbR.out.mono HT'.out.2.size)⟩
   clear HT' HC HB0 q0 RD hbR hcR
   go_wp2
   go_roundg (n - (k + 1))
   case measure => omega
   case rel => exact ⟨k + 1, h', g', rfl, rfl, rfl, by go_num, by omega, by omega, S9⟩
end wal
end Go.Proofs.YtlcjllgfpfldlaaGreat
