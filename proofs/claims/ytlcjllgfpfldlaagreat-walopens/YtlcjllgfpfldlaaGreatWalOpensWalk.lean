/-
 The walk of WalOpens.
-/
import Derived.Test.YtlcjllgfpfldlaaGreatWalZ48K
namespace Go.Proofs.YtlcjllgfpfldlaaGreat.wal
open Go.ChangeShapes Go.WideShapes Go.ChangeAt Go.RowKit Go.Deep
open Go.Proofs.YtlcjllgfpfldlaaGreat.code (Rc PRec pr rcC rcV RecIn OwnIn Far sndRec recB dec dec_is)
open Go.Proofs.YtlcjllgfpfldlaaGreat.bytes
open Go.Proofs.YtlcjllgfpfldlaaGreat.disk
open Go.Proofs.YtlcjllgfpfldlaaGreat.frame (scanB rowsB wrapB wrapB_len)
set_option linter.unusedVariables false
set_option maxRecDepth 100000
set_option linter.unusedSimpArgs false

set_option maxHeartbeats 16000000 in
theorem opens_walk (n c : Nat) (a : Option Addr) (y : List UInt8) (w : World) (hS : Sl w a n c y) :
  Calls Tryz.prog 4 #[.slice a n c] w fun e w' => e = .returned (.bool true) ∧ Below w.heap.size w w' := by
 have hK := known_any w
 have hnm := hS.max
 by_cases hbig : 3000 < n
 ·have hbz : (3000 : Int) < (n : Int) := by omega
  clear hS
  go_enter Tryz.func4, Tryz.ntmps4
  go_wp2_with (go_at_call 6; refine hK.mono ?_; rintro e w2 ⟨rfl, g2⟩)
  go_ret
  exact ⟨rfl, g2⟩
 have hbz : ¬ (3000 : Int) < (n : Int) := by omega
 have HS : Aside (Sl w a n c y) := hS
 clear hS
 go_enter Tryz.func4, Tryz.ntmps4
 go_wp2_with (go_at_call 6; refine hK.mono ?_; rintro e w2 ⟨rfl, g2⟩; refine Hid.out ?_)
 refine hid ?_
 have G2 : Aside (Below w.heap.size w w2) := g2
 have hC1 := new_any w.heap.size 10000 w2 (by omega) g2.size
 obtain ⟨k1, hk1⟩ : ∃ k, w2.heap.size = k := ⟨_, rfl⟩
 rw [hk1] at hC1
 have HK1 : Aside (w.heap.size ≤ k1) := by have := g2.size; show _ ≤ _; omega
 clear hK g2 hk1
 go_wp2_with (go_at_call 7; refine hC1.mono ?_; rintro e w3 ⟨rfl, hd3, g3⟩; refine Hid.out ?_)
 refine hid ?_
 have G3 : Aside (Below w.heap.size w w3) := G2.out.trans (g3.mono HK1.out)
 have hC2 := two_new hd3 (by omega)
 obtain ⟨k2, hk2⟩ : ∃ k, w3.heap.size = k := ⟨_, rfl⟩
 rw [hk2] at hC2
 have HK2 : Aside (w.heap.size ≤ k2) := by have := G3.out.size; show _ ≤ _; omega
 clear hC1 hd3 g3 hk2 G2
 go_wp2_with (go_at_call 8; refine hC2.mono ?_; rintro e w4 ⟨rfl, hT4, g4⟩; refine Hid.out ?_)
 refine hid ?_
 have G4 : Aside (Below w.heap.size w w4) := G3.out.trans (g4.mono HK2.out)
 have hlow4 : Sl w4 a n c y := HS.out.keep G4.out
 have hap : app y (new 10000) = (⟨y, 0, 10000, -1⟩, 0) := by
  rw [app_free rfl (by have := HS.out.at_.len; show 0 + y.length ≤ 10000; omega)]; rfl
 have hC3 := (dsk_two w.heap.size k1 k2 (new 10000)).hApp w4 (new 10000) a n c y hT4 hlow4 (by omega)
 rw [hap] at hC3
 have HAP : Aside (app y (new 10000) = (⟨y, 0, 10000, -1⟩, 0)) := hap
 clear hC2 hT4 g4 G3 hlow4 hap
 go_wp2_with (go_at_call 22; refine hC3.mono ?_; rintro e w5 ⟨rfl, hT5, s5⟩; refine Hid.out ?_)
 refine hid ?_
 have G5 : Aside (Below w.heap.size w w5) := G4.out.trans s5.below
 have hC4 := (rdsk_two w.heap.size k1 k2 ⟨y, 0, 10000, -1⟩).hApp w5 (new 10000) a n c y hT5 (HS.out.keep G5.out) (by omega)
 rw [HAP.out] at hC4
 clear hC3 hT5 s5 G4
 go_wp2_with (go_at_call 23; refine hC4.mono ?_; rintro e w6 ⟨rfl, hT6, s6⟩; refine Hid.out ?_)
 refine hid ?_
 have G6 : Aside (Below w.heap.size w w6) := G5.out.trans s6.below
 have ho := open_free (D := dec) (d := ⟨y, 0, 10000, -1⟩) rfl (Nat.zero_le _)
 have hag := open_again dec y
 obtain ⟨u, hu⟩ : ∃ u, y.take (size dec y) = u := ⟨_, rfl⟩
 rw [hu] at ho hag
 have ho2 := open_free (D := dec) (d := ⟨u, u.length, 10000, -1⟩) rfl (Nat.le_refl _)
 rw [show u.take (size dec u) = u from by rw [hag.2]; exact List.take_of_length_le (Nat.le_refl _)] at ho2
 have HO : Aside (openD dec ⟨y, 0, 10000, -1⟩ = (⟨u, u.length, 10000, -1⟩, 0) ∧ openD dec ⟨u, u.length, 10000, -1⟩ = (⟨u, u.length, 10000, -1⟩, 0) ∧ recs dec (scanB u) = recs dec (scanB y)) := ⟨ho, ho2, hag.1⟩
 have hC5 := open_yes (dsk_two w.heap.size k1 k2 ⟨y, 0, 10000, -1⟩) w6 _ hT6 _ HO.out.1
 clear hC4 hT6 s6 G5 ho ho2 hag hu
 go_wp2_with (go_at_call 9; refine hC5.mono ?_; rintro e w7 ⟨h7, va, vc, rs, rfl, -, hrs, hpr, hT7, s7⟩; refine Hid.out ?_)
 refine hid ?_
 have G7 : Aside (Below w.heap.size w w7) := G6.out.trans s7.below
 have hC6 := refOpen_yes (rdsk_two w.heap.size k1 k2 ⟨u, u.length, 10000, -1⟩) w7 _ hT7 _ HO.out.1
 have HR7 : Aside (RsOwn w6.heap.size w7 (.slice va rs.length vc) rs ∧ rs.map pr = recs dec (scanB y)) := ⟨hrs, hpr⟩
 generalize rs.length = rn at *
 clear hC5 hrs hpr hT7 s7 G6
 go_wp2_with (go_at_call 10; refine hC6.mono ?_; rintro e w8 ⟨h8, ua, uc, ss, rfl, -, hss, hps, hT8, s8⟩; refine Hid.out ?_)
 refine hid ?_
 have G8 : Aside (Below w.heap.size w w8) := G7.out.trans s8.below
 have hC7 := open_yes (dsk_two w.heap.size k1 k2 ⟨u, u.length, 10000, -1⟩) w8 _ hT8 _ HO.out.2.1
 have HR8 : Aside (RsOwn w6.heap.size w8 (.slice va rn vc) rs ∧ rs.map pr = recs dec (scanB y) ∧ RsOwn w7.heap.size w8 (.slice ua ss.length uc) ss ∧ ss.map pr = recs dec (scanB y)) := ⟨HR7.out.1.stay s8, HR7.out.2, hss, hps⟩
 generalize ss.length = sn at *
 clear hC6 hss hps hT8 s8 G7 HR7
 go_wp2_with (go_at_call 9; refine hC7.mono ?_; rintro e w9 ⟨h9, ta, tc, ts, rfl, -, hts, hpt, hT9, s9⟩; refine Hid.out ?_)
 refine hid ?_
 have G9 : Aside (Below w.heap.size w w9) := G8.out.trans s9.below
 have h1 := HR8.out.1.stay s9
 have h2 := HR8.out.2.2.1.stay s9
 have SA := fun W hW => same_yes h1 h2 HR8.out.2.1 HR8.out.2.2.2 rec_snd W hW
 have SB := fun W hW => same_yes h1 hts HR8.out.2.1 (hpt.trans HO.out.2.2) rec_snd W hW
 have RD := fun W hW => read_up (dsk_two w.heap.size k1 k2 ⟨u, u.length, 10000, -1⟩) hT9 (l := u) rfl W hW
 obtain ⟨ca, cn, cc, hcu⟩ := cell_up (rdsk_two w.heap.size k1 k2 ⟨u, u.length, 10000, -1⟩) hT9 (l := u) rfl
 have HC : Aside (∀ W, Below w9.heap.size w9 W → W.cell? ⟨k2, 0, none⟩ = some (.slice ca cn cc) ∧ (convert 54 9 (.slice ca cn cc)).run Tryz.prog W = .ok (.string ⟨u.toArray⟩) W) := hcu
 generalize ts.length = tn at *
 generalize u = l at *
 have HB0 : Aside (Below w9.heap.size w9 w9.drew) := (Below.refl _ _).drew
 have q0 := HC.out _ HB0.out
 clear hC7 hts hpt hT9 s9 G8 HR8 h1 h2 hcu HO HAP HS
 go_wp2_with fail
 refine wp_region_held_drew (S := fun W => W.cell? ⟨k2, 0, none⟩ = some (.slice ca cn cc) ∧ (convert 54 9 (.slice ca cn cc)).run Tryz.prog W = .ok (.string ⟨l.toArray⟩) W) (by kernel_rfl) ?_ (fun hHeld => ?_)
 ·(try dsimp only); exact q0
 change wpAnyH _ _ _ _ _ 30 #[false, false, false, false, false, false, false, false, false, false, false, false, false, false, false, false, false, false, false, false, false, false, false, false, false, false, false, false, false, false] _ _
 refine wpAnyH_take (i := 0) (oi := { dst := some 54, op := Op.move (Operand.tmp 7), type := 32, pos := "law.go:125", after := #[], guard := none }) (v := ?_) rfl (by kernel_rfl) (by kernel_rfl) (by kernel_rfl) (fun _ _ _ h => h) (Or.inl ⟨by kernel_rfl, ?_⟩) (by assumption) ?_
 rotate_left
 focus
  intro w hSw
  (try dsimp only at hSw)
  go_simp
  all_goals (try with_reducible rfl)
 simp only [Act.put, List.setIfInBounds_toArray, List.set_cons_zero, List.set_cons_succ]
 refine wpAnyH_take (i := 1) (oi := { dst := some 55, op := Op.convert 32 3 (Operand.tmp 54), type := 3, pos := "law.go:125", after := #[{ on := 0, ground := Ground.data }], guard := none }) (v := ?_) rfl (by kernel_rfl) (by kernel_rfl) (by kernel_rfl) (fun _ _ _ h => h) (Or.inl ⟨by kernel_rfl, ?_⟩) (by assumption) ?_
 rotate_left
 focus
  intro w hSw
  (try dsimp only at hSw)
  go_simp
  all_goals (try with_reducible rfl)
 simp only [Act.put, List.setIfInBounds_toArray, List.set_cons_zero, List.set_cons_succ]
 refine wpAnyH_take (i := 2) (oi := { dst := some 56, op := Op.move (Operand.tmp 10), type := 3, pos := "law.go:125", after := #[], guard := none }) (v := ?_) rfl (by kernel_rfl) (by kernel_rfl) (by kernel_rfl) (fun _ _ _ h => h) (Or.inl ⟨by kernel_rfl, ?_⟩) (by assumption) ?_
 rotate_left
 focus
  intro w hSw
  (try dsimp only at hSw)
  go_simp
  all_goals (try with_reducible rfl)
 simp only [Act.put, List.setIfInBounds_toArray, List.set_cons_zero, List.set_cons_succ]
 refine wpAnyH_take (i := 3) (oi := { dst := some 57, op := Op.binOp BinOp.eql 3 (Operand.tmp 55) (Operand.tmp 56) 3, type := 4, pos := "law.go:125", after := #[{ on := 1, ground := Ground.data }, { on := 2, ground := Ground.data }], guard := none }) (v := ?_) rfl (by kernel_rfl) (by kernel_rfl) (by kernel_rfl) (fun _ _ _ h => h) (Or.inl ⟨by kernel_rfl, ?_⟩) (by assumption) ?_
 rotate_left
 focus
  intro w hSw
  (try dsimp only at hSw)
  go_simp
  all_goals (try with_reducible rfl)
 simp only [Act.put, List.setIfInBounds_toArray, List.set_cons_zero, List.set_cons_succ]
 refine wpAnyH_take (i := 4) (oi := { dst := some 58, op := Op.move (Operand.tmp 57), type := 4, pos := "law.go:125", after := #[{ on := 3, ground := Ground.data }], guard := none }) (v := ?_) rfl (by kernel_rfl) (by kernel_rfl) (by kernel_rfl) (fun _ _ _ h => h) (Or.inl ⟨by kernel_rfl, ?_⟩) (by assumption) ?_
 rotate_left
 focus
  intro w hSw
  (try dsimp only at hSw)
  go_simp
  all_goals (try with_reducible rfl)
 simp only [Act.put, List.setIfInBounds_toArray, List.set_cons_zero, List.set_cons_succ]
 refine wpAnyH_take (i := 5) (oi := { dst := some 59, op := Op.move (Operand.tmp 13), type := 32, pos := "law.go:125", after := #[{ on := 4, ground := Ground.guard }], guard := some (4, true) }) (v := ?_) rfl (by kernel_rfl) (by kernel_rfl) (by kernel_rfl) (fun _ _ _ h => h) (Or.inl ⟨by kernel_rfl, ?_⟩) (by assumption) ?_
 rotate_left
 focus
  intro w hSw
  (try dsimp only at hSw)
  go_simp
  all_goals (try with_reducible rfl)
 simp only [Act.put, List.setIfInBounds_toArray, List.set_cons_zero, List.set_cons_succ]
 refine wpAnyH_take (i := 6) (oi := { dst := some 60, op := Op.binOp BinOp.eql 32 (Operand.tmp 59) (Operand.const (Value.int IntKind.u16 0)) 32, type := 4, pos := "law.go:125", after := #[{ on := 5, ground := Ground.data }, { on := 4, ground := Ground.guard }], guard := some (4, true) }) (v := ?_) rfl (by kernel_rfl) (by kernel_rfl) (by kernel_rfl) (fun _ _ _ h => h) (Or.inl ⟨by kernel_rfl, ?_⟩) (by assumption) ?_
 rotate_left
 focus
  intro w hSw
  (try dsimp only at hSw)
  go_simp
  all_goals (try with_reducible rfl)
 simp only [Act.put, List.setIfInBounds_toArray, List.set_cons_zero, List.set_cons_succ]
 refine wpAnyH_take (i := 7) (oi := { dst := some 61, op := Op.pick (Operand.tmp 58) (Operand.tmp 60) (Operand.const (Value.bool false)), type := 4, pos := "law.go:125", after := #[{ on := 4, ground := Ground.data }, { on := 6, ground := Ground.data }], guard := none }) (v := ?_) rfl (by kernel_rfl) (by kernel_rfl) (by kernel_rfl) (fun _ _ _ h => h) (Or.inl ⟨by kernel_rfl, ?_⟩) (by assumption) ?_
 rotate_left
 focus
  intro w hSw
  (try dsimp only at hSw)
  go_simp
  all_goals (try with_reducible rfl)
 simp only [Act.put, List.setIfInBounds_toArray, List.set_cons_zero, List.set_cons_succ]
 refine wpAnyH_take (i := 8) (oi := { dst := some 62, op := Op.move (Operand.tmp 61), type := 4, pos := "law.go:125", after := #[{ on := 7, ground := Ground.data }, { on := 4, ground := Ground.chain }], guard := none }) (v := ?_) rfl (by kernel_rfl) (by kernel_rfl) (by kernel_rfl) (fun _ _ _ h => h) (Or.inl ⟨by kernel_rfl, ?_⟩) (by assumption) ?_
 rotate_left
 focus
  intro w hSw
  (try dsimp only at hSw)
  go_simp
  all_goals (try with_reducible rfl)
 simp only [Act.put, List.setIfInBounds_toArray, List.set_cons_zero, List.set_cons_succ]
 refine wpAnyH_take (i := 9) (oi := { dst := some 63, op := Op.move (Operand.tmp 6), type := 31, pos := "law.go:125", after := #[{ on := 8, ground := Ground.guard }], guard := some (8, true) }) (v := ?_) rfl (by kernel_rfl) (by kernel_rfl) (by kernel_rfl) (fun _ _ _ h => h) (Or.inl ⟨by kernel_rfl, ?_⟩) (by assumption) ?_
 rotate_left
 focus
  intro w hSw
  (try dsimp only at hSw)
  go_simp
  all_goals (try with_reducible rfl)
 simp only [Act.put, List.setIfInBounds_toArray, List.set_cons_zero, List.set_cons_succ]
 refine wpAnyH_take (i := 10) (oi := { dst := some 64, op := Op.move (Operand.tmp 9), type := 31, pos := "law.go:125", after := #[{ on := 8, ground := Ground.guard }], guard := some (8, true) }) (v := ?_) rfl (by kernel_rfl) (by kernel_rfl) (by kernel_rfl) (fun _ _ _ h => h) (Or.inl ⟨by kernel_rfl, ?_⟩) (by assumption) ?_
 rotate_left
 focus
  intro w hSw
  (try dsimp only at hSw)
  go_simp
  all_goals (try with_reducible rfl)
 simp only [Act.put, List.setIfInBounds_toArray, List.set_cons_zero, List.set_cons_succ]
 refine wpAnyH_ready (rs := [11]) (by kernel_rfl) (by simp) ?_
 refine AllReadyH.cons (o := { dst := some 65, op := Op.call { callee := Callee.value (Operand.func 20), args := #[Operand.tmp 63, Operand.tmp 64], argTypes := #[31, 31] }, type := 4, pos := "law.go:125", after := #[{ on := 9, ground := Ground.data }, { on := 10, ground := Ground.data }, { on := 8, ground := Ground.chain }, { on := 8, ground := Ground.guard }], guard := some (8, true) }) rfl (fun K hK => ?_) AllReadyH.nil
 go_simp
 refine (SA _ HB0.out).mono ?_
 (rintro e waSA ⟨rfl, hbSA⟩)
 go_wp2_with fail
 refine hK.out _ _ ?_ (fun hHeld2 => ?_)
 ·(try dsimp only); exact HC.out _ hbSA.out
 clear hK K hHeld
 have hHeld := hHeld2
 clear hHeld2
 simp only [List.setIfInBounds_toArray, List.set_cons_zero, List.set_cons_succ]
 refine wpAnyH_take (i := 12) (oi := { dst := some 66, op := Op.pick (Operand.tmp 62) (Operand.tmp 65) (Operand.const (Value.bool false)), type := 4, pos := "law.go:125", after := #[{ on := 8, ground := Ground.data }, { on := 11, ground := Ground.data }], guard := none }) (v := ?_) rfl (by kernel_rfl) (by kernel_rfl) (by kernel_rfl) (fun _ _ _ h => h) (Or.inl ⟨by kernel_rfl, ?_⟩) (by assumption) ?_
 rotate_left
 focus
  intro w hSw
  (try dsimp only at hSw)
  go_simp
  all_goals (try with_reducible rfl)
 simp only [Act.put, List.setIfInBounds_toArray, List.set_cons_zero, List.set_cons_succ]
 refine wpAnyH_take (i := 13) (oi := { dst := some 67, op := Op.move (Operand.tmp 66), type := 4, pos := "law.go:125", after := #[{ on := 12, ground := Ground.data }, { on := 11, ground := Ground.chain }], guard := none }) (v := ?_) rfl (by kernel_rfl) (by kernel_rfl) (by kernel_rfl) (fun _ _ _ h => h) (Or.inl ⟨by kernel_rfl, ?_⟩) (by assumption) ?_
 rotate_left
 focus
  intro w hSw
  (try dsimp only at hSw)
  go_simp
  all_goals (try with_reducible rfl)
 simp only [Act.put, List.setIfInBounds_toArray, List.set_cons_zero, List.set_cons_succ]
 refine wpAnyH_take (i := 14) (oi := { dst := some 68, op := Op.move (Operand.tmp 6), type := 31, pos := "law.go:125", after := #[{ on := 13, ground := Ground.guard }], guard := some (13, true) }) (v := ?_) rfl (by kernel_rfl) (by kernel_rfl) (by kernel_rfl) (fun _ _ _ h => h) (Or.inl ⟨by kernel_rfl, ?_⟩) (by assumption) ?_
 rotate_left
 focus
  intro w hSw
  (try dsimp only at hSw)
  go_simp
  all_goals (try with_reducible rfl)
 simp only [Act.put, List.setIfInBounds_toArray, List.set_cons_zero, List.set_cons_succ]
 refine wpAnyH_take (i := 15) (oi := { dst := some 69, op := Op.move (Operand.tmp 12), type := 31, pos := "law.go:125", after := #[{ on := 13, ground := Ground.guard }], guard := some (13, true) }) (v := ?_) rfl (by kernel_rfl) (by kernel_rfl) (by kernel_rfl) (fun _ _ _ h => h) (Or.inl ⟨by kernel_rfl, ?_⟩) (by assumption) ?_
 rotate_left
 focus
  intro w hSw
  (try dsimp only at hSw)
  go_simp
  all_goals (try with_reducible rfl)
 simp only [Act.put, List.setIfInBounds_toArray, List.set_cons_zero, List.set_cons_succ]
 refine wpAnyH_ready (rs := [16]) (by kernel_rfl) (by simp) ?_
 refine AllReadyH.cons (o := { dst := some 70, op := Op.call { callee := Callee.value (Operand.func 20), args := #[Operand.tmp 68, Operand.tmp 69], argTypes := #[31, 31] }, type := 4, pos := "law.go:125", after := #[{ on := 14, ground := Ground.data }, { on := 15, ground := Ground.data }, { on := 13, ground := Ground.chain }, { on := 13, ground := Ground.guard }], guard := some (13, true) }) rfl (fun K hK => ?_) AllReadyH.nil
 go_simp
 refine (SB _ hbSA.out).mono ?_
 (rintro e waSB ⟨rfl, hbSB⟩)
 go_wp2_with fail
 refine hK.out _ _ ?_ (fun hHeld2 => ?_)
 ·(try dsimp only); exact HC.out _ hbSB.out
 clear hK K hHeld
 have hHeld := hHeld2
 clear hHeld2
 simp only [List.setIfInBounds_toArray, List.set_cons_zero, List.set_cons_succ]
 refine wpAnyH_take (i := 17) (oi := { dst := some 71, op := Op.pick (Operand.tmp 67) (Operand.tmp 70) (Operand.const (Value.bool false)), type := 4, pos := "law.go:125", after := #[{ on := 13, ground := Ground.data }, { on := 16, ground := Ground.data }], guard := none }) (v := ?_) rfl (by kernel_rfl) (by kernel_rfl) (by kernel_rfl) (fun _ _ _ h => h) (Or.inl ⟨by kernel_rfl, ?_⟩) (by assumption) ?_
 rotate_left
 focus
  intro w hSw
  (try dsimp only at hSw)
  go_simp
  all_goals (try with_reducible rfl)
 simp only [Act.put, List.setIfInBounds_toArray, List.set_cons_zero, List.set_cons_succ]
 refine wpAnyH_take (i := 18) (oi := { dst := some 72, op := Op.move (Operand.tmp 71), type := 4, pos := "law.go:125", after := #[{ on := 17, ground := Ground.data }, { on := 16, ground := Ground.chain }], guard := none }) (v := ?_) rfl (by kernel_rfl) (by kernel_rfl) (by kernel_rfl) (fun _ _ _ h => h) (Or.inl ⟨by kernel_rfl, ?_⟩) (by assumption) ?_
 rotate_left
 focus
  intro w hSw
  (try dsimp only at hSw)
  go_simp
  all_goals (try with_reducible rfl)
 simp only [Act.put, List.setIfInBounds_toArray, List.set_cons_zero, List.set_cons_succ]
 refine wpAnyH_take (i := 19) (oi := { dst := some 73, op := Op.move (Operand.tmp 3), type := 26, pos := "law.go:125", after := #[{ on := 18, ground := Ground.guard }], guard := some (18, true) }) (v := ?_) rfl (by kernel_rfl) (by kernel_rfl) (by kernel_rfl) (fun _ _ _ h => h) (Or.inl ⟨by kernel_rfl, ?_⟩) (by assumption) ?_
 rotate_left
 focus
  intro w hSw
  (try dsimp only at hSw)
  go_simp
  all_goals (try with_reducible rfl)
 simp only [Act.put, List.setIfInBounds_toArray, List.set_cons_zero, List.set_cons_succ]
 refine wpAnyH_take (i := 22) (oi := { dst := some 76, op := Op.move (Operand.tmp 4), type := 28, pos := "law.go:125", after := #[{ on := 18, ground := Ground.guard }], guard := some (18, true) }) (v := ?_) rfl (by kernel_rfl) (by kernel_rfl) (by kernel_rfl) (fun _ _ _ h => h) (Or.inl ⟨by kernel_rfl, ?_⟩) (by assumption) ?_
 rotate_left
 focus
  intro w hSw
  (try dsimp only at hSw)
  go_simp
  all_goals (try with_reducible rfl)
 simp only [Act.put, List.setIfInBounds_toArray, List.set_cons_zero, List.set_cons_succ]
 refine wpAnyH_take (i := 23) (oi := { dst := some 77, op := Op.nilCheck (Operand.tmp 76), type := 0, pos := "law.go:125", after := #[{ on := 22, ground := Ground.data }, { on := 18, ground := Ground.guard }], guard := some (18, true) }) (v := ?_) rfl (by kernel_rfl) (by kernel_rfl) (by kernel_rfl) (fun _ _ _ h => h) (Or.inl ⟨by kernel_rfl, ?_⟩) (by assumption) ?_
 rotate_left
 focus
  intro w hSw
  (try dsimp only at hSw)
  go_simp
  all_goals (try with_reducible rfl)
 simp only [Act.put, List.setIfInBounds_toArray, List.set_cons_zero, List.set_cons_succ]
 refine wpAnyH_take (i := 24) (oi := { dst := some 78, op := Op.fieldAddr 57 (Operand.tmp 77) 0, type := 0, pos := "law.go:125", after := #[{ on := 23, ground := Ground.data }, { on := 18, ground := Ground.guard }], guard := some (18, true) }) (v := ?_) rfl (by kernel_rfl) (by kernel_rfl) (by kernel_rfl) (fun _ _ _ h => h) (Or.inl ⟨by kernel_rfl, ?_⟩) (by assumption) ?_
 rotate_left
 focus
  intro w hSw
  (try dsimp only at hSw)
  go_simp
  all_goals (try with_reducible rfl)
 simp only [Act.put, List.setIfInBounds_toArray, List.set_cons_zero, List.set_cons_succ]
 refine wpAnyH_take (i := 25) (oi := { dst := some 79, op := Op.load 54 (Operand.tmp 78), type := 54, pos := "law.go:125", after := #[{ on := 24, ground := Ground.data }, { on := 18, ground := Ground.guard }], guard := some (18, true) }) (v := ?_) rfl (by kernel_rfl) (by kernel_rfl) (by kernel_rfl) (fun _ _ _ h => h) (Or.inl ⟨by kernel_rfl, ?_⟩) (by assumption) ?_
 rotate_left
 focus
  intro w hSw
  (try dsimp only at hSw)
  go_simp
  all_goals (try with_reducible rfl)
 simp only [Act.put, List.setIfInBounds_toArray, List.set_cons_zero, List.set_cons_succ]
 refine wpAnyH_take (i := 26) (oi := { dst := some 80, op := Op.convert 54 9 (Operand.tmp 79), type := 9, pos := "law.go:125", after := #[{ on := 25, ground := Ground.data }, { on := 18, ground := Ground.guard }], guard := some (18, true) }) (v := ?_) rfl (by kernel_rfl) (by kernel_rfl) (by kernel_rfl) (fun _ _ _ h => h) (Or.inl ⟨by kernel_rfl, ?_⟩) (by assumption) ?_
 rotate_left
 focus
  intro w hSw
  (try dsimp only at hSw)
  go_simp
  all_goals (try with_reducible rfl)
 simp only [Act.put, List.setIfInBounds_toArray, List.set_cons_zero, List.set_cons_succ]
 refine wpAnyH_ready (rs := [20]) (by kernel_rfl) (by simp) ?_
 refine AllReadyH.cons (o := { dst := some 74, op := Op.call { callee := Callee.value (Operand.func 21), args := #[Operand.tmp 73], argTypes := #[26] }, type := 54, pos := "law.go:125", after := #[{ on := 19, ground := Ground.data }, { on := 18, ground := Ground.chain }, { on := 18, ground := Ground.guard }], guard := some (18, true) }) rfl (fun K hK => ?_) AllReadyH.nil
 go_simp
 refine (RD _ hbSB.out).mono ?_
 (rintro e waR ⟨vR, rfl, hbR, hcR⟩)
 go_wp2_with fail
 refine hK.out _ _ ?_ (fun hHeld2 => ?_)
 ·(try dsimp only); exact HC.out _ hbR.out
 clear hK K hHeld
 have hHeld := hHeld2
 clear hHeld2
 simp only [List.setIfInBounds_toArray, List.set_cons_zero, List.set_cons_succ]
 refine wpAnyH_ready (rs := [21]) (by kernel_rfl) (by simp) ?_
 refine AllReadyH.cons (o := { dst := some 75, op := Op.convert 54 9 (Operand.tmp 74), type := 9, pos := "law.go:125", after := #[{ on := 20, ground := Ground.data }, { on := 18, ground := Ground.guard }], guard := some (18, true) }) rfl (fun K hK => ?_) AllReadyH.nil
 go_simp
 refine hK.out _ _ ?_ (fun hHeld2 => ?_)
 ·(try dsimp only); exact HC.out _ hbR.out
 clear hK K hHeld
 have hHeld := hHeld2
 clear hHeld2
 simp only [List.setIfInBounds_toArray, List.set_cons_zero, List.set_cons_succ]
 refine wpAnyH_take (i := 27) (oi := { dst := some 81, op := Op.binOp BinOp.eql 9 (Operand.tmp 75) (Operand.tmp 80) 9, type := 4, pos := "law.go:125", after := #[{ on := 21, ground := Ground.data }, { on := 26, ground := Ground.data }, { on := 18, ground := Ground.guard }], guard := some (18, true) }) (v := ?_) rfl (by kernel_rfl) (by kernel_rfl) (by kernel_rfl) (fun _ _ _ h => h) (Or.inl ⟨by kernel_rfl, ?_⟩) (by assumption) ?_
 rotate_left
 focus
  intro w hSw
  (try dsimp only at hSw)
  go_simp
  all_goals (try with_reducible rfl)
 simp only [Act.put, List.setIfInBounds_toArray, List.set_cons_zero, List.set_cons_succ]
 refine wpAnyH_take (i := 28) (oi := { dst := some 82, op := Op.pick (Operand.tmp 72) (Operand.tmp 81) (Operand.const (Value.bool false)), type := 4, pos := "law.go:125", after := #[{ on := 18, ground := Ground.data }, { on := 27, ground := Ground.data }], guard := none }) (v := ?_) rfl (by kernel_rfl) (by kernel_rfl) (by kernel_rfl) (fun _ _ _ h => h) (Or.inl ⟨by kernel_rfl, ?_⟩) (by assumption) ?_
 rotate_left
 focus
  intro w hSw
  (try dsimp only at hSw)
  go_simp
  all_goals (try with_reducible rfl)
 simp only [Act.put, List.setIfInBounds_toArray, List.set_cons_zero, List.set_cons_succ]
 refine wpAnyH_take (i := 29) (oi := { dst := some 2, op := Op.assign (Operand.tmp 82), type := 4, pos := "law.go:125", after := #[{ on := 28, ground := Ground.data }, { on := 20, ground := Ground.chain }, { on := 0, ground := Ground.phase }, { on := 1, ground := Ground.phase }, { on := 2, ground := Ground.phase }, { on := 3, ground := Ground.phase }, { on := 4, ground := Ground.phase }, { on := 5, ground := Ground.phase }, { on := 6, ground := Ground.phase }, { on := 7, ground := Ground.phase }, { on := 8, ground := Ground.phase }, { on := 9, ground := Ground.phase }, { on := 10, ground := Ground.phase }, { on := 11, ground := Ground.phase }, { on := 12, ground := Ground.phase }, { on := 13, ground := Ground.phase }, { on := 14, ground := Ground.phase }, { on := 15, ground := Ground.phase }, { on := 16, ground := Ground.phase }, { on := 17, ground := Ground.phase }, { on := 18, ground := Ground.phase }, { on := 19, ground := Ground.phase }, { on := 20, ground := Ground.phase }, { on := 21, ground := Ground.phase }, { on := 22, ground := Ground.phase }, { on := 23, ground := Ground.phase }, { on := 24, ground := Ground.phase }, { on := 25, ground := Ground.phase }, { on := 26, ground := Ground.phase }, { on := 27, ground := Ground.phase }, { on := 28, ground := Ground.phase }], guard := none }) (v := ?_) rfl (by kernel_rfl) (by kernel_rfl) (by kernel_rfl) (fun _ _ _ h => h) (Or.inl ⟨by kernel_rfl, ?_⟩) (by assumption) ?_
 rotate_left
 focus
  intro w hSw
  (try dsimp only at hSw)
  go_simp
  all_goals (try with_reducible rfl)
 simp only [Act.put, List.setIfInBounds_toArray, List.set_cons_zero, List.set_cons_succ]
 refine wpAnyH_done (by kernel_rfl) ?_ _
 go_wp2
 go_ret
 exact ⟨rfl, G9.out.trans (hbR.out.mono G9.out.size)⟩
end Go.Proofs.YtlcjllgfpfldlaaGreat.wal
