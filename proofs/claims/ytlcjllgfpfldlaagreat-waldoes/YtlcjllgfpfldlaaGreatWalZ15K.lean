/-
 The contracts of the chapter's own disk.
 The contract of the chapter's own Append.
 The contracts of the chapter's own Cut and Crash.
-/
import Derived.Test.YtlcjllgfpfldlaaGreatWalZ13K
set_option maxHeartbeats 4000000
open Go.ChangeShapes Go.WideShapes Go.ChangeAt Go.RowKit Go.Deep
set_option linter.unusedVariables false
set_option maxRecDepth 100000
set_option linter.unusedSimpArgs false
namespace Go.Proofs.YtlcjllgfpfldlaaGreat
namespace disk
open bytes
theorem refHalt_any (B k : Nat) (n : Int) (v : Value) (d : Dk) (w : World) (h : DkIn 57 B w k v d) (hn : n ≤ 9223372036854775807) :
  Calls Tryz.prog 17 #[.pointer (some ⟨k, 0, none⟩), .int .i64 n] w fun e w' => e = .returned (.tuple #[]) ∧ DkIn 57 B w' k v (halt n d) ∧ Gd k w v w' v := by
 have c3 := h.c3
 have z3 := h.box.frz 3
 have HR : Aside (∀ m, max n (-1) = m → DkIn 57 B (w.setCell ⟨k, 3, none⟩ (.int .i64 m)) k v (halt n d) ∧ Gd k w v (w.setCell ⟨k, 3, none⟩ (.int .i64 m)) v) := fun m hm => by
  subst hm
  exact ⟨h.set_left tk2 _ ⟨by omega, by omega⟩, Gd.set k 3 _ _ _⟩
 clear h
 generalize halt n d = d2 at HR ⊢
 generalize d.left = l at c3
 go_enter Tryz.func17, Tryz.ntmps17
 go_wp2
 all_goals go_end0
 all_goals exact ⟨rfl, HR.out _ (by omega)⟩

theorem new_box2 {T : TypeId} (w : World) (m : Nat) (h : m ≤ 1048576) (B : Nat) (hB : B ≤ w.heap.size) : DkIn T B (w.alloc (.cells #[.slice none 0 0, .int .i64 0, .int .i64 (m : Nat), .int .i64 (-1)] T)) w.heap.size (.slice none 0 0) (new m) :=
 ⟨bytes.Boxed.new w _ _, hB, Bs.none _ _, Fit.new h⟩
theorem refNew_any (B m : Nat) (w : World) (h : m ≤ 1048576) (hB : B ≤ w.heap.size) :
  Calls Tryz.prog 8 #[.int .i64 (m : Nat)] w fun e w' => e = .returned (.pointer (some ⟨w.heap.size, 0, none⟩)) ∧ DkIn 57 B w' w.heap.size (.slice none 0 0) (new m) ∧ Below w.heap.size w w' := by
 have HR : Aside (DkIn 57 B (w.alloc (.cells #[.slice none 0 0, .int .i64 0, .int .i64 (m : Nat), .int .i64 (-1)] 57)) w.heap.size (.slice none 0 0) (new m)) := new_box2 w m h B hB
 have h0 : ¬ (m : Int) < 0 := by omega
 have h1 : ¬ 1048576 < (m : Int) := by omega
 go_enter Tryz.func8, Tryz.ntmps8
 go_wp2
 go_ret
 exact ⟨rfl, HR.out, by (repeat (first | with_reducible exact Below.refl _ _ | (with_reducible refine Below.drew ?_) | (with_reducible refine Below.alloc ?_ (by first | omega | (simp; done) | (simp; omega)) _) | (with_reducible refine Below.setCell ?_ (by first | exact Nat.le_refl _ | omega | (simp; done) | (simp; omega)) _)))⟩

theorem refCall_any (B k : Nat) (v : Value) (d : Dk) (w : World) (h : DkIn 57 B w k v d) :
  Calls Tryz.prog 46 #[.pointer (some ⟨k, 0, none⟩)] w fun e w' => e = .returned (.bool (!decide (d.left = 0))) ∧ DkIn 57 B w' k v (tick d) ∧ Gd k w v w' v ∧ w.grownBy w' (some k) := by
 have c3 := h.c3
 have z3 := h.box.frz 3
 have hl := h.fit.left
 have g0 : w.grownBy w (some k) := ⟨rfl, rfl, rfl, Nat.le_refl _, fun _ _ _ => rfl⟩
 by_cases h0 : d.left = 0
 ·have HR : Aside (DkIn 57 B w k v (tick d) ∧ Gd k w v w v ∧ w.grownBy w (some k)) := by
   have e : tick d = d := by unfold tick less; rw [if_neg (by omega)]
   rw [e]; exact ⟨h, Gd.refl _ _ _, g0⟩
  rw [h0] at c3 ⊢
  clear h
  go_enter Tryz.func46, Tryz.ntmps46
  go_wp2
  go_ret
  exact ⟨rfl, HR.out⟩
 ·by_cases h1 : 0 < d.left
  ·have HR : Aside (DkIn 57 B (w.setCell ⟨k, 3, none⟩ (.int .i64 (d.left - 1))) k v (tick d) ∧ Gd k w v (w.setCell ⟨k, 3, none⟩ (.int .i64 (d.left - 1))) v ∧ w.grownBy (w.setCell ⟨k, 3, none⟩ (.int .i64 (d.left - 1))) (some k)) := by
    have e : tick d = ⟨d.b, d.lasts, d.room, d.left - 1⟩ := by unfold tick less; rw [if_pos (by omega)]
    rw [e]
    exact ⟨h.set_left tk2 _ ⟨by omega, by omega⟩, Gd.set k 3 _ _ _, rfl, rfl, rfl, by simp [World.setCell], fun i _ hi => Below.heap_setCell _ _ _ i fun e => hi (by rw [e])⟩
   have hd : (!decide (d.left = 0)) = true := by simp [h0]
   rw [hd]
   clear h hd
   generalize d.left = n at *
   go_enter Tryz.func46, Tryz.ntmps46
   go_wp2
   go_ret
   exact ⟨rfl, HR.out⟩
  ·have HR : Aside (DkIn 57 B w k v (tick d) ∧ Gd k w v w v ∧ w.grownBy w (some k)) := by
    have e : tick d = d := by unfold tick less; rw [if_neg (by omega)]
    rw [e]; exact ⟨h, Gd.refl _ _ _, g0⟩
   have hd : (!decide (d.left = 0)) = true := by simp [h0]
   rw [hd]
   have hm1 : d.left = -1 := by omega
   rw [hm1] at c3
   clear h hd
   go_enter Tryz.func46, Tryz.ntmps46
   go_wp2
   go_ret
   exact ⟨rfl, HR.out⟩

theorem refSync_any (B k : Nat) (v : Value) (d : Dk) (w : World) (h : DkIn 57 B w k v d) :
  Calls Tryz.prog 31 #[.pointer (some ⟨k, 0, none⟩)] w fun e w' => e = .returned (.int .i64 ((sync d).2 : Nat)) ∧ ∃ v', DkIn 57 B w' k v' (sync d).1 ∧ Gd k w v w' v' := by
 have hC := refCall_any B k v d w h
 by_cases h0 : d.left = 0
 ·rw [sync_halted h0]
  have ht : tick d = d := by unfold tick less; rw [if_neg (by omega)]
  rw [ht] at hC
  have hd : (!decide (d.left = 0)) = false := by simp [h0]
  rw [hd] at hC
  clear h
  go_enter Tryz.func31, Tryz.ntmps31
  go_wp2_with (go_at_call 46; refine hC.mono ?_; rintro e w2 ⟨rfl, h2, g2, gg2⟩)
  go_ret
  exact ⟨rfl, v, h2, g2⟩
 ·have e : sync d = (⟨d.b, d.b.length, d.room, less d.left⟩, 0) := by unfold sync; rw [if_neg h0]
  rw [e]
  have hd : (!decide (d.left = 0)) = true := by simp [h0]
  rw [hd] at hC
  obtain ⟨va, vc, rfl⟩ := h.own.form
  clear h
  go_enter Tryz.func31, Tryz.ntmps31
  go_wp2_with (go_at_call 46; refine hC.mono ?_; rintro e w2 ⟨rfl, h2, g2, gg2⟩; have q0 : w2.cell? ⟨k, 0, none⟩ = some (.slice va d.b.length vc) := h2.c0; have z1 := h2.box.frz 1; have q1 := h2.c1)
  go_ret
  exact ⟨rfl, _, DkIn.set_lasts h2 tk2 d.b.length (Nat.le_refl _), g2.trans (Gd.set k 1 _ _ _)⟩
theorem gr_boxed2 {b : Nat} {w w' : World} {v v' : Value} {cs : Array Value} {t : TypeId} (h : Gr w v w' v') (hb : bytes.Boxed w b cs t) (hv : some b ≠ v.ownBlock) : bytes.Boxed w' b cs t := (h.grown.block b hb.lt hv).trans hb
theorem refAppend_any (B k n c : Nat) (a : Option Addr) (y : List UInt8) (v : Value) (d : Dk) (w : World) (h : DkIn 57 B w k v d) (hS : Sl w a n c y) (hn2 : n ≤ 1000000000000000) :
  Calls Tryz.prog 23 #[.pointer (some ⟨k, 0, none⟩), .slice a n c] w fun e w' => e = .returned (.int .i64 ((app y d).2 : Nat)) ∧ ∃ v', DkIn 57 B w' k v' (app y d).1 ∧ Gd k w v w' v' := by
 have hn := hS.at_.len
 have HB : Aside (Below w.heap.size w w) := Below.refl _ _
 by_cases h0 : d.left = 0
 ·as_aux_lemma =>
  rw [app_halted h0]
  have ht : tick d = d := by unfold tick less; rw [if_neg (by omega)]
  have hd : (!decide (d.left = 0)) = false := by simp [h0]
  have hcl : ∀ W, Below w.heap.size w W → Calls Tryz.prog 46 #[.pointer (some ⟨k, 0, none⟩)] W fun e w' => e = .returned (.bool false) ∧ DkIn 57 B w' k v d ∧ Gd k w v w' v := fun W hW => by
   have := refCall_any B k v d W (h.keep hW)
   rw [ht, hd] at this
   exact this.mono fun e w' ⟨he, h1, h2, _⟩ => ⟨he, h1, (Gd.of_below k v hW).trans h2⟩
  clear h hd ht hS h0
  go_enter Tryz.func23, Tryz.ntmps23
  go_wp2_with fail
  refine wp_region_held_drew (S := fun W => True) (by kernel_rfl) ?_ (fun hHeld => ?_)
  ·(try dsimp only); skip
  change wpAnyH _ _ _ _ _ 18 #[false, false, false, false, false, false, false, false, false, false, false, false, false, false, false, false, false, false] _ _
  refine wpAnyH_take (i := 0) (oi := { dst := some 5, op := Op.move (Operand.tmp 0), type := 28, pos := "ref.go:38", after := #[], guard := none }) (v := ?_) rfl (by kernel_rfl) (by kernel_rfl) (by kernel_rfl) (fun _ _ _ h => h) (Or.inl ⟨by kernel_rfl, ?_⟩) (by assumption) ?_
  rotate_left
  focus
   intro w hSw
   (try dsimp only at hSw)
   go_simp
   all_goals (try with_reducible rfl)
  simp only [Act.put, List.setIfInBounds_toArray, List.set_cons_zero, List.set_cons_succ]
  refine wpAnyH_ready (rs := [1]) (by kernel_rfl) (by simp) ?_
  refine AllReadyH.cons (o := { dst := some 6, op := Op.call { callee := Callee.value (Operand.func 46), args := #[Operand.tmp 5], argTypes := #[28] }, type := 4, pos := "ref.go:38", after := #[{ on := 0, ground := Ground.data }], guard := none }) rfl (fun K hK => ?_) AllReadyH.nil
  go_simp
  refine (hcl _ (HB.out.drew)).mono ?_
  (rintro e w2 ⟨rfl, h2, g2⟩)
  go_wp2_with fail
  refine hK.out _ _ ?_ (fun hHeld2 => ?_)
  ·(try dsimp only); skip
  clear hK K hHeld
  have hHeld := hHeld2
  clear hHeld2
  simp only [List.setIfInBounds_toArray, List.set_cons_zero, List.set_cons_succ]
  refine wpAnyH_take (i := 2) (oi := { dst := some 7, op := Op.unOp UnOp.not 4 (Operand.tmp 6), type := 4, pos := "ref.go:38", after := #[{ on := 1, ground := Ground.data }], guard := none }) (v := ?_) rfl (by kernel_rfl) (by kernel_rfl) (by kernel_rfl) (fun _ _ _ h => h) (Or.inl ⟨by kernel_rfl, ?_⟩) (by assumption) ?_
  rotate_left
  focus
   intro w hSw
   (try dsimp only at hSw)
   go_simp
   all_goals (try with_reducible rfl)
  simp only [Act.put, List.setIfInBounds_toArray, List.set_cons_zero, List.set_cons_succ]
  refine wpAnyH_take (i := 3) (oi := { dst := some 8, op := Op.move (Operand.tmp 7), type := 4, pos := "ref.go:38", after := #[{ on := 2, ground := Ground.data }, { on := 1, ground := Ground.chain }], guard := none }) (v := ?_) rfl (by kernel_rfl) (by kernel_rfl) (by kernel_rfl) (fun _ _ _ h => h) (Or.inl ⟨by kernel_rfl, ?_⟩) (by assumption) ?_
  rotate_left
  focus
   intro w hSw
   (try dsimp only at hSw)
   go_simp
   all_goals (try with_reducible rfl)
  simp only [Act.put, List.setIfInBounds_toArray, List.set_cons_zero, List.set_cons_succ]
  refine wpAnyH_take (i := 4) (oi := { dst := some 9, op := Op.move (Operand.tmp 0), type := 28, pos := "ref.go:38", after := #[{ on := 3, ground := Ground.guard }], guard := some (3, false) }) (v := undef) rfl (by kernel_rfl) (by kernel_rfl) (by kernel_rfl) (fun _ _ _ h => h) (Or.inr ⟨by kernel_rfl, rfl⟩) (by assumption) ?_
  simp only [Act.put, List.setIfInBounds_toArray, List.set_cons_zero, List.set_cons_succ]
  refine wpAnyH_take (i := 5) (oi := { dst := some 10, op := Op.nilCheck (Operand.tmp 9), type := 0, pos := "ref.go:38", after := #[{ on := 4, ground := Ground.data }, { on := 3, ground := Ground.guard }], guard := some (3, false) }) (v := undef) rfl (by kernel_rfl) (by kernel_rfl) (by kernel_rfl) (fun _ _ _ h => h) (Or.inr ⟨by kernel_rfl, rfl⟩) (by assumption) ?_
  simp only [Act.put, List.setIfInBounds_toArray, List.set_cons_zero, List.set_cons_succ]
  refine wpAnyH_take (i := 6) (oi := { dst := some 11, op := Op.fieldAddr 57 (Operand.tmp 10) 0, type := 0, pos := "ref.go:38", after := #[{ on := 5, ground := Ground.data }, { on := 3, ground := Ground.guard }], guard := some (3, false) }) (v := undef) rfl (by kernel_rfl) (by kernel_rfl) (by kernel_rfl) (fun _ _ _ h => h) (Or.inr ⟨by kernel_rfl, rfl⟩) (by assumption) ?_
  simp only [Act.put, List.setIfInBounds_toArray, List.set_cons_zero, List.set_cons_succ]
  refine wpAnyH_take (i := 7) (oi := { dst := some 12, op := Op.load 54 (Operand.tmp 11), type := 54, pos := "ref.go:38", after := #[{ on := 6, ground := Ground.data }, { on := 3, ground := Ground.guard }], guard := some (3, false) }) (v := undef) rfl (by kernel_rfl) (by kernel_rfl) (by kernel_rfl) (fun _ _ _ h => h) (Or.inr ⟨by kernel_rfl, rfl⟩) (by assumption) ?_
  simp only [Act.put, List.setIfInBounds_toArray, List.set_cons_zero, List.set_cons_succ]
  refine wpAnyH_take (i := 8) (oi := { dst := some 13, op := Op.call { callee := Callee.builtin Builtin.len, args := #[Operand.tmp 12], argTypes := #[54] }, type := 3, pos := "ref.go:38", after := #[{ on := 7, ground := Ground.data }, { on := 3, ground := Ground.guard }], guard := some (3, false) }) (v := undef) rfl (by kernel_rfl) (by kernel_rfl) (by kernel_rfl) (fun _ _ _ h => h) (Or.inr ⟨by kernel_rfl, rfl⟩) (by assumption) ?_
  simp only [Act.put, List.setIfInBounds_toArray, List.set_cons_zero, List.set_cons_succ]
  refine wpAnyH_take (i := 9) (oi := { dst := some 14, op := Op.move (Operand.tmp 1), type := 54, pos := "ref.go:38", after := #[{ on := 3, ground := Ground.guard }], guard := some (3, false) }) (v := undef) rfl (by kernel_rfl) (by kernel_rfl) (by kernel_rfl) (fun _ _ _ h => h) (Or.inr ⟨by kernel_rfl, rfl⟩) (by assumption) ?_
  simp only [Act.put, List.setIfInBounds_toArray, List.set_cons_zero, List.set_cons_succ]
  refine wpAnyH_take (i := 10) (oi := { dst := some 15, op := Op.call { callee := Callee.builtin Builtin.len, args := #[Operand.tmp 14], argTypes := #[54] }, type := 3, pos := "ref.go:38", after := #[{ on := 9, ground := Ground.data }, { on := 3, ground := Ground.guard }], guard := some (3, false) }) (v := undef) rfl (by kernel_rfl) (by kernel_rfl) (by kernel_rfl) (fun _ _ _ h => h) (Or.inr ⟨by kernel_rfl, rfl⟩) (by assumption) ?_
  simp only [Act.put, List.setIfInBounds_toArray, List.set_cons_zero, List.set_cons_succ]
  refine wpAnyH_take (i := 11) (oi := { dst := some 16, op := Op.binOp BinOp.add 3 (Operand.tmp 13) (Operand.tmp 15) 3, type := 3, pos := "ref.go:38", after := #[{ on := 8, ground := Ground.data }, { on := 10, ground := Ground.data }, { on := 3, ground := Ground.guard }], guard := some (3, false) }) (v := undef) rfl (by kernel_rfl) (by kernel_rfl) (by kernel_rfl) (fun _ _ _ h => h) (Or.inr ⟨by kernel_rfl, rfl⟩) (by assumption) ?_
  simp only [Act.put, List.setIfInBounds_toArray, List.set_cons_zero, List.set_cons_succ]
  refine wpAnyH_take (i := 12) (oi := { dst := some 17, op := Op.move (Operand.tmp 0), type := 28, pos := "ref.go:38", after := #[{ on := 3, ground := Ground.guard }], guard := some (3, false) }) (v := undef) rfl (by kernel_rfl) (by kernel_rfl) (by kernel_rfl) (fun _ _ _ h => h) (Or.inr ⟨by kernel_rfl, rfl⟩) (by assumption) ?_
  simp only [Act.put, List.setIfInBounds_toArray, List.set_cons_zero, List.set_cons_succ]
  refine wpAnyH_take (i := 13) (oi := { dst := some 18, op := Op.nilCheck (Operand.tmp 17), type := 0, pos := "ref.go:38", after := #[{ on := 12, ground := Ground.data }, { on := 3, ground := Ground.guard }], guard := some (3, false) }) (v := undef) rfl (by kernel_rfl) (by kernel_rfl) (by kernel_rfl) (fun _ _ _ h => h) (Or.inr ⟨by kernel_rfl, rfl⟩) (by assumption) ?_
  simp only [Act.put, List.setIfInBounds_toArray, List.set_cons_zero, List.set_cons_succ]
  refine wpAnyH_take (i := 14) (oi := { dst := some 19, op := Op.fieldAddr 57 (Operand.tmp 18) 2, type := 0, pos := "ref.go:38", after := #[{ on := 13, ground := Ground.data }, { on := 3, ground := Ground.guard }], guard := some (3, false) }) (v := undef) rfl (by kernel_rfl) (by kernel_rfl) (by kernel_rfl) (fun _ _ _ h => h) (Or.inr ⟨by kernel_rfl, rfl⟩) (by assumption) ?_
  simp only [Act.put, List.setIfInBounds_toArray, List.set_cons_zero, List.set_cons_succ]
  refine wpAnyH_take (i := 15) (oi := { dst := some 20, op := Op.load 3 (Operand.tmp 19), type := 3, pos := "ref.go:38", after := #[{ on := 14, ground := Ground.data }, { on := 3, ground := Ground.guard }], guard := some (3, false) }) (v := undef) rfl (by kernel_rfl) (by kernel_rfl) (by kernel_rfl) (fun _ _ _ h => h) (Or.inr ⟨by kernel_rfl, rfl⟩) (by assumption) ?_
  simp only [Act.put, List.setIfInBounds_toArray, List.set_cons_zero, List.set_cons_succ]
  refine wpAnyH_take (i := 16) (oi := { dst := some 21, op := Op.binOp BinOp.gtr 3 (Operand.tmp 16) (Operand.tmp 20) 3, type := 4, pos := "ref.go:38", after := #[{ on := 11, ground := Ground.data }, { on := 15, ground := Ground.data }, { on := 3, ground := Ground.guard }], guard := some (3, false) }) (v := undef) rfl (by kernel_rfl) (by kernel_rfl) (by kernel_rfl) (fun _ _ _ h => h) (Or.inr ⟨by kernel_rfl, rfl⟩) (by assumption) ?_
  simp only [Act.put, List.setIfInBounds_toArray, List.set_cons_zero, List.set_cons_succ]
  refine wpAnyH_take (i := 17) (oi := { dst := some 22, op := Op.pick (Operand.tmp 8) (Operand.const (Value.bool true)) (Operand.tmp 21), type := 4, pos := "ref.go:38", after := #[{ on := 3, ground := Ground.data }, { on := 16, ground := Ground.data }], guard := none }) (v := ?_) rfl (by kernel_rfl) (by kernel_rfl) (by kernel_rfl) (fun _ _ _ h => h) (Or.inl ⟨by kernel_rfl, ?_⟩) (by assumption) ?_
  rotate_left
  focus
   intro w hSw
   (try dsimp only at hSw)
   go_simp
   all_goals (try with_reducible rfl)
  simp only [Act.put, List.setIfInBounds_toArray, List.set_cons_zero, List.set_cons_succ]
  refine wpAnyH_done (by kernel_rfl) ?_ _
  go_wp2
  go_ret
  exact ⟨rfl, v, h2, g2⟩
 ·have hd : (!decide (d.left = 0)) = true := by simp [h0]
  have hm := h.len_max
  have hmr := h.fit.room
  obtain ⟨va, vc, hv⟩ := h.own.form
  have hcl : ∀ W, Below w.heap.size w W → Calls Tryz.prog 46 #[.pointer (some ⟨k, 0, none⟩)] W fun e w' => e = .returned (.bool true) ∧ DkIn 57 B w' k v (tick d) ∧ Gd k w v w' v ∧ Sl w' a n c y ∧ w'.cell? ⟨k, 0, none⟩ = some (.slice va d.b.length vc) ∧ w'.cell? ⟨k, 2, none⟩ = some (.int .i64 (d.room : Nat)) := fun W hW => by
   have := refCall_any B k v d W (h.keep hW)
   rw [hd] at this
   exact this.mono fun e w' ⟨he, h1, h2, h3⟩ => ⟨he, h1, (Gd.of_below k v hW).trans h2, (h.keep hW).far (hS.keep hW) h3, by rw [← hv]; exact h1.c0, h1.c2⟩
  have c0 : w.drew.cell? ⟨k, 0, none⟩ = some (.slice va d.b.length vc) := by rw [← hv]; exact h.c0
  have c2 : w.drew.cell? ⟨k, 2, none⟩ = some (.int .i64 (d.room : Nat)) := h.c2
  by_cases hr : d.room < d.b.length + y.length
  ·as_aux_lemma =>
   have e : app y d = (tick d, 100) := by unfold app; rw [if_neg h0, if_pos hr]
   rw [e]
   rw [hn] at hr
   clear h hS hd e hv h0 hn
   generalize tick d = d3 at hcl ⊢
   generalize d.b.length = q at *
   generalize d.room = r at *
   have hz : decide ((r : Int) < (q : Int) + (n : Int)) = true := decide_eq_true (by omega)
   have hw : IntKind.i64.wrap ((q : Int) + (n : Int)) = (q : Int) + (n : Int) := by rw [IntKind.wrap_i64]; omega
   go_enter Tryz.func23, Tryz.ntmps23
   go_wp2_with fail
   refine wp_region_held_drew (S := fun W => W.cell? ⟨k, 0, none⟩ = some (.slice va q vc) ∧ W.cell? ⟨k, 2, none⟩ = some (.int .i64 (r : Nat))) (by kernel_rfl) ?_ (fun hHeld => ?_)
   ·(try dsimp only); exact ⟨c0, c2⟩
   change wpAnyH _ _ _ _ _ 18 #[false, false, false, false, false, false, false, false, false, false, false, false, false, false, false, false, false, false] _ _
   refine wpAnyH_take (i := 0) (oi := { dst := some 5, op := Op.move (Operand.tmp 0), type := 28, pos := "ref.go:38", after := #[], guard := none }) (v := ?_) rfl (by kernel_rfl) (by kernel_rfl) (by kernel_rfl) (fun _ _ _ h => h) (Or.inl ⟨by kernel_rfl, ?_⟩) (by assumption) ?_
   rotate_left
   focus
    intro w hSw
    (try dsimp only at hSw)
    go_simp
    all_goals (try with_reducible rfl)
   simp only [Act.put, List.setIfInBounds_toArray, List.set_cons_zero, List.set_cons_succ]
   refine wpAnyH_ready (rs := [1]) (by kernel_rfl) (by simp) ?_
   refine AllReadyH.cons (o := { dst := some 6, op := Op.call { callee := Callee.value (Operand.func 46), args := #[Operand.tmp 5], argTypes := #[28] }, type := 4, pos := "ref.go:38", after := #[{ on := 0, ground := Ground.data }], guard := none }) rfl (fun K hK => ?_) AllReadyH.nil
   go_simp
   refine (hcl _ (HB.out.drew)).mono ?_
   (rintro e w2 ⟨rfl, h2, g2, S2, q0, q2⟩)
   go_wp2_with fail
   refine hK.out _ _ ?_ (fun hHeld2 => ?_)
   ·(try dsimp only); exact ⟨q0, q2⟩
   clear hK K hHeld
   have hHeld := hHeld2
   clear hHeld2
   simp only [List.setIfInBounds_toArray, List.set_cons_zero, List.set_cons_succ]
   refine wpAnyH_take (i := 2) (oi := { dst := some 7, op := Op.unOp UnOp.not 4 (Operand.tmp 6), type := 4, pos := "ref.go:38", after := #[{ on := 1, ground := Ground.data }], guard := none }) (v := ?_) rfl (by kernel_rfl) (by kernel_rfl) (by kernel_rfl) (fun _ _ _ h => h) (Or.inl ⟨by kernel_rfl, ?_⟩) (by assumption) ?_
   rotate_left
   focus
    intro w hSw
    (try dsimp only at hSw)
    go_simp
    all_goals (try with_reducible rfl)
   simp only [Act.put, List.setIfInBounds_toArray, List.set_cons_zero, List.set_cons_succ]
   refine wpAnyH_take (i := 3) (oi := { dst := some 8, op := Op.move (Operand.tmp 7), type := 4, pos := "ref.go:38", after := #[{ on := 2, ground := Ground.data }, { on := 1, ground := Ground.chain }], guard := none }) (v := ?_) rfl (by kernel_rfl) (by kernel_rfl) (by kernel_rfl) (fun _ _ _ h => h) (Or.inl ⟨by kernel_rfl, ?_⟩) (by assumption) ?_
   rotate_left
   focus
    intro w hSw
    (try dsimp only at hSw)
    go_simp
    all_goals (try with_reducible rfl)
   simp only [Act.put, List.setIfInBounds_toArray, List.set_cons_zero, List.set_cons_succ]
   refine wpAnyH_take (i := 4) (oi := { dst := some 9, op := Op.move (Operand.tmp 0), type := 28, pos := "ref.go:38", after := #[{ on := 3, ground := Ground.guard }], guard := some (3, false) }) (v := ?_) rfl (by kernel_rfl) (by kernel_rfl) (by kernel_rfl) (fun _ _ _ h => h) (Or.inl ⟨by kernel_rfl, ?_⟩) (by assumption) ?_
   rotate_left
   focus
    intro w hSw
    (try dsimp only at hSw)
    go_simp
    all_goals (try with_reducible rfl)
   simp only [Act.put, List.setIfInBounds_toArray, List.set_cons_zero, List.set_cons_succ]
   refine wpAnyH_take (i := 5) (oi := { dst := some 10, op := Op.nilCheck (Operand.tmp 9), type := 0, pos := "ref.go:38", after := #[{ on := 4, ground := Ground.data }, { on := 3, ground := Ground.guard }], guard := some (3, false) }) (v := ?_) rfl (by kernel_rfl) (by kernel_rfl) (by kernel_rfl) (fun _ _ _ h => h) (Or.inl ⟨by kernel_rfl, ?_⟩) (by assumption) ?_
   rotate_left
   focus
    intro w hSw
    (try dsimp only at hSw)
    go_simp
    all_goals (try with_reducible rfl)
   simp only [Act.put, List.setIfInBounds_toArray, List.set_cons_zero, List.set_cons_succ]
   refine wpAnyH_take (i := 6) (oi := { dst := some 11, op := Op.fieldAddr 57 (Operand.tmp 10) 0, type := 0, pos := "ref.go:38", after := #[{ on := 5, ground := Ground.data }, { on := 3, ground := Ground.guard }], guard := some (3, false) }) (v := ?_) rfl (by kernel_rfl) (by kernel_rfl) (by kernel_rfl) (fun _ _ _ h => h) (Or.inl ⟨by kernel_rfl, ?_⟩) (by assumption) ?_
   rotate_left
   focus
    intro w hSw
    (try dsimp only at hSw)
    go_simp
    all_goals (try with_reducible rfl)
   simp only [Act.put, List.setIfInBounds_toArray, List.set_cons_zero, List.set_cons_succ]
   refine wpAnyH_take (i := 7) (oi := { dst := some 12, op := Op.load 54 (Operand.tmp 11), type := 54, pos := "ref.go:38", after := #[{ on := 6, ground := Ground.data }, { on := 3, ground := Ground.guard }], guard := some (3, false) }) (v := ?_) rfl (by kernel_rfl) (by kernel_rfl) (by kernel_rfl) (fun _ _ _ h => h) (Or.inl ⟨by kernel_rfl, ?_⟩) (by assumption) ?_
   rotate_left
   focus
    intro w hSw
    (try dsimp only at hSw)
    go_simp
    all_goals (try with_reducible rfl)
   simp only [Act.put, List.setIfInBounds_toArray, List.set_cons_zero, List.set_cons_succ]
   refine wpAnyH_take (i := 8) (oi := { dst := some 13, op := Op.call { callee := Callee.builtin Builtin.len, args := #[Operand.tmp 12], argTypes := #[54] }, type := 3, pos := "ref.go:38", after := #[{ on := 7, ground := Ground.data }, { on := 3, ground := Ground.guard }], guard := some (3, false) }) (v := ?_) rfl (by kernel_rfl) (by kernel_rfl) (by kernel_rfl) (fun _ _ _ h => h) (Or.inl ⟨by kernel_rfl, ?_⟩) (by assumption) ?_
   rotate_left
   focus
    intro w hSw
    (try dsimp only at hSw)
    go_simp
    all_goals (try with_reducible rfl)
   simp only [Act.put, List.setIfInBounds_toArray, List.set_cons_zero, List.set_cons_succ]
   refine wpAnyH_take (i := 9) (oi := { dst := some 14, op := Op.move (Operand.tmp 1), type := 54, pos := "ref.go:38", after := #[{ on := 3, ground := Ground.guard }], guard := some (3, false) }) (v := ?_) rfl (by kernel_rfl) (by kernel_rfl) (by kernel_rfl) (fun _ _ _ h => h) (Or.inl ⟨by kernel_rfl, ?_⟩) (by assumption) ?_
   rotate_left
   focus
    intro w hSw
    (try dsimp only at hSw)
    go_simp
    all_goals (try with_reducible rfl)
   simp only [Act.put, List.setIfInBounds_toArray, List.set_cons_zero, List.set_cons_succ]
   refine wpAnyH_take (i := 10) (oi := { dst := some 15, op := Op.call { callee := Callee.builtin Builtin.len, args := #[Operand.tmp 14], argTypes := #[54] }, type := 3, pos := "ref.go:38", after := #[{ on := 9, ground := Ground.data }, { on := 3, ground := Ground.guard }], guard := some (3, false) }) (v := ?_) rfl (by kernel_rfl) (by kernel_rfl) (by kernel_rfl) (fun _ _ _ h => h) (Or.inl ⟨by kernel_rfl, ?_⟩) (by assumption) ?_
   rotate_left
   focus
    intro w hSw
    (try dsimp only at hSw)
    go_simp
    all_goals (try with_reducible rfl)
   simp only [Act.put, List.setIfInBounds_toArray, List.set_cons_zero, List.set_cons_succ]
   refine wpAnyH_take (i := 11) (oi := { dst := some 16, op := Op.binOp BinOp.add 3 (Operand.tmp 13) (Operand.tmp 15) 3, type := 3, pos := "ref.go:38", after := #[{ on := 8, ground := Ground.data }, { on := 10, ground := Ground.data }, { on := 3, ground := Ground.guard }], guard := some (3, false) }) (v := ?_) rfl (by kernel_rfl) (by kernel_rfl) (by kernel_rfl) (fun _ _ _ h => h) (Or.inl ⟨by kernel_rfl, ?_⟩) (by assumption) ?_
   rotate_left
   focus
    intro w hSw
    (try dsimp only at hSw)
    go_simp
    all_goals (try with_reducible rfl)
   simp only [Act.put, List.setIfInBounds_toArray, List.set_cons_zero, List.set_cons_succ]
   refine wpAnyH_take (i := 12) (oi := { dst := some 17, op := Op.move (Operand.tmp 0), type := 28, pos := "ref.go:38", after := #[{ on := 3, ground := Ground.guard }], guard := some (3, false) }) (v := ?_) rfl (by kernel_rfl) (by kernel_rfl) (by kernel_rfl) (fun _ _ _ h => h) (Or.inl ⟨by kernel_rfl, ?_⟩) (by assumption) ?_
   rotate_left
   focus
    intro w hSw
    (try dsimp only at hSw)
    go_simp
    all_goals (try with_reducible rfl)
   simp only [Act.put, List.setIfInBounds_toArray, List.set_cons_zero, List.set_cons_succ]
   refine wpAnyH_take (i := 13) (oi := { dst := some 18, op := Op.nilCheck (Operand.tmp 17), type := 0, pos := "ref.go:38", after := #[{ on := 12, ground := Ground.data }, { on := 3, ground := Ground.guard }], guard := some (3, false) }) (v := ?_) rfl (by kernel_rfl) (by kernel_rfl) (by kernel_rfl) (fun _ _ _ h => h) (Or.inl ⟨by kernel_rfl, ?_⟩) (by assumption) ?_
   rotate_left
   focus
    intro w hSw
    (try dsimp only at hSw)
    go_simp
    all_goals (try with_reducible rfl)
   simp only [Act.put, List.setIfInBounds_toArray, List.set_cons_zero, List.set_cons_succ]
   refine wpAnyH_take (i := 14) (oi := { dst := some 19, op := Op.fieldAddr 57 (Operand.tmp 18) 2, type := 0, pos := "ref.go:38", after := #[{ on := 13, ground := Ground.data }, { on := 3, ground := Ground.guard }], guard := some (3, false) }) (v := ?_) rfl (by kernel_rfl) (by kernel_rfl) (by kernel_rfl) (fun _ _ _ h => h) (Or.inl ⟨by kernel_rfl, ?_⟩) (by assumption) ?_
   rotate_left
   focus
    intro w hSw
    (try dsimp only at hSw)
    go_simp
    all_goals (try with_reducible rfl)
   simp only [Act.put, List.setIfInBounds_toArray, List.set_cons_zero, List.set_cons_succ]
   refine wpAnyH_take (i := 15) (oi := { dst := some 20, op := Op.load 3 (Operand.tmp 19), type := 3, pos := "ref.go:38", after := #[{ on := 14, ground := Ground.data }, { on := 3, ground := Ground.guard }], guard := some (3, false) }) (v := ?_) rfl (by kernel_rfl) (by kernel_rfl) (by kernel_rfl) (fun _ _ _ h => h) (Or.inl ⟨by kernel_rfl, ?_⟩) (by assumption) ?_
   rotate_left
   focus
    intro w hSw
    (try dsimp only at hSw)
    go_simp
    all_goals (try with_reducible rfl)
   simp only [Act.put, List.setIfInBounds_toArray, List.set_cons_zero, List.set_cons_succ]
   refine wpAnyH_take (i := 16) (oi := { dst := some 21, op := Op.binOp BinOp.gtr 3 (Operand.tmp 16) (Operand.tmp 20) 3, type := 4, pos := "ref.go:38", after := #[{ on := 11, ground := Ground.data }, { on := 15, ground := Ground.data }, { on := 3, ground := Ground.guard }], guard := some (3, false) }) (v := ?_) rfl (by kernel_rfl) (by kernel_rfl) (by kernel_rfl) (fun _ _ _ h => h) (Or.inl ⟨by kernel_rfl, ?_⟩) (by assumption) ?_
   rotate_left
   focus
    intro w hSw
    (try dsimp only at hSw)
    go_simp
    all_goals (try with_reducible rfl)
   simp only [Act.put, List.setIfInBounds_toArray, List.set_cons_zero, List.set_cons_succ]
   refine wpAnyH_take (i := 17) (oi := { dst := some 22, op := Op.pick (Operand.tmp 8) (Operand.const (Value.bool true)) (Operand.tmp 21), type := 4, pos := "ref.go:38", after := #[{ on := 3, ground := Ground.data }, { on := 16, ground := Ground.data }], guard := none }) (v := ?_) rfl (by kernel_rfl) (by kernel_rfl) (by kernel_rfl) (fun _ _ _ h => h) (Or.inl ⟨by kernel_rfl, ?_⟩) (by assumption) ?_
   rotate_left
   focus
    intro w hSw
    (try dsimp only at hSw)
    go_simp
    all_goals (try with_reducible rfl)
   simp only [Act.put, List.setIfInBounds_toArray, List.set_cons_zero, List.set_cons_succ]
   refine wpAnyH_done (by kernel_rfl) ?_ _
   go_wp2
   go_ret
   exact ⟨rfl, v, h2, g2⟩
  ·as_aux_lemma =>
   have e : app y d = (⟨d.b ++ y, d.lasts, d.room, less d.left⟩, 0) := by unfold app; rw [if_neg h0, if_neg hr]
   rw [e]
   rw [hn] at hr
   have hB := h.base
   have hF : Aside (Fit ⟨d.b ++ y, d.lasts, d.room, less d.left⟩) := by
    have := h.fit.app y
    rw [e] at this; exact this
   have hsz : Aside (B ≤ w.heap.size) := hB
   have hf : ∀ w2 v3 w3, DkIn 57 B w2 k v (tick d) → Gr w2 v w3 v3 → bytes.Boxed w3 k #[v, .int .i64 (d.lasts : Nat), .int .i64 (d.room : Nat), .int .i64 (less d.left)] 57 := fun w2 v3 w3 h2 g3 => gr_boxed2 g3 h2.box (h2.apart tk2)
   have hlow := h.low
   obtain ⟨q, hq⟩ : ∃ q, d.b.length + n = q := ⟨_, rfl⟩
   have HQ : Hid (d.b.length + n = q) := hq
   have hz : decide ((d.room : Int) < (d.b.length : Int) + (n : Int)) = false := decide_eq_false (by omega)
   have hw : IntKind.i64.wrap ((d.b.length : Int) + (n : Int)) = (d.b.length : Int) + (n : Int) := by rw [IntKind.wrap_i64]; omega
   have hq2 : q ≤ 1048576 := by omega
   have HV : Hid (v = .slice va d.b.length vc) := hv
   clear h hS hd e hq h0 hn hv
   go_enter Tryz.func23, Tryz.ntmps23
   go_wp2_with fail
   refine wp_region_held_drew (S := fun W => W.cell? ⟨k, 0, none⟩ = some (.slice va d.b.length vc) ∧ W.cell? ⟨k, 2, none⟩ = some (.int .i64 (d.room : Nat))) (by kernel_rfl) ?_ (fun hHeld => ?_)
   ·(try dsimp only); exact ⟨c0, c2⟩
   change wpAnyH _ _ _ _ _ 18 #[false, false, false, false, false, false, false, false, false, false, false, false, false, false, false, false, false, false] _ _
   refine wpAnyH_take (i := 0) (oi := { dst := some 5, op := Op.move (Operand.tmp 0), type := 28, pos := "ref.go:38", after := #[], guard := none }) (v := ?_) rfl (by kernel_rfl) (by kernel_rfl) (by kernel_rfl) (fun _ _ _ h => h) (Or.inl ⟨by kernel_rfl, ?_⟩) (by assumption) ?_
   rotate_left
   focus
    intro w hSw
    (try dsimp only at hSw)
    go_simp
    all_goals (try with_reducible rfl)
   simp only [Act.put, List.setIfInBounds_toArray, List.set_cons_zero, List.set_cons_succ]
   refine wpAnyH_ready (rs := [1]) (by kernel_rfl) (by simp) ?_
   refine AllReadyH.cons (o := { dst := some 6, op := Op.call { callee := Callee.value (Operand.func 46), args := #[Operand.tmp 5], argTypes := #[28] }, type := 4, pos := "ref.go:38", after := #[{ on := 0, ground := Ground.data }], guard := none }) rfl (fun K hK => ?_) AllReadyH.nil
   go_simp
   refine (hcl _ (HB.out.drew)).mono ?_
   (rintro e w2 ⟨rfl, h2, g2, S2, q0, q2⟩)
   go_wp2_with fail
   refine hK.out _ _ ?_ (fun hHeld2 => ?_)
   ·(try dsimp only); exact ⟨q0, q2⟩
   clear hK K hHeld
   have hHeld := hHeld2
   clear hHeld2
   simp only [List.setIfInBounds_toArray, List.set_cons_zero, List.set_cons_succ]
   refine wpAnyH_take (i := 2) (oi := { dst := some 7, op := Op.unOp UnOp.not 4 (Operand.tmp 6), type := 4, pos := "ref.go:38", after := #[{ on := 1, ground := Ground.data }], guard := none }) (v := ?_) rfl (by kernel_rfl) (by kernel_rfl) (by kernel_rfl) (fun _ _ _ h => h) (Or.inl ⟨by kernel_rfl, ?_⟩) (by assumption) ?_
   rotate_left
   focus
    intro w hSw
    (try dsimp only at hSw)
    go_simp
    all_goals (try with_reducible rfl)
   simp only [Act.put, List.setIfInBounds_toArray, List.set_cons_zero, List.set_cons_succ]
   refine wpAnyH_take (i := 3) (oi := { dst := some 8, op := Op.move (Operand.tmp 7), type := 4, pos := "ref.go:38", after := #[{ on := 2, ground := Ground.data }, { on := 1, ground := Ground.chain }], guard := none }) (v := ?_) rfl (by kernel_rfl) (by kernel_rfl) (by kernel_rfl) (fun _ _ _ h => h) (Or.inl ⟨by kernel_rfl, ?_⟩) (by assumption) ?_
   rotate_left
   focus
    intro w hSw
    (try dsimp only at hSw)
    go_simp
    all_goals (try with_reducible rfl)
   simp only [Act.put, List.setIfInBounds_toArray, List.set_cons_zero, List.set_cons_succ]
   refine wpAnyH_take (i := 4) (oi := { dst := some 9, op := Op.move (Operand.tmp 0), type := 28, pos := "ref.go:38", after := #[{ on := 3, ground := Ground.guard }], guard := some (3, false) }) (v := ?_) rfl (by kernel_rfl) (by kernel_rfl) (by kernel_rfl) (fun _ _ _ h => h) (Or.inl ⟨by kernel_rfl, ?_⟩) (by assumption) ?_
   rotate_left
   focus
    intro w hSw
    (try dsimp only at hSw)
    go_simp
    all_goals (try with_reducible rfl)
   simp only [Act.put, List.setIfInBounds_toArray, List.set_cons_zero, List.set_cons_succ]
   refine wpAnyH_take (i := 5) (oi := { dst := some 10, op := Op.nilCheck (Operand.tmp 9), type := 0, pos := "ref.go:38", after := #[{ on := 4, ground := Ground.data }, { on := 3, ground := Ground.guard }], guard := some (3, false) }) (v := ?_) rfl (by kernel_rfl) (by kernel_rfl) (by kernel_rfl) (fun _ _ _ h => h) (Or.inl ⟨by kernel_rfl, ?_⟩) (by assumption) ?_
   rotate_left
   focus
    intro w hSw
    (try dsimp only at hSw)
    go_simp
    all_goals (try with_reducible rfl)
   simp only [Act.put, List.setIfInBounds_toArray, List.set_cons_zero, List.set_cons_succ]
   refine wpAnyH_take (i := 6) (oi := { dst := some 11, op := Op.fieldAddr 57 (Operand.tmp 10) 0, type := 0, pos := "ref.go:38", after := #[{ on := 5, ground := Ground.data }, { on := 3, ground := Ground.guard }], guard := some (3, false) }) (v := ?_) rfl (by kernel_rfl) (by kernel_rfl) (by kernel_rfl) (fun _ _ _ h => h) (Or.inl ⟨by kernel_rfl, ?_⟩) (by assumption) ?_
   rotate_left
   focus
    intro w hSw
    (try dsimp only at hSw)
    go_simp
    all_goals (try with_reducible rfl)
   simp only [Act.put, List.setIfInBounds_toArray, List.set_cons_zero, List.set_cons_succ]
   refine wpAnyH_take (i := 7) (oi := { dst := some 12, op := Op.load 54 (Operand.tmp 11), type := 54, pos := "ref.go:38", after := #[{ on := 6, ground := Ground.data }, { on := 3, ground := Ground.guard }], guard := some (3, false) }) (v := ?_) rfl (by kernel_rfl) (by kernel_rfl) (by kernel_rfl) (fun _ _ _ h => h) (Or.inl ⟨by kernel_rfl, ?_⟩) (by assumption) ?_
   rotate_left
   focus
    intro w hSw
    (try dsimp only at hSw)
    go_simp
    all_goals (try with_reducible rfl)
   simp only [Act.put, List.setIfInBounds_toArray, List.set_cons_zero, List.set_cons_succ]
   refine wpAnyH_take (i := 8) (oi := { dst := some 13, op := Op.call { callee := Callee.builtin Builtin.len, args := #[Operand.tmp 12], argTypes := #[54] }, type := 3, pos := "ref.go:38", after := #[{ on := 7, ground := Ground.data }, { on := 3, ground := Ground.guard }], guard := some (3, false) }) (v := ?_) rfl (by kernel_rfl) (by kernel_rfl) (by kernel_rfl) (fun _ _ _ h => h) (Or.inl ⟨by kernel_rfl, ?_⟩) (by assumption) ?_
   rotate_left
   focus
    intro w hSw
    (try dsimp only at hSw)
    go_simp
    all_goals (try with_reducible rfl)
   simp only [Act.put, List.setIfInBounds_toArray, List.set_cons_zero, List.set_cons_succ]
   refine wpAnyH_take (i := 9) (oi := { dst := some 14, op := Op.move (Operand.tmp 1), type := 54, pos := "ref.go:38", after := #[{ on := 3, ground := Ground.guard }], guard := some (3, false) }) (v := ?_) rfl (by kernel_rfl) (by kernel_rfl) (by kernel_rfl) (fun _ _ _ h => h) (Or.inl ⟨by kernel_rfl, ?_⟩) (by assumption) ?_
   rotate_left
   focus
    intro w hSw
    (try dsimp only at hSw)
    go_simp
    all_goals (try with_reducible rfl)
   simp only [Act.put, List.setIfInBounds_toArray, List.set_cons_zero, List.set_cons_succ]
   refine wpAnyH_take (i := 10) (oi := { dst := some 15, op := Op.call { callee := Callee.builtin Builtin.len, args := #[Operand.tmp 14], argTypes := #[54] }, type := 3, pos := "ref.go:38", after := #[{ on := 9, ground := Ground.data }, { on := 3, ground := Ground.guard }], guard := some (3, false) }) (v := ?_) rfl (by kernel_rfl) (by kernel_rfl) (by kernel_rfl) (fun _ _ _ h => h) (Or.inl ⟨by kernel_rfl, ?_⟩) (by assumption) ?_
   rotate_left
   focus
    intro w hSw
    (try dsimp only at hSw)
    go_simp
    all_goals (try with_reducible rfl)
   simp only [Act.put, List.setIfInBounds_toArray, List.set_cons_zero, List.set_cons_succ]
   refine wpAnyH_take (i := 11) (oi := { dst := some 16, op := Op.binOp BinOp.add 3 (Operand.tmp 13) (Operand.tmp 15) 3, type := 3, pos := "ref.go:38", after := #[{ on := 8, ground := Ground.data }, { on := 10, ground := Ground.data }, { on := 3, ground := Ground.guard }], guard := some (3, false) }) (v := ?_) rfl (by kernel_rfl) (by kernel_rfl) (by kernel_rfl) (fun _ _ _ h => h) (Or.inl ⟨by kernel_rfl, ?_⟩) (by assumption) ?_
   rotate_left
   focus
    intro w hSw
    (try dsimp only at hSw)
    go_simp
    all_goals (try with_reducible rfl)
   simp only [Act.put, List.setIfInBounds_toArray, List.set_cons_zero, List.set_cons_succ]
   refine wpAnyH_take (i := 12) (oi := { dst := some 17, op := Op.move (Operand.tmp 0), type := 28, pos := "ref.go:38", after := #[{ on := 3, ground := Ground.guard }], guard := some (3, false) }) (v := ?_) rfl (by kernel_rfl) (by kernel_rfl) (by kernel_rfl) (fun _ _ _ h => h) (Or.inl ⟨by kernel_rfl, ?_⟩) (by assumption) ?_
   rotate_left
   focus
    intro w hSw
    (try dsimp only at hSw)
    go_simp
    all_goals (try with_reducible rfl)
   simp only [Act.put, List.setIfInBounds_toArray, List.set_cons_zero, List.set_cons_succ]
   refine wpAnyH_take (i := 13) (oi := { dst := some 18, op := Op.nilCheck (Operand.tmp 17), type := 0, pos := "ref.go:38", after := #[{ on := 12, ground := Ground.data }, { on := 3, ground := Ground.guard }], guard := some (3, false) }) (v := ?_) rfl (by kernel_rfl) (by kernel_rfl) (by kernel_rfl) (fun _ _ _ h => h) (Or.inl ⟨by kernel_rfl, ?_⟩) (by assumption) ?_
   rotate_left
   focus
    intro w hSw
    (try dsimp only at hSw)
    go_simp
    all_goals (try with_reducible rfl)
   simp only [Act.put, List.setIfInBounds_toArray, List.set_cons_zero, List.set_cons_succ]
   refine wpAnyH_take (i := 14) (oi := { dst := some 19, op := Op.fieldAddr 57 (Operand.tmp 18) 2, type := 0, pos := "ref.go:38", after := #[{ on := 13, ground := Ground.data }, { on := 3, ground := Ground.guard }], guard := some (3, false) }) (v := ?_) rfl (by kernel_rfl) (by kernel_rfl) (by kernel_rfl) (fun _ _ _ h => h) (Or.inl ⟨by kernel_rfl, ?_⟩) (by assumption) ?_
   rotate_left
   focus
    intro w hSw
    (try dsimp only at hSw)
    go_simp
    all_goals (try with_reducible rfl)
   simp only [Act.put, List.setIfInBounds_toArray, List.set_cons_zero, List.set_cons_succ]
   refine wpAnyH_take (i := 15) (oi := { dst := some 20, op := Op.load 3 (Operand.tmp 19), type := 3, pos := "ref.go:38", after := #[{ on := 14, ground := Ground.data }, { on := 3, ground := Ground.guard }], guard := some (3, false) }) (v := ?_) rfl (by kernel_rfl) (by kernel_rfl) (by kernel_rfl) (fun _ _ _ h => h) (Or.inl ⟨by kernel_rfl, ?_⟩) (by assumption) ?_
   rotate_left
   focus
    intro w hSw
    (try dsimp only at hSw)
    go_simp
    all_goals (try with_reducible rfl)
   simp only [Act.put, List.setIfInBounds_toArray, List.set_cons_zero, List.set_cons_succ]
   refine wpAnyH_take (i := 16) (oi := { dst := some 21, op := Op.binOp BinOp.gtr 3 (Operand.tmp 16) (Operand.tmp 20) 3, type := 4, pos := "ref.go:38", after := #[{ on := 11, ground := Ground.data }, { on := 15, ground := Ground.data }, { on := 3, ground := Ground.guard }], guard := some (3, false) }) (v := ?_) rfl (by kernel_rfl) (by kernel_rfl) (by kernel_rfl) (fun _ _ _ h => h) (Or.inl ⟨by kernel_rfl, ?_⟩) (by assumption) ?_
   rotate_left
   focus
    intro w hSw
    (try dsimp only at hSw)
    go_simp
    all_goals (try with_reducible rfl)
   simp only [Act.put, List.setIfInBounds_toArray, List.set_cons_zero, List.set_cons_succ]
   refine wpAnyH_take (i := 17) (oi := { dst := some 22, op := Op.pick (Operand.tmp 8) (Operand.const (Value.bool true)) (Operand.tmp 21), type := 4, pos := "ref.go:38", after := #[{ on := 3, ground := Ground.data }, { on := 16, ground := Ground.data }], guard := none }) (v := ?_) rfl (by kernel_rfl) (by kernel_rfl) (by kernel_rfl) (fun _ _ _ h => h) (Or.inl ⟨by kernel_rfl, ?_⟩) (by assumption) ?_
   rotate_left
   focus
    intro w hSw
    (try dsimp only at hSw)
    go_simp
    all_goals (try with_reducible rfl)
   simp only [Act.put, List.setIfInBounds_toArray, List.set_cons_zero, List.set_cons_succ]
   refine wpAnyH_done (by kernel_rfl) ?_ _
   have hown := h2.own
   have hB2 : B ≤ w2.heap.size := Nat.le_trans hsz.out g2.size
   rw [HV.out] at hown
   have hf2 := fun v3 w3 => hf w2 v3 w3 h2
   rw [HV.out] at hf2
   clear hHeld
   go_wp2_with (at_builtin; refine wpList_bytes rfl (.tmp 27) (.tmp 28) rfl B _ d.b rfl hown a n c y rfl S2 q HQ.out (by omega) hB2 ?_; intro a3 c3 w3 h3 g3; have hx3 := hf2 _ _ g3; have q3 := hx3.cell (j := 0) rfl; have z3 := hx3.frz 0)
   go_ret
   rw [HV.out] at g2
   exact ⟨rfl, _, DkIn.set_all (d := ⟨d.b, d.lasts, d.room, less d.left⟩) hx3 hlow tk2 h3 hF.out, by rw [HV.out]; exact (g2.trans (Gd.of_gr k g3)).trans (Gd.set k 0 _ _ _)⟩
theorem DkIn.cap_le {T : TypeId} {B k : Nat} {w : World} {d : Dk} {va : Option Addr} {n vc : Nat} (h : DkIn T B w k (.slice va n vc) d) : n ≤ vc := by
 obtain ⟨a, c, e, hb⟩ := h.own.bytes
 injection e with e1 e2 e3
 subst e2 e3; exact hb.cap
theorem DkIn.cut_two {T : TypeId} {B k m : Nat} {w : World} {d : Dk} {va : Option Addr} {vc : Nat} (hT : T ≠ 5) (h : DkIn T B w k (.slice va d.b.length vc) d) (hm : m ≤ d.b.length) (n : Nat) (hn : n ≤ m) :
  DkIn T B ((w.setCell ⟨k, 0, none⟩ (.slice va m vc)).setCell ⟨k, 1, none⟩ (.int .i64 (n : Nat))) k (.slice va m vc) ⟨d.b.take m, n, d.room, d.left⟩ ∧ Gd k w (.slice va d.b.length vc) ((w.setCell ⟨k, 0, none⟩ (.slice va m vc)).setCell ⟨k, 1, none⟩ (.int .i64 (n : Nat))) (.slice va m vc) := by
 have e1 : (d.b.take m).length = m := by rw [List.length_take]; omega
 have hF : Fit ⟨d.b.take m, n, d.room, d.left⟩ := ⟨by show n ≤ (d.b.take m).length; rw [e1]; exact hn, by show (d.b.take m).length ≤ d.room; rw [e1]; have := h.fit.len; omega, h.fit.room, h.fit.left⟩
 exact ⟨h.set_two hT (Bs.cut h.own m hm) hF, ((Gd.set k 0 _ _ _).trans (Gd.set k 1 _ _ _)).front fun g hg => by rw [cut_block va d.b.length m vc]; exact hg⟩

theorem refCut_any (B k : Nat) (n : Int) (v : Value) (d : Dk) (w : World) (h : DkIn 57 B w k v d) :
  Calls Tryz.prog 30 #[.pointer (some ⟨k, 0, none⟩), .int .i64 n] w fun e w' => e = .returned (.int .i64 ((cut n d).2 : Nat)) ∧ ∃ v', DkIn 57 B w' k v' (cut n d).1 ∧ Gd k w v w' v' := by
 have hC := refCall_any B k v d w h
 by_cases h0 : d.left = 0
 ·rw [cut_halted h0]
  have ht : tick d = d := by unfold tick less; rw [if_neg (by omega)]
  rw [ht] at hC
  have hd : (!decide (d.left = 0)) = false := by simp [h0]
  rw [hd] at hC
  clear h
  go_enter Tryz.func30, Tryz.ntmps30
  go_wp2_with (go_at_call 46; refine hC.mono ?_; rintro e w2 ⟨rfl, h2, g2, gg2⟩)
  go_ret
  exact ⟨rfl, v, h2, g2⟩
 ·have hd : (!decide (d.left = 0)) = true := by simp [h0]
  rw [hd] at hC
  obtain ⟨va, vc, rfl⟩ := h.own.form
  have hmax := h.len_max
  have hcap := h.cap_le
  by_cases hr : n < 0 ∨ (d.b.length : Int) < n
  ·have e : cut n d = (tick d, 1) := by unfold cut; rw [if_neg h0, if_pos hr]
   rw [e]
   have hcl : Calls Tryz.prog 46 #[.pointer (some ⟨k, 0, none⟩)] w fun e w' => e = .returned (.bool true) ∧ DkIn 57 B w' k (.slice va d.b.length vc) (tick d) ∧ Gd k w (.slice va d.b.length vc) w' (.slice va d.b.length vc) ∧ w'.cell? ⟨k, 0, none⟩ = some (.slice va d.b.length vc) := hC.mono fun e w' ⟨he, h1, h2, h3⟩ => ⟨he, h1, h2, h1.c0⟩
   clear hC h hd e h0
   generalize tick d = d3 at hcl ⊢
   generalize d.b.length = q at *
   by_cases hz : n < 0
   ·clear hr
    go_enter Tryz.func30, Tryz.ntmps30
    go_wp2_with (go_at_call 46; refine hcl.mono ?_; rintro e w2 ⟨rfl, h2, g2, q0⟩)
    go_ret
    exact ⟨rfl, _, h2, g2⟩
   ·have hz2 : (q : Int) < n := by omega
    clear hr
    go_enter Tryz.func30, Tryz.ntmps30
    go_wp2_with (go_at_call 46; refine hcl.mono ?_; rintro e w2 ⟨rfl, h2, g2, q0⟩)
    go_ret
    exact ⟨rfl, _, h2, g2⟩
  ·obtain ⟨m, hm⟩ : ∃ m : Nat, n = (m : Int) := ⟨n.toNat, by omega⟩
   subst hm
   have e : cut (m : Int) d = (⟨d.b.take m, min d.lasts m, d.room, less d.left⟩, 0) := by unfold cut; rw [if_neg h0, if_neg hr]; rfl
   rw [e]
   have hm2 : m ≤ d.b.length := by omega
   have hcl : Calls Tryz.prog 46 #[.pointer (some ⟨k, 0, none⟩)] w fun e w' => e = .returned (.bool true) ∧ Gd k w (.slice va d.b.length vc) w' (.slice va d.b.length vc) ∧ w'.cell? ⟨k, 0, none⟩ = some (.slice va d.b.length vc) ∧ w'.cell? ⟨k, 1, none⟩ = some (.int .i64 (d.lasts : Nat)) ∧ w'.frozen? ⟨k, 0, none⟩ = false ∧ w'.frozen? ⟨k, 1, none⟩ = false ∧
     Aside (∀ x, min d.lasts m = x → DkIn 57 B ((w'.setCell ⟨k, 0, none⟩ (.slice va m vc)).setCell ⟨k, 1, none⟩ (.int .i64 (x : Nat))) k (.slice va m vc) ⟨d.b.take m, min d.lasts m, d.room, less d.left⟩ ∧ Gd k w' (.slice va d.b.length vc) ((w'.setCell ⟨k, 0, none⟩ (.slice va m vc)).setCell ⟨k, 1, none⟩ (.int .i64 (x : Nat))) (.slice va m vc)) := hC.mono fun e w' ⟨he, h1, h2, h3⟩ => ⟨he, h2, h1.c0, h1.c1, h1.box.frz 0, h1.box.frz 1, fun x hx => by subst hx; exact DkIn.cut_two (d := tick d) tk2 h1 hm2 (min d.lasts m) (by omega)⟩
   clear hC h hd e h0
   generalize d.b.take m = tk at *
   generalize d.b.length = q at *
   have hz : ¬ (m : Int) < 0 := by omega
   have hz2 : ¬ (q : Int) < (m : Int) := by omega
   clear hr
   generalize d.lasts = s at *
   go_enter Tryz.func30, Tryz.ntmps30
   go_wp2_with (go_at_call 46; refine hcl.mono ?_; rintro e w2 ⟨rfl, g2, q0, q1, z0, z1, HR⟩)
   all_goals go_ret
   ·exact ⟨rfl, _, (HR.out m (by omega)).1, g2.trans (HR.out m (by omega)).2⟩
   ·exact ⟨rfl, _, (HR.out s (by omega)).1, g2.trans (HR.out s (by omega)).2⟩

theorem DkIn.crash_three {T : TypeId} {B k m : Nat} {w : World} {d : Dk} {va : Option Addr} {vc : Nat} (hT : T ≠ 5) (h : DkIn T B w k (.slice va d.b.length vc) d) (hm : m ≤ d.b.length) :
  DkIn T B (((w.setCell ⟨k, 0, none⟩ (.slice va m vc)).setCell ⟨k, 1, none⟩ (.int .i64 (m : Nat))).setCell ⟨k, 3, none⟩ (.int .i64 (-1))) k (.slice va m vc) ⟨d.b.take m, m, d.room, -1⟩ ∧ Gd k w (.slice va d.b.length vc) (((w.setCell ⟨k, 0, none⟩ (.slice va m vc)).setCell ⟨k, 1, none⟩ (.int .i64 (m : Nat))).setCell ⟨k, 3, none⟩ (.int .i64 (-1))) (.slice va m vc) := by
 obtain ⟨h1, g1⟩ := DkIn.cut_two hT h hm m (Nat.le_refl _)
 exact ⟨h1.set_left hT (-1) (by omega), g1.trans (Gd.set k 3 _ _ _)⟩
theorem refCrash_any (B k : Nat) (keep : Int) (v : Value) (d : Dk) (w : World) (h : DkIn 57 B w k v d) :
  Calls Tryz.prog 19 #[.pointer (some ⟨k, 0, none⟩), .int .i64 keep] w fun e w' => e = .returned (.tuple #[]) ∧ ∃ v', DkIn 57 B w' k v' (crash keep d) ∧ Gd k w v w' v' := by
 obtain ⟨va, vc, rfl⟩ := h.own.form
 have hmax := h.len_max
 have hcap := h.cap_le
 have hl := h.fit.lasts
 have hk := kept_le hl keep
 have hq : (kept keep d : Int) = (d.lasts : Int) + min (max keep 0) ((d.b.length - d.lasts : Nat) : Int) := by unfold kept; omega
 have HR : Aside (∀ W, Below w.heap.size w W → DkIn 57 B (((W.setCell ⟨k, 0, none⟩ (.slice va (kept keep d) vc)).setCell ⟨k, 1, none⟩ (.int .i64 (kept keep d : Nat))).setCell ⟨k, 3, none⟩ (.int .i64 (-1))) k (.slice va (kept keep d) vc) (crash keep d) ∧ Gd k w (.slice va d.b.length vc) (((W.setCell ⟨k, 0, none⟩ (.slice va (kept keep d) vc)).setCell ⟨k, 1, none⟩ (.int .i64 (kept keep d : Nat))).setCell ⟨k, 3, none⟩ (.int .i64 (-1))) (.slice va (kept keep d) vc)) := fun W hW => by
  obtain ⟨h1, g1⟩ := DkIn.crash_three tk2 (h.keep hW) hk
  exact ⟨h1, (Gd.of_below k _ hW).trans g1⟩
 have HC : ∀ W, Below w.heap.size w W → W.cell? ⟨k, 0, none⟩ = some (.slice va d.b.length vc) ∧ W.cell? ⟨k, 1, none⟩ = some (.int .i64 (d.lasts : Nat)) ∧ W.cell? ⟨k, 3, none⟩ = some (.int .i64 d.left) ∧ W.frozen? ⟨k, 0, none⟩ = false ∧ W.frozen? ⟨k, 1, none⟩ = false ∧ W.frozen? ⟨k, 3, none⟩ = false := fun W hW => by
  have h1 := h.keep hW
  exact ⟨h1.c0, h1.c1, h1.c3, h1.box.frz 0, h1.box.frz 1, h1.box.frz 3⟩
 obtain ⟨c0, c1, -⟩ := HC _ (Below.refl _ _)
 clear h
 generalize crash keep d = d9 at HR ⊢
 generalize kept keep d = kq at HR hq hk
 have hu : d.b.length - d.lasts ≤ 1048576 := by omega
 have hq2 : (d.b.length : Int) - (d.lasts : Int) = ((d.b.length - d.lasts : Nat) : Int) := by omega
 generalize d.b.length - d.lasts = u at hq hu hq2
 have hl2 : d.lasts ≤ 1048576 := by omega
 generalize d.lasts = s at *
 generalize d.b.length = q at *
 generalize d.left = lf at *
 by_cases k0 : keep < 0
 ·have k1 : ¬ (u : Int) < 0 := by omega
  have hq3 : kq = s := by omega
  clear hq
  subst hq3
  have hw : IntKind.i64.wrap (kq : Int) = kq := by rw [IntKind.wrap_i64]; omega
  go_enter Tryz.func19, Tryz.ntmps19
  go_wp2_with fail
  go_quiet (fail)
  have HB : Aside (Below w.heap.size w (w.drewN nq)) := below_dn _ _ _
  generalize w.drewN nq = w2 at HB ⊢
  obtain ⟨d0, d1, d3, z0, z1, z3⟩ := HC w2 HB.out
  clear c0 c1
  go_wp2
  go_end0
  exact ⟨rfl, _, HR.out w2 HB.out⟩
 ·by_cases k1 : (u : Int) < keep
  ·have hq3 : (kq : Int) = (s : Int) + (u : Int) := by omega
   have hw : IntKind.i64.wrap ((s : Int) + (u : Int)) = kq := by rw [IntKind.wrap_i64]; omega
   clear hq hq3
   go_enter Tryz.func19, Tryz.ntmps19
   go_wp2_with fail
   go_quiet (fail)
   have HB : Aside (Below w.heap.size w (w.drewN nq)) := below_dn _ _ _
   generalize w.drewN nq = w2 at HB ⊢
   obtain ⟨d0, d1, d3, z0, z1, z3⟩ := HC w2 HB.out
   clear c0 c1
   go_wp2
   go_end0
   exact ⟨rfl, _, HR.out w2 HB.out⟩
  ·have hq3 : (kq : Int) = (s : Int) + keep := by omega
   have hw : IntKind.i64.wrap ((s : Int) + keep) = kq := by rw [IntKind.wrap_i64]; omega
   clear hq hq3
   go_enter Tryz.func19, Tryz.ntmps19
   go_wp2_with fail
   go_quiet (fail)
   have HB : Aside (Below w.heap.size w (w.drewN nq)) := below_dn _ _ _
   generalize w.drewN nq = w2 at HB ⊢
   obtain ⟨d0, d1, d3, z0, z1, z3⟩ := HC w2 HB.out
   clear c0 c1
   go_wp2
   go_end0
   exact ⟨rfl, _, HR.out w2 HB.out⟩
end disk
end Go.Proofs.YtlcjllgfpfldlaaGreat
