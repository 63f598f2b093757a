/-
 The contracts of Append, Sync, Cut, Crash and Read.
 The contracts of Sync, Cut, Read and Crash.
 The contract of Crash, a case.
 The contract of Crash, a case.
 The contract of Crash, a case.
 The contract of Crash.
 One disk, and rows of bytes of the call's own beside it.
-/
import Derived.Test.YtlcjllgfpfldlaaGreatWalZ13K
import Derived.Shelf.Abstract
set_option maxHeartbeats 4000000
open Go.ChangeShapes Go.WideShapes Go.ChangeAt Go.RowKit Go.Deep
set_option linter.unusedVariables false
set_option maxRecDepth 100000
set_option linter.unusedSimpArgs false
namespace Go.Proofs.YtlcjllgfpfldlaaGreat
namespace disk
open bytes Go.Shelf
/-! ### what Cut and Sync hand on -/
theorem cutC_no (B k bx dx : Nat) (n : Int) (v : Value) (d : Dk) (w : World) (h : DkIn 65 B w k v d) (hb : w.cell? ⟨bx, 0, none⟩ = some (.int .i64 n)) (hd : w.cell? ⟨dx, 0, none⟩ = some (.pointer (some ⟨k, 0, none⟩))) (hlt : n < 0 ∨ (d.b.length : Int) < n) :
  Calls Tryz.prog 63 #[.pointer (some ⟨bx, 0, none⟩), .pointer (some ⟨dx, 0, none⟩)] w fun e w' => e = .returned (.int .u16 1) ∧ Below w.heap.size w w' := by
 obtain ⟨va, vc, rfl⟩ := h.own.form
 have c0 := h.c0
 have hl := h.len_max
 clear h
 generalize d.b.length = q at *
 by_cases h0 : n < 0
 ·have hz : decide (n < 0) = true := decide_eq_true h0
  clear hlt
  go_enter Tryz.func63, Tryz.ntmps63
  go_wp2_with fail
  go_quiet (fail)
  generalize hw2 : w.drewN _ = w2
  go_wp2
  go_ret
  exact ⟨rfl, by subst hw2; exact below_dn _ _ _⟩
 ·have hz : decide (n < 0) = false := decide_eq_false h0
  have h1 : (q : Int) < n := by omega
  clear hlt
  go_enter Tryz.func63, Tryz.ntmps63
  go_wp2_with fail
  go_quiet (fail)
  generalize hw2 : w.drewN _ = w2
  go_wp2
  go_ret
  exact ⟨rfl, by subst hw2; exact below_dn _ _ _⟩
theorem cutC_yes (B k bx dx m : Nat) (v : Value) (d : Dk) (w : World) (h : DkIn 65 B w k v d) (hb : w.cell? ⟨bx, 0, none⟩ = some (.int .i64 (m : Nat))) (hd : w.cell? ⟨dx, 0, none⟩ = some (.pointer (some ⟨k, 0, none⟩))) (hlt : m ≤ d.b.length) :
  Calls Tryz.prog 63 #[.pointer (some ⟨bx, 0, none⟩), .pointer (some ⟨dx, 0, none⟩)] w fun e w' => e = .returned (.int .u16 0) ∧ ∃ v', DkIn 65 B w' k v' ⟨d.b.take m, min d.lasts m, d.room, d.left⟩ ∧ Gd k w v w' v' := by
 have hC : ∀ W, Below w.heap.size w W → Calls Tryz.prog 38 #[.pointer (some ⟨k, 0, none⟩), .int .i64 (m : Nat)] W fun e w' => e = .returned (.tuple #[]) ∧ ∃ v', DkIn 65 B w' k v' ⟨d.b.take m, min d.lasts m, d.room, d.left⟩ ∧ Gd k w v w' v' := fun W hW =>
  (leave_any B k m v d W (h.keep hW) hlt).mono fun e w' ⟨he, v', h1, h2⟩ => ⟨he, v', h1, (Gd.of_below k v hW).trans h2⟩
 obtain ⟨va, vc, hv⟩ := h.own.form
 have c0 := h.c0
 rw [hv] at c0
 have hl := h.len_max
 clear h hv
 generalize d.b.take m = tk at hC ⊢
 generalize min d.lasts m = tm at hC ⊢
 generalize d.b.length = q at *
 have hz : decide ((m : Int) < 0) = false := decide_eq_false (by omega)
 have hz1 : ¬ (q : Int) < (m : Int) := by omega
 go_enter Tryz.func63, Tryz.ntmps63
 go_wp2_with fail
 go_quiet (fail)
 have HB : Aside (Below w.heap.size w (w.drewN nq)) := below_dn _ _ _
 have hb2 : (w.drewN nq).cell? ⟨bx, 0, none⟩ = some (.int .i64 (m : Nat)) := hb
 have hd2 : (w.drewN nq).cell? ⟨dx, 0, none⟩ = some (.pointer (some ⟨k, 0, none⟩)) := hd
 generalize w.drewN nq = w2 at HB hb2 hd2 ⊢
 clear hb hd c0
 go_wp2_with fail
 go_region_with (go_at_call 38; refine (hC _ HB.out.drew).mono ?_; rintro e w3 ⟨rfl, v3, h3, g3⟩)
 all_goals go_wp2
 all_goals go_ret
 all_goals exact ⟨rfl, v3, h3, g3⟩
theorem syncC_any (B k dx : Nat) (v : Value) (d : Dk) (w : World) (h : DkIn 65 B w k v d) (hd : w.cell? ⟨dx, 0, none⟩ = some (.pointer (some ⟨k, 0, none⟩))) :
  Calls Tryz.prog 62 #[.pointer (some ⟨dx, 0, none⟩)] w fun e w' => e = .returned (.int .u16 0) ∧ DkIn 65 B w' k v ⟨d.b, d.b.length, d.room, d.left⟩ ∧ Gd k w v w' v := by
 have hC := force_any B k v d w h
 clear h
 go_enter Tryz.func62, Tryz.ntmps62
 go_wp2_with (go_at_call 40; refine hC.mono ?_; rintro e w3 ⟨rfl, h3, g3⟩)
 go_ret
 exact ⟨rfl, h3, g3⟩

/-! ### Append, Sync, Cut -/
theorem two_boxes (w : World) (c1 c2 : Value) (t1 t2 : TypeId) : ((w.alloc (.cells #[c1] t1)).alloc (.cells #[c2] t2)).cell? ⟨w.heap.size, 0, none⟩ = some c1 ∧ ((w.alloc (.cells #[c1] t1)).alloc (.cells #[c2] t2)).cell? ⟨w.heap.size + 1, 0, none⟩ = some c2 := by
 constructor <;> simp [go_sem]
theorem append_any (B k n c : Nat) (a : Option Addr) (y : List UInt8) (v : Value) (d : Dk) (w : World) (h : DkIn 65 B w k v d) (hS : Sl w a n c y) :
  Calls Tryz.prog 22 #[.pointer (some ⟨k, 0, none⟩), .slice a n c] w fun e w' => e = .returned (.int .u16 ((app y d).2 : Nat)) ∧ ∃ v', DkIn 65 B w' k v' (app y d).1 ∧ Gd k w v w' v' := by
 have hn := hS.at_.len
 obtain ⟨w2, hw2⟩ : ∃ w2, (w.alloc (.cells #[.pointer (some ⟨k, 0, none⟩)] 26)).alloc (.cells #[.slice a n c] 54) = w2 := ⟨_, rfl⟩
 have hb2 : Below w.heap.size w w2 := by rw [← hw2]; exact ((Below.refl _ _).alloc (Nat.le_refl _) _).alloc (by simp) _
 obtain ⟨q1, q2⟩ := two_boxes w (.pointer (some ⟨k, 0, none⟩)) (.slice a n c) 26 54
 rw [hw2] at q1 q2
 have h2 := h.keep hb2
 have S2 := hS.keep hb2
 have hk := h.lt
 have hrow : ∀ g, v.ownBlock = some g → g < w.heap.size := fun g hg => (h.own.lt g hg).2
 have hC : Calls Tryz.prog 43 #[.pointer (some ⟨k, 0, none⟩), .func (.func 44) #[] #[.pointer (some ⟨w.heap.size + 1, 0, none⟩), .pointer (some ⟨w.heap.size, 0, none⟩)]] w2 fun e w' => e = .returned (.int .u16 ((app y d).2 : Nat)) ∧ ∃ v', DkIn 65 B w' k v' (app y d).1 ∧ Gd k w v w' v' := by
  by_cases h0 : d.left = 0
  ·refine (call_stop B k _ _ v d w2 h2 h0).mono ?_
   rintro e w' ⟨rfl, rfl⟩
   rw [app_halted h0]
   exact ⟨rfl, v, h2, Gd.of_below k v hb2⟩
  ·refine (call_go B k _ _ v d w2 h2 h0 (fun r w' => r = ((app y d).2 : Nat) ∧ ∃ v', DkIn 65 B w' k v' (app y d).1 ∧ Gd k w v w' v') (enters_of Tryz.func44 (by kernel_rfl) rfl) ?_).mono ?_
   ·intro W hW hG hg
    have p1 : W.cell? ⟨w.heap.size, 0, none⟩ = some (.pointer (some ⟨k, 0, none⟩)) := (World.cell?_of_block (a := ⟨w.heap.size, 0, none⟩) (hG.same w.heap.size (cell_lt q1) (by omega) fun e => by have := hrow _ e.symm; omega)).trans q1
    have p2 : W.cell? ⟨w.heap.size + 1, 0, none⟩ = some (.slice a n c) := (World.cell?_of_block (a := ⟨w.heap.size + 1, 0, none⟩) (hG.same (w.heap.size + 1) (cell_lt q2) (by omega) fun e => by have := hrow _ e.symm; omega)).trans q2
    have p3 := h2.far S2 hg
    by_cases hr : d.room < d.b.length + y.length
    ·refine (appendC_no B k _ _ n c a y v (tick d) W hW p3 p2 p1 (by rw [← hn]; exact hr)).mono ?_
     rintro e w' ⟨rfl, hb⟩
     have e : app y d = (tick d, 100) := by unfold app; rw [if_neg h0, if_pos hr]
     rw [e]
     exact ⟨_, rfl, rfl, v, hW.keep hb, ((Gd.of_below k v hb2).trans hG).trans (Gd.of_below k v hb)⟩
    ·refine (appendC_yes B k _ _ n c a y v (tick d) W hW p3 p2 p1 (by rw [← hn]; show d.b.length + y.length ≤ d.room; omega)).mono ?_
     rintro e w' ⟨rfl, v', h3, g3⟩
     have e : app y d = (⟨d.b ++ y, d.lasts, d.room, less d.left⟩, 0) := by unfold app; rw [if_neg h0, if_neg hr]
     rw [e]
     exact ⟨_, rfl, rfl, v', h3, ((Gd.of_below k v hb2).trans hG).trans g3⟩
   ·rintro e w' ⟨r, rfl, rfl, hr⟩
    exact ⟨rfl, hr⟩
 clear h hS h2 S2 hk hrow q1 q2 hb2 hn
 generalize (app y d).1 = d2 at hC ⊢
 generalize (app y d).2 = r at hC ⊢
 subst hw2
 go_enter Tryz.func22, Tryz.ntmps22
 go_wp2_with (go_at_call 43; refine hC.mono ?_; rintro e w3 ⟨rfl, v3, h3, g3⟩)
 go_ret
 exact ⟨rfl, v3, h3, g3⟩
theorem sync_any (B k : Nat) (v : Value) (d : Dk) (w : World) (h : DkIn 65 B w k v d) :
  Calls Tryz.prog 36 #[.pointer (some ⟨k, 0, none⟩)] w fun e w' => e = .returned (.int .u16 ((sync d).2 : Nat)) ∧ ∃ v', DkIn 65 B w' k v' (sync d).1 ∧ Gd k w v w' v' := by
 obtain ⟨w2, hw2⟩ : ∃ w2, w.alloc (.cells #[.pointer (some ⟨k, 0, none⟩)] 26) = w2 := ⟨_, rfl⟩
 have hb2 : Below w.heap.size w w2 := by rw [← hw2]; exact (Below.refl _ _).alloc (Nat.le_refl _) _
 have q1 : w2.cell? ⟨w.heap.size, 0, none⟩ = some (.pointer (some ⟨k, 0, none⟩)) := by rw [← hw2]; simp [go_sem]
 have h2 := h.keep hb2
 have hk := h.lt
 have hrow : ∀ g, v.ownBlock = some g → g < w.heap.size := fun g hg => (h.own.lt g hg).2
 have hC : Calls Tryz.prog 43 #[.pointer (some ⟨k, 0, none⟩), .func (.func 62) #[] #[.pointer (some ⟨w.heap.size, 0, none⟩)]] w2 fun e w' => e = .returned (.int .u16 ((sync d).2 : Nat)) ∧ ∃ v', DkIn 65 B w' k v' (sync d).1 ∧ Gd k w v w' v' := by
  by_cases h0 : d.left = 0
  ·refine (call_stop B k _ _ v d w2 h2 h0).mono ?_
   rintro e w' ⟨rfl, rfl⟩
   rw [sync_halted h0]
   exact ⟨rfl, v, h2, Gd.of_below k v hb2⟩
  ·refine (call_go B k _ _ v d w2 h2 h0 (fun r w' => r = ((sync d).2 : Nat) ∧ ∃ v', DkIn 65 B w' k v' (sync d).1 ∧ Gd k w v w' v') (enters_of Tryz.func62 (by kernel_rfl) rfl) ?_).mono ?_
   ·intro W hW hG hg
    have p1 : W.cell? ⟨w.heap.size, 0, none⟩ = some (.pointer (some ⟨k, 0, none⟩)) := (World.cell?_of_block (a := ⟨w.heap.size, 0, none⟩) (hG.same w.heap.size (cell_lt q1) (by omega) fun e => by have := hrow _ e.symm; omega)).trans q1
    refine (syncC_any B k _ v (tick d) W hW p1).mono ?_
    rintro e w' ⟨rfl, h3, g3⟩
    have e : sync d = (⟨d.b, d.b.length, d.room, less d.left⟩, 0) := by unfold sync; rw [if_neg h0]
    rw [e]
    exact ⟨_, rfl, rfl, v, h3, ((Gd.of_below k v hb2).trans hG).trans g3⟩
   ·rintro e w' ⟨r, rfl, rfl, hr⟩
    exact ⟨rfl, hr⟩
 clear h h2 hk hrow q1 hb2
 generalize (sync d).1 = d2 at hC ⊢
 generalize (sync d).2 = r at hC ⊢
 subst hw2
 go_enter Tryz.func36, Tryz.ntmps36
 go_wp2_with (go_at_call 43; refine hC.mono ?_; rintro e w3 ⟨rfl, v3, h3, g3⟩)
 go_ret
 exact ⟨rfl, v3, h3, g3⟩

theorem cut_any (B k : Nat) (n : Int) (v : Value) (d : Dk) (w : World) (h : DkIn 65 B w k v d) :
  Calls Tryz.prog 37 #[.pointer (some ⟨k, 0, none⟩), .int .i64 n] w fun e w' => e = .returned (.int .u16 ((cut n d).2 : Nat)) ∧ ∃ v', DkIn 65 B w' k v' (cut n d).1 ∧ Gd k w v w' v' := by
 obtain ⟨w2, hw2⟩ : ∃ w2, (w.alloc (.cells #[.pointer (some ⟨k, 0, none⟩)] 26)).alloc (.cells #[.int .i64 n] 3) = w2 := ⟨_, rfl⟩
 have hb2 : Below w.heap.size w w2 := by rw [← hw2]; exact ((Below.refl _ _).alloc (Nat.le_refl _) _).alloc (by simp) _
 obtain ⟨q1, q2⟩ := two_boxes w (.pointer (some ⟨k, 0, none⟩)) (.int .i64 n) 26 3
 rw [hw2] at q1 q2
 have h2 := h.keep hb2
 have hk := h.lt
 have hrow : ∀ g, v.ownBlock = some g → g < w.heap.size := fun g hg => (h.own.lt g hg).2
 have hC : Calls Tryz.prog 43 #[.pointer (some ⟨k, 0, none⟩), .func (.func 63) #[] #[.pointer (some ⟨w.heap.size + 1, 0, none⟩), .pointer (some ⟨w.heap.size, 0, none⟩)]] w2 fun e w' => e = .returned (.int .u16 ((cut n d).2 : Nat)) ∧ ∃ v', DkIn 65 B w' k v' (cut n d).1 ∧ Gd k w v w' v' := by
  by_cases h0 : d.left = 0
  ·refine (call_stop B k _ _ v d w2 h2 h0).mono ?_
   rintro e w' ⟨rfl, rfl⟩
   rw [cut_halted h0]
   exact ⟨rfl, v, h2, Gd.of_below k v hb2⟩
  ·refine (call_go B k _ _ v d w2 h2 h0 (fun r w' => r = ((cut n d).2 : Nat) ∧ ∃ v', DkIn 65 B w' k v' (cut n d).1 ∧ Gd k w v w' v') (enters_of Tryz.func63 (by kernel_rfl) rfl) ?_).mono ?_
   ·intro W hW hG hg
    have p1 : W.cell? ⟨w.heap.size, 0, none⟩ = some (.pointer (some ⟨k, 0, none⟩)) := (World.cell?_of_block (a := ⟨w.heap.size, 0, none⟩) (hG.same w.heap.size (cell_lt q1) (by omega) fun e => by have := hrow _ e.symm; omega)).trans q1
    have p2 : W.cell? ⟨w.heap.size + 1, 0, none⟩ = some (.int .i64 n) := (World.cell?_of_block (a := ⟨w.heap.size + 1, 0, none⟩) (hG.same (w.heap.size + 1) (cell_lt q2) (by omega) fun e => by have := hrow _ e.symm; omega)).trans q2
    by_cases hr : n < 0 ∨ (d.b.length : Int) < n
    ·refine (cutC_no B k _ _ n v (tick d) W hW p2 p1 hr).mono ?_
     rintro e w' ⟨rfl, hb⟩
     have e : cut n d = (tick d, 1) := by unfold cut; rw [if_neg h0, if_pos hr]
     rw [e]
     exact ⟨_, rfl, rfl, v, hW.keep hb, ((Gd.of_below k v hb2).trans hG).trans (Gd.of_below k v hb)⟩
    ·obtain ⟨m, hm⟩ : ∃ m : Nat, n = (m : Int) := ⟨n.toNat, by omega⟩
     subst hm
     refine (cutC_yes B k _ _ m v (tick d) W hW p2 p1 (by show m ≤ d.b.length; omega)).mono ?_
     rintro e w' ⟨rfl, v', h3, g3⟩
     have e : cut (m : Int) d = (⟨d.b.take m, min d.lasts m, d.room, less d.left⟩, 0) := by unfold cut; rw [if_neg h0, if_neg hr]; rfl
     rw [e]
     exact ⟨_, rfl, rfl, v', h3, ((Gd.of_below k v hb2).trans hG).trans g3⟩
   ·rintro e w' ⟨r, rfl, rfl, hr⟩
    exact ⟨rfl, hr⟩
 clear h h2 hk hrow q1 q2 hb2
 generalize (cut n d).1 = d2 at hC ⊢
 generalize (cut n d).2 = r at hC ⊢
 subst hw2
 go_enter Tryz.func37, Tryz.ntmps37
 go_wp2_with (go_at_call 43; refine hC.mono ?_; rintro e w3 ⟨rfl, v3, h3, g3⟩)
 go_ret
 exact ⟨rfl, v3, h3, g3⟩

/-! ### Read -/
theorem own_empty (w : World) (B : Nat) (hB : B ≤ w.heap.size) : Bs B (w.alloc (.cells #[] 5)) (.slice (some ⟨w.heap.size, 0, none⟩) 0 0) [] :=
 ⟨rfl, .inr ⟨w.heap.size, 0, #[], rfl, hB, heap_alloc_new w _, Nat.le_refl _, Nat.zero_le _, rfl, rfl⟩⟩
theorem eql_nil (n c : Nat) (W : World) : (binOp .eql 54 (.slice none n c) (.slice none 0 0)).run Tryz.prog W = .ok (.bool true) W := by kernel_rfl
theorem eql_some (a : Addr) (n c : Nat) (W : World) : (binOp .eql 54 (.slice (some a) n c) (.slice none 0 0)).run Tryz.prog W = .ok (.bool false) W := by kernel_rfl
theorem clone_any (n c : Nat) (a : Option Addr) (y : List UInt8) (w : World) (hS : Sl w a n c y) (hn : n ≤ 1000000000) :
  Calls Tryz.prog 42 #[.slice a n c] w fun e w' => ∃ v', e = .returned v' ∧ Bs w.heap.size w' v' y ∧ Below w.heap.size w w' := by
 rcases a with _ | a
 ·have hy : y = [] := by
   rcases hS.at_.mem with h | ⟨b, off, h, _⟩
   ·exact h
   ·cases h
  subst hy
  have hn0 := hS.at_.len
  simp only [List.length_nil] at hn0
  subst hn0
  clear hS
  have heq := eql_nil 0 c
  go_enter Tryz.func42, Tryz.ntmps42
  go_wp2
  go_ret
  exact ⟨_, rfl, Bs.none _ _, Below.refl _ _⟩
 ·have hb : Below w.heap.size w (w.alloc (.cells #[] 5)) := (Below.refl _ _).alloc (Nat.le_refl _) _
  have hS2 := hS.keep hb
  have hE := own_empty w w.heap.size (Nat.le_refl _)
  have hsz : w.heap.size ≤ (w.alloc (.cells #[] 5)).heap.size := by simp
  have HB : Aside (∀ w3 v', Gr (w.alloc (.cells #[] 5)) (.slice (some ⟨w.heap.size, 0, none⟩) 0 0) w3 v' → Below w.heap.size w w3) := fun w3 v' h3 => hb.trans (h3.below hE hsz)
  clear hS hb
  have heq := eql_some a n c
  go_enter Tryz.func42, Tryz.ntmps42
  go_wp2_with (at_builtin; refine wpList_bytes rfl (.tmp 5) (.tmp 6) rfl w.heap.size _ [] rfl hE (some a) n c y rfl hS2 n (by simp) hn hsz ?_; intro a3 c3 w3 h3 g3)
  go_ret
  exact ⟨_, rfl, h3, HB.out _ _ g3⟩
theorem read_any (B k : Nat) (v : Value) (d : Dk) (w : World) (h : DkIn 65 B w k v d) :
  Calls Tryz.prog 21 #[.pointer (some ⟨k, 0, none⟩)] w fun e w' => ∃ v', e = .returned v' ∧ Bs w.heap.size w' v' d.b ∧ Below w.heap.size w w' := by
 have hm := h.len_max
 obtain ⟨va, vc, hv, hS⟩ := h.own.sl (by omega)
 have hC := clone_any d.b.length vc va d.b w hS (by omega)
 have c0 := h.c0
 rw [hv] at c0
 clear h hS hv
 go_enter Tryz.func21, Tryz.ntmps21
 go_wp2_with (go_at_call 42; refine hC.mono ?_; rintro e w3 ⟨v3, rfl, h3, g3⟩)
 go_ret
 exact ⟨_, rfl, h3, g3⟩
/-! ### Crash -/
set_option maxRecDepth 100000 in
theorem crash_a (B k kq s u ml rm : Nat) (keep lf : Int) (tk : List UInt8) (v : Value) (d9 : Dk) (w : World)
  (c1 : w.cell? ⟨k, 1, none⟩ = some (.int .i64 (s : Nat)))
  (hL : ∀ W, Below w.heap.size w W → Calls Tryz.prog 39 #[.pointer (some ⟨k, 0, none⟩)] W fun e w' => e = .returned (.int .i64 (u : Nat)) ∧ Below w.heap.size w w' ∧ w'.cell? ⟨k, 1, none⟩ = some (.int .i64 (s : Nat)))
  (hV : ∀ W, Below w.heap.size w W → Calls Tryz.prog 38 #[.pointer (some ⟨k, 0, none⟩), .int .i64 (kq : Nat)] W fun e w' => e = .returned (.tuple #[]) ∧ ∃ v', DkIn 65 B w' k v' ⟨tk, ml, rm, lf⟩ ∧ Gd k w v w' v')
  (HE : Aside (∀ (W : World) (v1 : Value), DkIn 65 B W k v1 (halt (-1) ⟨tk, tk.length, rm, lf⟩) → DkIn 65 B W k v1 d9))
  (hu : u ≤ 1048576) (hl2 : s ≤ 1048576) (k0 : keep < 0) (hq : kq = s) :
  Calls Tryz.prog 18 #[.pointer (some ⟨k, 0, none⟩), .int .i64 keep] w fun e w' => e = .returned (.tuple #[]) ∧ ∃ v', DkIn 65 B w' k v' d9 ∧ Gd k w v w' v' := by
 have hF : ∀ v1 d1 w1, DkIn 65 B w1 k v1 d1 → Calls Tryz.prog 40 #[.pointer (some ⟨k, 0, none⟩)] w1 fun e w' => e = .returned (.tuple #[]) ∧ DkIn 65 B w' k v1 ⟨d1.b, d1.b.length, d1.room, d1.left⟩ ∧ Gd k w1 v1 w' v1 := fun v1 d1 w1 h1 => force_any B k v1 d1 w1 h1
 have hH : ∀ v1 d1 w1, DkIn 65 B w1 k v1 d1 → Calls Tryz.prog 16 #[.pointer (some ⟨k, 0, none⟩), .int .i64 (-1)] w1 fun e w' => e = .returned (.tuple #[]) ∧ DkIn 65 B w' k v1 (halt (-1) d1) ∧ Gd k w1 v1 w' v1 := fun v1 d1 w1 h1 => halt_any B k (-1) v1 d1 w1 h1 (by omega)
 have HB : Aside (Below w.heap.size w w) := Below.refl _ _
 have k1 : ¬ (u : Int) < 0 := by omega
 subst hq
 have hw : IntKind.i64.wrap (kq : Int) = kq := by rw [IntKind.wrap_i64]; omega
 go_enter Tryz.func18, Tryz.ntmps18
 go_wp2_with fail
 go_region_with (first | (go_at_call 39; with_reducible refine (hL _ (HB.out.drew)).mono ?_; rintro e w1 ⟨rfl, b1, c1'⟩) | (go_at_call 38; with_reducible refine (hV _ b1).mono ?_; rintro e w2 ⟨rfl, v2, h2, g2⟩))
 all_goals (go_wp2_with (first | (go_at_call 40; with_reducible refine (hF _ _ _ h2).mono ?_; rintro e w3 ⟨rfl, h3, g3⟩) | (go_at_call 16; with_reducible refine (hH _ _ _ h3).mono ?_; rintro e w4 ⟨rfl, h4, g4⟩)))
 all_goals go_end0
 all_goals exact ⟨rfl, v2, HE.out _ _ h4, (g2.trans g3).trans g4⟩
/-! ### Crash -/
set_option maxRecDepth 100000 in
theorem crash_b (B k kq s u ml rm : Nat) (keep lf : Int) (tk : List UInt8) (v : Value) (d9 : Dk) (w : World)
  (c1 : w.cell? ⟨k, 1, none⟩ = some (.int .i64 (s : Nat)))
  (hL : ∀ W, Below w.heap.size w W → Calls Tryz.prog 39 #[.pointer (some ⟨k, 0, none⟩)] W fun e w' => e = .returned (.int .i64 (u : Nat)) ∧ Below w.heap.size w w' ∧ w'.cell? ⟨k, 1, none⟩ = some (.int .i64 (s : Nat)))
  (hV : ∀ W, Below w.heap.size w W → Calls Tryz.prog 38 #[.pointer (some ⟨k, 0, none⟩), .int .i64 (kq : Nat)] W fun e w' => e = .returned (.tuple #[]) ∧ ∃ v', DkIn 65 B w' k v' ⟨tk, ml, rm, lf⟩ ∧ Gd k w v w' v')
  (HE : Aside (∀ (W : World) (v1 : Value), DkIn 65 B W k v1 (halt (-1) ⟨tk, tk.length, rm, lf⟩) → DkIn 65 B W k v1 d9))
  (hu : u ≤ 1048576) (hl2 : s ≤ 1048576) (k0 : ¬ keep < 0) (k1 : (u : Int) < keep) (hq : (kq : Int) = (s : Int) + (u : Int)) :
  Calls Tryz.prog 18 #[.pointer (some ⟨k, 0, none⟩), .int .i64 keep] w fun e w' => e = .returned (.tuple #[]) ∧ ∃ v', DkIn 65 B w' k v' d9 ∧ Gd k w v w' v' := by
 have hF : ∀ v1 d1 w1, DkIn 65 B w1 k v1 d1 → Calls Tryz.prog 40 #[.pointer (some ⟨k, 0, none⟩)] w1 fun e w' => e = .returned (.tuple #[]) ∧ DkIn 65 B w' k v1 ⟨d1.b, d1.b.length, d1.room, d1.left⟩ ∧ Gd k w1 v1 w' v1 := fun v1 d1 w1 h1 => force_any B k v1 d1 w1 h1
 have hH : ∀ v1 d1 w1, DkIn 65 B w1 k v1 d1 → Calls Tryz.prog 16 #[.pointer (some ⟨k, 0, none⟩), .int .i64 (-1)] w1 fun e w' => e = .returned (.tuple #[]) ∧ DkIn 65 B w' k v1 (halt (-1) d1) ∧ Gd k w1 v1 w' v1 := fun v1 d1 w1 h1 => halt_any B k (-1) v1 d1 w1 h1 (by omega)
 have HB : Aside (Below w.heap.size w w) := Below.refl _ _
 have hw : IntKind.i64.wrap ((s : Int) + (u : Int)) = kq := by rw [IntKind.wrap_i64]; omega
 clear hq
 go_enter Tryz.func18, Tryz.ntmps18
 go_wp2_with fail
 go_region_with (first | (go_at_call 39; with_reducible refine (hL _ (HB.out.drew)).mono ?_; rintro e w1 ⟨rfl, b1, c1'⟩) | (go_at_call 38; with_reducible refine (hV _ b1).mono ?_; rintro e w2 ⟨rfl, v2, h2, g2⟩))
 all_goals (go_wp2_with (first | (go_at_call 40; with_reducible refine (hF _ _ _ h2).mono ?_; rintro e w3 ⟨rfl, h3, g3⟩) | (go_at_call 16; with_reducible refine (hH _ _ _ h3).mono ?_; rintro e w4 ⟨rfl, h4, g4⟩)))
 all_goals go_end0
 all_goals exact ⟨rfl, v2, HE.out _ _ h4, (g2.trans g3).trans g4⟩
/-! ### Crash -/
set_option maxRecDepth 100000 in
theorem crash_c (B k kq s u ml rm : Nat) (keep lf : Int) (tk : List UInt8) (v : Value) (d9 : Dk) (w : World)
  (c1 : w.cell? ⟨k, 1, none⟩ = some (.int .i64 (s : Nat)))
  (hL : ∀ W, Below w.heap.size w W → Calls Tryz.prog 39 #[.pointer (some ⟨k, 0, none⟩)] W fun e w' => e = .returned (.int .i64 (u : Nat)) ∧ Below w.heap.size w w' ∧ w'.cell? ⟨k, 1, none⟩ = some (.int .i64 (s : Nat)))
  (hV : ∀ W, Below w.heap.size w W → Calls Tryz.prog 38 #[.pointer (some ⟨k, 0, none⟩), .int .i64 (kq : Nat)] W fun e w' => e = .returned (.tuple #[]) ∧ ∃ v', DkIn 65 B w' k v' ⟨tk, ml, rm, lf⟩ ∧ Gd k w v w' v')
  (HE : Aside (∀ (W : World) (v1 : Value), DkIn 65 B W k v1 (halt (-1) ⟨tk, tk.length, rm, lf⟩) → DkIn 65 B W k v1 d9))
  (hu : u ≤ 1048576) (hl2 : s ≤ 1048576) (k0 : ¬ keep < 0) (k1 : ¬ (u : Int) < keep) (hq : (kq : Int) = (s : Int) + keep) :
  Calls Tryz.prog 18 #[.pointer (some ⟨k, 0, none⟩), .int .i64 keep] w fun e w' => e = .returned (.tuple #[]) ∧ ∃ v', DkIn 65 B w' k v' d9 ∧ Gd k w v w' v' := by
 have hF : ∀ v1 d1 w1, DkIn 65 B w1 k v1 d1 → Calls Tryz.prog 40 #[.pointer (some ⟨k, 0, none⟩)] w1 fun e w' => e = .returned (.tuple #[]) ∧ DkIn 65 B w' k v1 ⟨d1.b, d1.b.length, d1.room, d1.left⟩ ∧ Gd k w1 v1 w' v1 := fun v1 d1 w1 h1 => force_any B k v1 d1 w1 h1
 have hH : ∀ v1 d1 w1, DkIn 65 B w1 k v1 d1 → Calls Tryz.prog 16 #[.pointer (some ⟨k, 0, none⟩), .int .i64 (-1)] w1 fun e w' => e = .returned (.tuple #[]) ∧ DkIn 65 B w' k v1 (halt (-1) d1) ∧ Gd k w1 v1 w' v1 := fun v1 d1 w1 h1 => halt_any B k (-1) v1 d1 w1 h1 (by omega)
 have HB : Aside (Below w.heap.size w w) := Below.refl _ _
 have hw : IntKind.i64.wrap ((s : Int) + keep) = kq := by rw [IntKind.wrap_i64]; omega
 clear hq
 go_enter Tryz.func18, Tryz.ntmps18
 go_wp2_with fail
 go_region_with (first | (go_at_call 39; with_reducible refine (hL _ (HB.out.drew)).mono ?_; rintro e w1 ⟨rfl, b1, c1'⟩) | (go_at_call 38; with_reducible refine (hV _ b1).mono ?_; rintro e w2 ⟨rfl, v2, h2, g2⟩))
 all_goals (go_wp2_with (first | (go_at_call 40; with_reducible refine (hF _ _ _ h2).mono ?_; rintro e w3 ⟨rfl, h3, g3⟩) | (go_at_call 16; with_reducible refine (hH _ _ _ h3).mono ?_; rintro e w4 ⟨rfl, h4, g4⟩)))
 all_goals go_end0
 all_goals exact ⟨rfl, v2, HE.out _ _ h4, (g2.trans g3).trans g4⟩
/-! ### Crash -/
set_option maxRecDepth 100000 in
theorem crash_any (B k : Nat) (keep : Int) (v : Value) (d : Dk) (w : World) (h : DkIn 65 B w k v d) :
  Calls Tryz.prog 18 #[.pointer (some ⟨k, 0, none⟩), .int .i64 keep] w fun e w' => e = .returned (.tuple #[]) ∧ ∃ v', DkIn 65 B w' k v' (crash keep d) ∧ Gd k w v w' v' := by
 have c1 := h.c1
 have hm := h.len_max
 have hl := h.fit.lasts
 have hk := kept_le hl keep
 have hL : ∀ W, Below w.heap.size w W → Calls Tryz.prog 39 #[.pointer (some ⟨k, 0, none⟩)] W fun e w' => e = .returned (.int .i64 (d.b.length - d.lasts : Nat)) ∧ Below w.heap.size w w' ∧ w'.cell? ⟨k, 1, none⟩ = some (.int .i64 (d.lasts : Nat)) := fun W hW =>
  (loose_any B k v d W (h.keep hW)).mono fun e w' ⟨he, hb⟩ => ⟨he, hW.trans (hb.mono hW.size), ((h.keep hW).keep hb).c1⟩
 have hV : ∀ W, Below w.heap.size w W → Calls Tryz.prog 38 #[.pointer (some ⟨k, 0, none⟩), .int .i64 (kept keep d : Nat)] W fun e w' => e = .returned (.tuple #[]) ∧ ∃ v', DkIn 65 B w' k v' ⟨d.b.take (kept keep d), min d.lasts (kept keep d), d.room, d.left⟩ ∧ Gd k w v w' v' := fun W hW =>
  (leave_any B k _ v d W (h.keep hW) hk).mono fun e w' ⟨he, v', h1, h2⟩ => ⟨he, v', h1, (Gd.of_below k v hW).trans h2⟩
 have hq : (kept keep d : Int) = (d.lasts : Int) + min (max keep 0) ((d.b.length - d.lasts : Nat) : Int) := by unfold kept; omega
 have HE : Aside (∀ (W : World) (v1 : Value), DkIn 65 B W k v1 (halt (-1) ⟨d.b.take (kept keep d), (d.b.take (kept keep d)).length, d.room, d.left⟩) → DkIn 65 B W k v1 (crash keep d)) := fun W v1 h1 => by
  have e : (d.b.take (kept keep d)).length = kept keep d := by rw [List.length_take]; omega
  have e2 : crash keep d = halt (-1) ⟨d.b.take (kept keep d), (d.b.take (kept keep d)).length, d.room, d.left⟩ := by
   unfold crash halt; rw [e]; rfl
  rw [e2]; exact h1
 clear h hk
 generalize crash keep d = d9 at HE ⊢
 generalize min d.lasts (kept keep d) = ml at hV
 generalize d.b.take (kept keep d) = tk at HE hV
 generalize kept keep d = kq at hV hq
 have hu : d.b.length - d.lasts ≤ 1048576 := by omega
 generalize d.b.length - d.lasts = u at hL hq hu
 have hl2 : d.lasts ≤ 1048576 := by omega
 generalize d.lasts = s at c1 hL hq hl2
 clear hl hm
 by_cases k0 : keep < 0
 ·exact crash_a B k kq s u ml _ keep _ tk v d9 w c1 hL hV HE hu hl2 k0 (by omega)
 ·by_cases k1 : (u : Int) < keep
  ·exact crash_b B k kq s u ml _ keep _ tk v d9 w c1 hL hV HE hu hl2 k0 k1 (by omega)
  ·exact crash_c B k kq s u ml _ keep _ tk v d9 w c1 hL hV HE hu hl2 k0 k1 (by omega)
end disk
namespace disk
open bytes
def OneF (B : Nat) (w : World) (k : Nat) (d : Dk) (us : List (Value × List UInt8)) : Prop :=
 ∃ v, DkIn 65 B w k v d ∧ ∀ u ∈ us, Bs B w u.1 u.2 ∧ ∀ q, v.ownBlock = some q → u.1.ownBlock ≠ some q
section
variable {B k : Nat} {w : World} {d d' : Dk} {us : List (Value × List UInt8)}
theorem OneF.keep {w' : World} (h : OneF B w k d us) (hb : Below w.heap.size w w') : OneF B w' k d us := by
 obtain ⟨v, h1, hu⟩ := h
 exact ⟨v, h1.keep hb, fun u hm => ⟨(hu u hm).1.keep hb, (hu u hm).2⟩⟩
theorem OneF.base (h : OneF B w k d us) : B ≤ w.heap.size := by
 obtain ⟨v, h1, hu⟩ := h
 exact h1.base
theorem OneF.len (h : OneF B w k d us) : d.b.length ≤ 1048576 := by
 obtain ⟨v, h1, hu⟩ := h
 exact h1.len_max
theorem OneF.fit (h : OneF B w k d us) : Fit d := by
 obtain ⟨v, h1, hu⟩ := h
 exact h1.fit
theorem OneF.less {vs : List (Value × List UInt8)} (h : OneF B w k d us) (hs : ∀ u ∈ vs, u ∈ us) : OneF B w k d vs := by
 obtain ⟨v, h1, hu⟩ := h
 exact ⟨v, h1, fun u hm => hu u (hs u hm)⟩
theorem OneF.row {u : Value} {l : List UInt8} (h : OneF B w k d us) (hm : (u, l) ∈ us) : Bs B w u l := by
 obtain ⟨v, h1, hu⟩ := h
 exact (hu _ hm).1
theorem OneF.more {w' : World} {u : Value} {l : List UInt8} (h : OneF B w k d us) (hb : Below w.heap.size w w') (ho : Bs w.heap.size w' u l) : OneF B w' k d ((u, l) :: us) := by
 obtain ⟨v, h1, hu⟩ := h
 refine ⟨v, h1.keep hb, fun x hm => ?_⟩
 rcases List.mem_cons.1 hm with rfl | hm
 ·refine ⟨own_mono ho h1.base, fun q hq hq2 => ?_⟩
  have := (h1.own.lt q hq).2
  have := (ho.lt q hq2).1
  omega
 ·exact ⟨(hu x hm).1.keep hb, (hu x hm).2⟩
theorem OneF.grow {w' : World} {u u' : Value} {l l' : List UInt8} (h : OneF B w k d [(u, l)]) (g : Gr w u w' u') (ho : Bs B w' u' l') : OneF B w' k d [(u', l')] ∧ Below B w w' := by
 obtain ⟨v, h1, hu⟩ := h
 obtain ⟨hu1, ap⟩ := hu (u, l) (by simp)
 have hk : some k ≠ u.ownBlock := box_row h1.box tk1 hu1
 refine ⟨⟨v, ⟨(g.grown.block k h1.lt hk).trans h1.box, h1.low, own_grown h1.own g.grown fun q hq e => ap q hq e, h1.fit⟩, fun x hm => ?_⟩, g.below hu1 h1.base⟩
 obtain rfl : x = (u', l') := by simpa using hm
 refine ⟨ho, fun q hq hq2 => ?_⟩
 rcases g.row q hq2 with h3 | h3
 ·exact ap q hq h3
 ·have := (h1.own.lt q hq).2; omega
end
end disk
end Go.Proofs.YtlcjllgfpfldlaaGreat
