/-
  The contracts of Append, Sync, Cut, Crash and Read.
-/
import Derived.Test.YtpaekckahapngaaDiskCall
import Derived.Shelf.Abstract
namespace Go.Proofs.Ytpaekckahapngaa.disk
open Go.ChangeShapes Go.WideShapes Go.ChangeAt Go.RowKit Go.Deep
open Go.Proofs.Ytpaekckahapngaa.bytes Go.Shelf
set_option linter.unusedVariables false
set_option maxRecDepth 100000
set_option linter.unusedSimpArgs false

/-! ### what Cut and Sync hand on -/
theorem cutC_no (B k bx dx : Nat) (n : Int) (v : Value) (d : Dk) (w : World) (h : DkIn 52 B w k v d) (hb : w.cell? ⟨bx, 0, none⟩ = some (.int .i64 n)) (hd : w.cell? ⟨dx, 0, none⟩ = some (.pointer (some ⟨k, 0, none⟩))) (hlt : n < 0 ∨ (d.b.length : Int) < n) :
    Calls Try.prog 35 #[.pointer (some ⟨bx, 0, none⟩), .pointer (some ⟨dx, 0, none⟩)] w fun e w' => e = .returned (.int .u16 1) ∧ Below w.heap.size w w' := by
  obtain ⟨va, vc, rfl⟩ := h.own.form
  have c0 := h.c0
  have hl := h.len_max
  clear h
  generalize d.b.length = q at *
  by_cases h0 : n < 0
  · have hz : decide (n < 0) = true := decide_eq_true h0
    clear hlt
    go_enter Try.func35, Try.ntmps35
    go_wp2_with fail
    go_quiet (fail)
    generalize hw2 : w.drewN _ = w2
    go_wp2
    go_ret
    exact ⟨rfl, by subst hw2; exact below_dn _ _ _⟩
  · have hz : decide (n < 0) = false := decide_eq_false h0
    have h1 : (q : Int) < n := by omega
    clear hlt
    go_enter Try.func35, Try.ntmps35
    go_wp2_with fail
    go_quiet (fail)
    generalize hw2 : w.drewN _ = w2
    go_wp2
    go_ret
    exact ⟨rfl, by subst hw2; exact below_dn _ _ _⟩
set_option maxHeartbeats 1000000 in
theorem cutC_yes (B k bx dx m : Nat) (v : Value) (d : Dk) (w : World) (h : DkIn 52 B w k v d) (hb : w.cell? ⟨bx, 0, none⟩ = some (.int .i64 (m : Nat))) (hd : w.cell? ⟨dx, 0, none⟩ = some (.pointer (some ⟨k, 0, none⟩))) (hlt : m ≤ d.b.length) :
    Calls Try.prog 35 #[.pointer (some ⟨bx, 0, none⟩), .pointer (some ⟨dx, 0, none⟩)] w fun e w' => e = .returned (.int .u16 0) ∧ ∃ v', DkIn 52 B w' k v' ⟨d.b.take m, min d.lasts m, d.room, d.left⟩ ∧ Gd k w v w' v' := by
  have hC : ∀ W, Below w.heap.size w W → Calls Try.prog 33 #[.pointer (some ⟨k, 0, none⟩), .int .i64 (m : Nat)] W fun e w' => e = .returned (.tuple #[]) ∧ ∃ v', DkIn 52 B w' k v' ⟨d.b.take m, min d.lasts m, d.room, d.left⟩ ∧ Gd k w v w' v' := fun W hW =>
    (leave_any B k m v d W (h.keep hW) hlt).mono fun e w' ⟨he, v', h1, h2⟩ => ⟨he, v', h1, (Gd.of_below k v hW).trans h2⟩
  obtain ⟨va, vc, hv⟩ := h.own.form
  have c0 := h.c0
  rw [hv] at c0
  have hl := h.len_max
  clear h hv
  generalize d.b.take m = tk at hC ⊢
  generalize min d.lasts m = tm at hC ⊢
  generalize d.b.length = q at *
  have hz : decide ((m : Int) < 0) = false := decide_eq_false (by omega)
  have hz1 : ¬ (q : Int) < (m : Int) := by omega
  go_enter Try.func35, Try.ntmps35
  go_wp2_with fail
  go_quiet (fail)
  have HB : Aside (Below w.heap.size w (w.drewN nq)) := below_dn _ _ _
  have hb2 : (w.drewN nq).cell? ⟨bx, 0, none⟩ = some (.int .i64 (m : Nat)) := hb
  have hd2 : (w.drewN nq).cell? ⟨dx, 0, none⟩ = some (.pointer (some ⟨k, 0, none⟩)) := hd
  generalize w.drewN nq = w2 at HB hb2 hd2 ⊢
  clear hb hd c0
  go_wp2_with fail
  go_region_with (go_at_call 33; refine (hC _ HB.out.drew).mono ?_; rintro e w3 ⟨rfl, v3, h3, g3⟩)
  all_goals go_wp2
  all_goals go_ret
  all_goals exact ⟨rfl, v3, h3, g3⟩
theorem syncC_any (B k dx : Nat) (v : Value) (d : Dk) (w : World) (h : DkIn 52 B w k v d) (hd : w.cell? ⟨dx, 0, none⟩ = some (.pointer (some ⟨k, 0, none⟩))) :
    Calls Try.prog 31 #[.pointer (some ⟨dx, 0, none⟩)] w fun e w' => e = .returned (.int .u16 0) ∧ DkIn 52 B w' k v ⟨d.b, d.b.length, d.room, d.left⟩ ∧ Gd k w v w' v := by
  have hC := force_any B k v d w h
  clear h
  go_enter Try.func31, Try.ntmps31
  go_wp2_with (go_at_call 32; refine hC.mono ?_; rintro e w3 ⟨rfl, h3, g3⟩)
  go_ret
  exact ⟨rfl, h3, g3⟩

/-! ### Append, Sync, Cut -/
theorem two_boxes (w : World) (c1 c2 : Value) (t1 t2 : TypeId) : ((w.alloc (.cells #[c1] t1)).alloc (.cells #[c2] t2)).cell? ⟨w.heap.size, 0, none⟩ = some c1 ∧ ((w.alloc (.cells #[c1] t1)).alloc (.cells #[c2] t2)).cell? ⟨w.heap.size + 1, 0, none⟩ = some c2 := by
  constructor <;> simp [go_sem]
set_option maxHeartbeats 1000000 in
theorem append_any (B k n c : Nat) (a : Option Addr) (y : List UInt8) (v : Value) (d : Dk) (w : World) (h : DkIn 52 B w k v d) (hS : Sl w a n c y) :
    Calls Try.prog 12 #[.pointer (some ⟨k, 0, none⟩), .slice a n c] w fun e w' => e = .returned (.int .u16 ((app y d).2 : Nat)) ∧ ∃ v', DkIn 52 B w' k v' (app y d).1 ∧ Gd k w v w' v' := by
  have hn := hS.at_.len
  obtain ⟨w2, hw2⟩ : ∃ w2, (w.alloc (.cells #[.pointer (some ⟨k, 0, none⟩)] 22)).alloc (.cells #[.slice a n c] 29) = w2 := ⟨_, rfl⟩
  have hb2 : Below w.heap.size w w2 := by rw [← hw2]; exact ((Below.refl _ _).alloc (Nat.le_refl _) _).alloc (by simp) _
  obtain ⟨q1, q2⟩ := two_boxes w (.pointer (some ⟨k, 0, none⟩)) (.slice a n c) 22 29
  rw [hw2] at q1 q2
  have h2 := h.keep hb2
  have S2 := hS.keep hb2
  have hk := h.lt
  have hrow : ∀ g, v.ownBlock = some g → g < w.heap.size := fun g hg => (h.own.lt g hg).2
  have hC : Calls Try.prog 22 #[.pointer (some ⟨k, 0, none⟩), .func (.func 23) #[] #[.pointer (some ⟨w.heap.size + 1, 0, none⟩), .pointer (some ⟨w.heap.size, 0, none⟩)]] w2 fun e w' => e = .returned (.int .u16 ((app y d).2 : Nat)) ∧ ∃ v', DkIn 52 B w' k v' (app y d).1 ∧ Gd k w v w' v' := by
    by_cases h0 : d.left = 0
    · refine (call_stop B k _ _ v d w2 h2 h0).mono ?_
      rintro e w' ⟨rfl, rfl⟩
      rw [app_halted h0]
      exact ⟨rfl, v, h2, Gd.of_below k v hb2⟩
    · refine (call_go B k _ _ v d w2 h2 h0 (fun r w' => r = ((app y d).2 : Nat) ∧ ∃ v', DkIn 52 B w' k v' (app y d).1 ∧ Gd k w v w' v') (enters_of Try.func23 (by kernel_rfl) rfl) ?_).mono ?_
      · intro W hW hG hg
        have p1 : W.cell? ⟨w.heap.size, 0, none⟩ = some (.pointer (some ⟨k, 0, none⟩)) := (World.cell?_of_block (a := ⟨w.heap.size, 0, none⟩) (hG.same w.heap.size (cell_lt q1) (by omega) fun e => by have := hrow _ e.symm; omega)).trans q1
        have p2 : W.cell? ⟨w.heap.size + 1, 0, none⟩ = some (.slice a n c) := (World.cell?_of_block (a := ⟨w.heap.size + 1, 0, none⟩) (hG.same (w.heap.size + 1) (cell_lt q2) (by omega) fun e => by have := hrow _ e.symm; omega)).trans q2
        have p3 := h2.far S2 hg
        by_cases hr : d.room < d.b.length + y.length
        · refine (appendC_no B k _ _ n c a y v (tick d) W hW p3 p2 p1 (by rw [← hn]; exact hr)).mono ?_
          rintro e w' ⟨rfl, hb⟩
          have e : app y d = (tick d, 100) := by unfold app; rw [if_neg h0, if_pos hr]
          rw [e]
          exact ⟨_, rfl, rfl, v, hW.keep hb, ((Gd.of_below k v hb2).trans hG).trans (Gd.of_below k v hb)⟩
        · refine (appendC_yes B k _ _ n c a y v (tick d) W hW p3 p2 p1 (by rw [← hn]; show d.b.length + y.length ≤ d.room; omega)).mono ?_
          rintro e w' ⟨rfl, v', h3, g3⟩
          have e : app y d = (⟨d.b ++ y, d.lasts, d.room, less d.left⟩, 0) := by unfold app; rw [if_neg h0, if_neg hr]
          rw [e]
          exact ⟨_, rfl, rfl, v', h3, ((Gd.of_below k v hb2).trans hG).trans g3⟩
      · rintro e w' ⟨r, rfl, rfl, hr⟩
        exact ⟨rfl, hr⟩
  clear h hS h2 S2 hk hrow q1 q2 hb2 hn
  generalize (app y d).1 = d2 at hC ⊢
  generalize (app y d).2 = r at hC ⊢
  subst hw2
  go_enter Try.func12, Try.ntmps12
  go_wp2_with (go_at_call 22; refine hC.mono ?_; rintro e w3 ⟨rfl, v3, h3, g3⟩)
  go_ret
  exact ⟨rfl, v3, h3, g3⟩
end Go.Proofs.Ytpaekckahapngaa.disk
