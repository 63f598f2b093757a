/-
  The contracts of the chapter's own disk.
-/
import Derived.Test.YtpaekckahapngaaDiskStore
namespace Go.Proofs.Ytpaekckahapngaa.disk
open Go.ChangeShapes Go.WideShapes Go.ChangeAt Go.RowKit Go.Deep
open Go.Proofs.Ytpaekckahapngaa.bytes
set_option linter.unusedVariables false
set_option maxRecDepth 100000
set_option linter.unusedSimpArgs false

theorem refHalted_any (B k : Nat) (v : Value) (d : Dk) (w : World) (h : DkIn 40 B w k v d) :
    Calls Try.prog 18 #[.pointer (some ⟨k, 0, none⟩)] w fun e w' => e = .returned (.bool (decide (d.left = 0))) ∧ w' = w := by
  have c3 := h.c3
  clear h
  generalize d.left = n at c3 ⊢
  go_enter Try.func18, Try.ntmps18
  go_wp2
  go_ret
  exact ⟨rfl, rfl⟩

theorem refHalt_any (B k : Nat) (n : Int) (v : Value) (d : Dk) (w : World) (h : DkIn 40 B w k v d) (hn : n ≤ 9223372036854775807) :
    Calls Try.prog 29 #[.pointer (some ⟨k, 0, none⟩), .int .i64 n] w fun e w' => e = .returned (.tuple #[]) ∧ DkIn 40 B w' k v (halt n d) ∧ Gd k w v w' v := by
  have c3 := h.c3
  have z3 := h.box.frz 3
  have HR : Aside (∀ m, max n (-1) = m → DkIn 40 B (w.setCell ⟨k, 3, none⟩ (.int .i64 m)) k v (halt n d) ∧ Gd k w v (w.setCell ⟨k, 3, none⟩ (.int .i64 m)) v) := fun m hm => by
    subst hm
    exact ⟨h.set_left tk2 _ ⟨by omega, by omega⟩, Gd.set k 3 _ _ _⟩
  clear h
  generalize halt n d = d2 at HR ⊢
  generalize d.left = l at c3
  go_enter Try.func29, Try.ntmps29
  go_wp2
  all_goals go_end0
  all_goals exact ⟨rfl, HR.out _ (by omega)⟩

theorem new_box2 {T : TypeId} (w : World) (m : Nat) (h : m ≤ 1048576) (B : Nat) (hB : B ≤ w.heap.size) : DkIn T B (w.alloc (.cells #[.slice none 0 0, .int .i64 0, .int .i64 (m : Nat), .int .i64 (-1)] T)) w.heap.size (.slice none 0 0) (new m) :=
  ⟨Boxed.new w _ _, hB, Bs.none _ _, Fit.new h⟩
theorem refNew_no (n : Int) (w : World) (h : n < 0 ∨ 1048576 < n) :
    Calls Try.prog 16 #[.int .i64 n] w fun e w' => e = .returned (.pointer none) ∧ w' = w := by
  by_cases h0 : n < 0
  · go_enter Try.func16, Try.ntmps16
    go_wp2
    go_ret
    exact ⟨rfl, rfl⟩
  · have h1 : 1048576 < n := by omega
    go_enter Try.func16, Try.ntmps16
    go_wp2
    go_ret
    exact ⟨rfl, rfl⟩
theorem refNew_any (B m : Nat) (w : World) (h : m ≤ 1048576) (hB : B ≤ w.heap.size) :
    Calls Try.prog 16 #[.int .i64 (m : Nat)] w fun e w' => e = .returned (.pointer (some ⟨w.heap.size, 0, none⟩)) ∧ DkIn 40 B w' w.heap.size (.slice none 0 0) (new m) ∧ Below w.heap.size w w' := by
  have HR : Aside (DkIn 40 B (w.alloc (.cells #[.slice none 0 0, .int .i64 0, .int .i64 (m : Nat), .int .i64 (-1)] 40)) w.heap.size (.slice none 0 0) (new m)) := new_box2 w m h B hB
  have h0 : ¬ (m : Int) < 0 := by omega
  have h1 : ¬ 1048576 < (m : Int) := by omega
  go_enter Try.func16, Try.ntmps16
  go_wp2
  go_ret
  exact ⟨rfl, HR.out, by (repeat (first | with_reducible exact Below.refl _ _ | (with_reducible refine Below.drew ?_) | (with_reducible refine Below.alloc ?_ (by first | omega | (simp; done) | (simp; omega)) _) | (with_reducible refine Below.setCell ?_ (by first | exact Nat.le_refl _ | omega | (simp; done) | (simp; omega)) _)))⟩

theorem refCall_any (B k : Nat) (v : Value) (d : Dk) (w : World) (h : DkIn 40 B w k v d) :
    Calls Try.prog 36 #[.pointer (some ⟨k, 0, none⟩)] w fun e w' => e = .returned (.bool (!decide (d.left = 0))) ∧ DkIn 40 B w' k v (tick d) ∧ Gd k w v w' v ∧ w.grownBy w' (some k) := by
  have c3 := h.c3
  have z3 := h.box.frz 3
  have hl := h.fit.left
  have g0 : w.grownBy w (some k) := ⟨rfl, rfl, rfl, Nat.le_refl _, fun _ _ _ => rfl⟩
  by_cases h0 : d.left = 0
  · have HR : Aside (DkIn 40 B w k v (tick d) ∧ Gd k w v w v ∧ w.grownBy w (some k)) := by
      have e : tick d = d := by unfold tick less; rw [if_neg (by omega)]
      rw [e]; exact ⟨h, Gd.refl _ _ _, g0⟩
    rw [h0] at c3 ⊢
    clear h
    go_enter Try.func36, Try.ntmps36
    go_wp2
    go_ret
    exact ⟨rfl, HR.out⟩
  · by_cases h1 : 0 < d.left
    · have HR : Aside (DkIn 40 B (w.setCell ⟨k, 3, none⟩ (.int .i64 (d.left - 1))) k v (tick d) ∧ Gd k w v (w.setCell ⟨k, 3, none⟩ (.int .i64 (d.left - 1))) v ∧ w.grownBy (w.setCell ⟨k, 3, none⟩ (.int .i64 (d.left - 1))) (some k)) := by
        have e : tick d = ⟨d.b, d.lasts, d.room, d.left - 1⟩ := by unfold tick less; rw [if_pos (by omega)]
        rw [e]
        exact ⟨h.set_left tk2 _ ⟨by omega, by omega⟩, Gd.set k 3 _ _ _, rfl, rfl, rfl, by simp [World.setCell], fun i _ hi => Below.heap_setCell _ _ _ i fun e => hi (by rw [e])⟩
      have hd : (!decide (d.left = 0)) = true := by simp [h0]
      rw [hd]
      clear h hd
      generalize d.left = n at *
      go_enter Try.func36, Try.ntmps36
      go_wp2
      go_ret
      exact ⟨rfl, HR.out⟩
    · have HR : Aside (DkIn 40 B w k v (tick d) ∧ Gd k w v w v ∧ w.grownBy w (some k)) := by
        have e : tick d = d := by unfold tick less; rw [if_neg (by omega)]
        rw [e]; exact ⟨h, Gd.refl _ _ _, g0⟩
      have hd : (!decide (d.left = 0)) = true := by simp [h0]
      rw [hd]
      have hm1 : d.left = -1 := by omega
      rw [hm1] at c3
      clear h hd
      go_enter Try.func36, Try.ntmps36
      go_wp2
      go_ret
      exact ⟨rfl, HR.out⟩

set_option maxHeartbeats 1000000 in
theorem refSync_any (B k : Nat) (v : Value) (d : Dk) (w : World) (h : DkIn 40 B w k v d) :
    Calls Try.prog 26 #[.pointer (some ⟨k, 0, none⟩)] w fun e w' => e = .returned (.int .i64 ((sync d).2 : Nat)) ∧ ∃ v', DkIn 40 B w' k v' (sync d).1 ∧ Gd k w v w' v' := by
  have hC := refCall_any B k v d w h
  by_cases h0 : d.left = 0
  · rw [sync_halted h0]
    have ht : tick d = d := by unfold tick less; rw [if_neg (by omega)]
    rw [ht] at hC
    have hd : (!decide (d.left = 0)) = false := by simp [h0]
    rw [hd] at hC
    clear h
    go_enter Try.func26, Try.ntmps26
    go_wp2_with (go_at_call 36; refine hC.mono ?_; rintro e w2 ⟨rfl, h2, g2, gg2⟩)
    go_ret
    exact ⟨rfl, v, h2, g2⟩
  · have e : sync d = (⟨d.b, d.b.length, d.room, less d.left⟩, 0) := by unfold sync; rw [if_neg h0]
    rw [e]
    have hd : (!decide (d.left = 0)) = true := by simp [h0]
    rw [hd] at hC
    obtain ⟨va, vc, rfl⟩ := h.own.form
    clear h
    go_enter Try.func26, Try.ntmps26
    go_wp2_with (go_at_call 36; refine hC.mono ?_; rintro e w2 ⟨rfl, h2, g2, gg2⟩; have q0 : w2.cell? ⟨k, 0, none⟩ = some (.slice va d.b.length vc) := h2.c0; have z1 := h2.box.frz 1; have q1 := h2.c1)
    go_ret
    exact ⟨rfl, _, DkIn.set_lasts h2 tk2 d.b.length (Nat.le_refl _), g2.trans (Gd.set k 1 _ _ _)⟩
end Go.Proofs.Ytpaekckahapngaa.disk
