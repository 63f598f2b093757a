/-
  The contracts of Halt, Halted, New and call; of what Append, Sync and Cut hand on.
-/
import Derived.Test.YtpaekckahapngaaDiskStore
namespace Go.Proofs.Ytpaekckahapngaa.disk
open Go.ChangeShapes Go.WideShapes Go.ChangeAt Go.RowKit Go.Deep
open Go.Proofs.Ytpaekckahapngaa.bytes
set_option linter.unusedVariables false
set_option maxRecDepth 100000
set_option linter.unusedSimpArgs false

theorem halted_any (B k : Nat) (v : Value) (d : Dk) (w : World) (h : DkIn 52 B w k v d) :
    Calls Try.prog 11 #[.pointer (some ⟨k, 0, none⟩)] w fun e w' => e = .returned (.bool (decide (d.left = 0))) ∧ w' = w := by
  have c3 := h.c3
  clear h
  generalize d.left = n at c3 ⊢
  go_enter Try.func11, Try.ntmps11
  go_wp2
  go_ret
  exact ⟨rfl, rfl⟩

theorem halt_any (B k : Nat) (n : Int) (v : Value) (d : Dk) (w : World) (h : DkIn 52 B w k v d) (hn : n ≤ 9223372036854775807) :
    Calls Try.prog 10 #[.pointer (some ⟨k, 0, none⟩), .int .i64 n] w fun e w' => e = .returned (.tuple #[]) ∧ DkIn 52 B w' k v (halt n d) ∧ Gd k w v w' v := by
  have c3 := h.c3
  have z3 := h.box.frz 3
  have HR : Aside (∀ m, max n (-1) = m → DkIn 52 B (w.setCell ⟨k, 3, none⟩ (.int .i64 m)) k v (halt n d) ∧ Gd k w v (w.setCell ⟨k, 3, none⟩ (.int .i64 m)) v) := fun m hm => by
    subst hm
    exact ⟨h.set_left tk1 _ ⟨by omega, by omega⟩, Gd.set k 3 _ _ _⟩
  clear h
  generalize halt n d = d2 at HR ⊢
  generalize d.left = l at c3
  go_enter Try.func10, Try.ntmps10
  go_wp2
  all_goals go_end0
  all_goals exact ⟨rfl, HR.out _ (by omega)⟩

theorem new_no (n : Int) (w : World) (h : n < 0 ∨ 1048576 < n) :
    Calls Try.prog 9 #[.int .i64 n] w fun e w' => e = .returned (.pointer none) ∧ w' = w := by
  by_cases h0 : n < 0
  · go_enter Try.func9, Try.ntmps9
    go_wp2
    go_ret
    exact ⟨rfl, rfl⟩
  · have h1 : 1048576 < n := by omega
    go_enter Try.func9, Try.ntmps9
    go_wp2
    go_ret
    exact ⟨rfl, rfl⟩
theorem new_box {T : TypeId} (w : World) (m : Nat) (h : m ≤ 1048576) (B : Nat) (hB : B ≤ w.heap.size) : DkIn T B (w.alloc (.cells #[.slice none 0 0, .int .i64 0, .int .i64 (m : Nat), .int .i64 (-1)] T)) w.heap.size (.slice none 0 0) (new m) :=
  ⟨Boxed.new w _ _, hB, Bs.none _ _, Fit.new h⟩
theorem new_any (B m : Nat) (w : World) (h : m ≤ 1048576) (hB : B ≤ w.heap.size) :
    Calls Try.prog 9 #[.int .i64 (m : Nat)] w fun e w' => e = .returned (.pointer (some ⟨w.heap.size, 0, none⟩)) ∧ DkIn 52 B w' w.heap.size (.slice none 0 0) (new m) ∧ Below w.heap.size w w' := by
  have HR : Aside (DkIn 52 B (w.alloc (.cells #[.slice none 0 0, .int .i64 0, .int .i64 (m : Nat), .int .i64 (-1)] 52)) w.heap.size (.slice none 0 0) (new m)) := new_box w m h B hB
  have h0 : ¬ (m : Int) < 0 := by omega
  have h1 : ¬ 1048576 < (m : Int) := by omega
  go_enter Try.func9, Try.ntmps9
  go_wp2
  go_ret
  exact ⟨rfl, HR.out, by (repeat (first | with_reducible exact Below.refl _ _ | (with_reducible refine Below.drew ?_) | (with_reducible refine Below.alloc ?_ (by first | omega | (simp; done) | (simp; omega)) _) | (with_reducible refine Below.setCell ?_ (by first | exact Nat.le_refl _ | omega | (simp; done) | (simp; omega)) _)))⟩

theorem call_stop (B k g : Nat) (cb : Array Value) (v : Value) (d : Dk) (w : World) (h : DkIn 52 B w k v d) (h0 : d.left = 0) :
    Calls Try.prog 22 #[.pointer (some ⟨k, 0, none⟩), .func (.func g) #[] cb] w fun e w' => e = .returned (.int .u16 100) ∧ w' = w := by
  have hC := halted_any B k v d w h
  rw [h0] at hC
  simp only [decide_true] at hC
  clear h h0
  go_enter Try.func22, Try.ntmps22
  go_wp2_with (go_at_call 11; refine hC.mono ?_; rintro e w1 ⟨rfl, rfl⟩)
  go_ret
  exact ⟨rfl, rfl⟩

theorem call_go (B k g : Nat) (cb : Array Value) (v : Value) (d : Dk) (w : World) (h : DkIn 52 B w k v d) (h0 : d.left ≠ 0) (S : Int → World → Prop)
    (eg : ∀ args w, (callFunc g args).run Try.prog w = .ok (.enter g args) w)
    (hT : ∀ W, DkIn 52 B W k v (tick d) → Gd k w v W v → w.grownBy W (some k) → Calls Try.prog g cb W fun e w' => ∃ r, e = .returned (.int .u16 r) ∧ S r w') :
    Calls Try.prog 22 #[.pointer (some ⟨k, 0, none⟩), .func (.func g) #[] cb] w fun e w' => ∃ r, e = .returned (.int .u16 r) ∧ S r w' := by
  have hC := halted_any B k v d w h
  have hd : decide (d.left = 0) = false := decide_eq_false h0
  rw [hd] at hC
  have c3 := h.c3
  have z3 := h.box.frz 3
  have hl := h.fit.left
  by_cases h1 : d.left = -1
  · have hT1 := hT w (by
      have e : tick d = d := by unfold tick less; rw [if_neg (by omega)]
      rw [e]; exact h) (Gd.refl _ _ _) ⟨rfl, rfl, rfl, Nat.le_refl _, fun _ _ _ => rfl⟩
    clear h hT hd h0
    rw [h1] at c3
    go_enter Try.func22, Try.ntmps22
    go_wp2_with (first | (go_at_call 11; refine hC.mono ?_; rintro e w1 ⟨rfl, rfl⟩) | (refine hT1.mono ?_; rintro e w2 ⟨r, rfl, hs⟩))
    go_ret
    exact ⟨r, rfl, hs⟩
  · have hT1 := hT (w.setCell ⟨k, 3, none⟩ (.int .i64 (d.left - 1))) (by
      have e : tick d = ⟨d.b, d.lasts, d.room, d.left - 1⟩ := by unfold tick less; rw [if_pos (by omega)]
      rw [e]; exact h.set_left tk1 _ ⟨by omega, by omega⟩) (Gd.set k 3 _ _ _) ⟨rfl, rfl, rfl, by simp [World.setCell], fun i _ hi => Below.heap_setCell _ _ _ i fun e => hi (by rw [e])⟩
    clear h hT hd
    generalize d.left = n at *
    go_enter Try.func22, Try.ntmps22
    go_wp2_with (first | (go_at_call 11; refine hC.mono ?_; rintro e w1 ⟨rfl, rfl⟩) | (refine hT1.mono ?_; rintro e w2 ⟨r, rfl, hs⟩))
    go_ret
    exact ⟨r, rfl, hs⟩

/-! ### what is handed on -/
theorem appendC_no (B k bx dx n c : Nat) (a : Option Addr) (y : List UInt8) (v : Value) (d : Dk) (w : World) (h : DkIn 52 B w k v d) (hS : Sl w a n c y) (hb : w.cell? ⟨bx, 0, none⟩ = some (.slice a n c)) (hd : w.cell? ⟨dx, 0, none⟩ = some (.pointer (some ⟨k, 0, none⟩))) (hlt : d.room < d.b.length + n) :
    Calls Try.prog 23 #[.pointer (some ⟨bx, 0, none⟩), .pointer (some ⟨dx, 0, none⟩)] w fun e w' => e = .returned (.int .u16 100) ∧ Below w.heap.size w w' := by
  obtain ⟨va, vc, rfl⟩ := h.own.form
  have c0 := h.c0
  have c2 := h.c2
  have hm := h.fit.room
  have hl := h.fit.len
  have hmx := hS.max
  clear h hS
  generalize d.b.length = q at *
  generalize d.room = r at *
  have hz : (r : Int) - (q : Int) < (n : Int) := by omega
  go_enter Try.func23, Try.ntmps23
  go_wp2_with fail
  go_quiet (fail)
  generalize hw2 : w.drewN _ = w2
  go_wp2
  go_ret
  exact ⟨rfl, by subst hw2; exact below_dn _ _ _⟩
set_option maxHeartbeats 1000000 in
theorem appendC_yes (B k bx dx n c : Nat) (a : Option Addr) (y : List UInt8) (v : Value) (d : Dk) (w : World) (h : DkIn 52 B w k v d) (hS : Sl w a n c y) (hb : w.cell? ⟨bx, 0, none⟩ = some (.slice a n c)) (hd : w.cell? ⟨dx, 0, none⟩ = some (.pointer (some ⟨k, 0, none⟩))) (hlt : d.b.length + n ≤ d.room) :
    Calls Try.prog 23 #[.pointer (some ⟨bx, 0, none⟩), .pointer (some ⟨dx, 0, none⟩)] w fun e w' => e = .returned (.int .u16 0) ∧ ∃ v', DkIn 52 B w' k v' ⟨d.b ++ y, d.lasts, d.room, d.left⟩ ∧ Gd k w v w' v' := by
  have hn := hS.at_.len
  have hmx := hS.max
  have hC : ∀ W, Below w.heap.size w W → Calls Try.prog 24 #[.pointer (some ⟨k, 0, none⟩), .slice a n c] W fun e w' => e = .returned (.tuple #[]) ∧ ∃ v', DkIn 52 B w' k v' ⟨d.b ++ y, d.lasts, d.room, d.left⟩ ∧ Gd k w v w' v' := fun W hW =>
    (lay_any B k n c a y v d W (h.keep hW) (hS.keep hW) (by omega)).mono fun e w' ⟨he, v', h1, h2⟩ => ⟨he, v', h1, (Gd.of_below k v hW).trans h2⟩
  obtain ⟨va, vc, hv⟩ := h.own.form
  have c0 := h.c0
  rw [hv] at c0
  have c2 := h.c2
  have hm := h.fit.room
  have hl := h.fit.len
  clear h hS hv
  generalize d.b ++ y = by_ at hC ⊢
  generalize d.b.length = q at *
  generalize d.room = r at *
  have hz : ¬ (r : Int) - (q : Int) < (n : Int) := by omega
  go_enter Try.func23, Try.ntmps23
  go_wp2_with fail
  go_quiet (fail)
  have HB : Aside (Below w.heap.size w (w.drewN nq)) := below_dn _ _ _
  have hb2 : (w.drewN nq).cell? ⟨bx, 0, none⟩ = some (.slice a n c) := hb
  have hd2 : (w.drewN nq).cell? ⟨dx, 0, none⟩ = some (.pointer (some ⟨k, 0, none⟩)) := hd
  generalize w.drewN nq = w2 at HB hb2 hd2 ⊢
  clear hb hd c0 c2
  go_wp2_with fail
  go_region_with (go_at_call 24; refine (hC _ HB.out.drew).mono ?_; rintro e w3 ⟨rfl, v3, h3, g3⟩)
  all_goals go_wp2
  all_goals go_ret
  all_goals exact ⟨rfl, v3, h3, g3⟩
end Go.Proofs.Ytpaekckahapngaa.disk
