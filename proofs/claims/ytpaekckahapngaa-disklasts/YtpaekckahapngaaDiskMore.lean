/-
  The contracts of Sync, Cut, Read and Crash.
-/
import Derived.Test.YtpaekckahapngaaDiskOps
namespace Go.Proofs.Ytpaekckahapngaa.disk
open Go.ChangeShapes Go.WideShapes Go.ChangeAt Go.RowKit Go.Deep
open Go.Proofs.Ytpaekckahapngaa.bytes Go.Shelf
set_option linter.unusedVariables false
set_option maxRecDepth 100000
set_option linter.unusedSimpArgs false

set_option maxHeartbeats 1000000 in
theorem sync_any (B k : Nat) (v : Value) (d : Dk) (w : World) (h : DkIn 52 B w k v d) :
    Calls Try.prog 19 #[.pointer (some ⟨k, 0, none⟩)] w fun e w' => e = .returned (.int .u16 ((sync d).2 : Nat)) ∧ ∃ v', DkIn 52 B w' k v' (sync d).1 ∧ Gd k w v w' v' := by
  obtain ⟨w2, hw2⟩ : ∃ w2, w.alloc (.cells #[.pointer (some ⟨k, 0, none⟩)] 22) = w2 := ⟨_, rfl⟩
  have hb2 : Below w.heap.size w w2 := by rw [← hw2]; exact (Below.refl _ _).alloc (Nat.le_refl _) _
  have q1 : w2.cell? ⟨w.heap.size, 0, none⟩ = some (.pointer (some ⟨k, 0, none⟩)) := by rw [← hw2]; simp [go_sem]
  have h2 := h.keep hb2
  have hk := h.lt
  have hrow : ∀ g, v.ownBlock = some g → g < w.heap.size := fun g hg => (h.own.lt g hg).2
  have hC : Calls Try.prog 22 #[.pointer (some ⟨k, 0, none⟩), .func (.func 31) #[] #[.pointer (some ⟨w.heap.size, 0, none⟩)]] w2 fun e w' => e = .returned (.int .u16 ((sync d).2 : Nat)) ∧ ∃ v', DkIn 52 B w' k v' (sync d).1 ∧ Gd k w v w' v' := by
    by_cases h0 : d.left = 0
    · refine (call_stop B k _ _ v d w2 h2 h0).mono ?_
      rintro e w' ⟨rfl, rfl⟩
      rw [sync_halted h0]
      exact ⟨rfl, v, h2, Gd.of_below k v hb2⟩
    · refine (call_go B k _ _ v d w2 h2 h0 (fun r w' => r = ((sync d).2 : Nat) ∧ ∃ v', DkIn 52 B w' k v' (sync d).1 ∧ Gd k w v w' v') (enters_of Try.func31 (by kernel_rfl) rfl) ?_).mono ?_
      · intro W hW hG hg
        have p1 : W.cell? ⟨w.heap.size, 0, none⟩ = some (.pointer (some ⟨k, 0, none⟩)) := (World.cell?_of_block (a := ⟨w.heap.size, 0, none⟩) (hG.same w.heap.size (cell_lt q1) (by omega) fun e => by have := hrow _ e.symm; omega)).trans q1
        refine (syncC_any B k _ v (tick d) W hW p1).mono ?_
        rintro e w' ⟨rfl, h3, g3⟩
        have e : sync d = (⟨d.b, d.b.length, d.room, less d.left⟩, 0) := by unfold sync; rw [if_neg h0]
        rw [e]
        exact ⟨_, rfl, rfl, v, h3, ((Gd.of_below k v hb2).trans hG).trans g3⟩
      · rintro e w' ⟨r, rfl, rfl, hr⟩
        exact ⟨rfl, hr⟩
  clear h h2 hk hrow q1 hb2
  generalize (sync d).1 = d2 at hC ⊢
  generalize (sync d).2 = r at hC ⊢
  subst hw2
  go_enter Try.func19, Try.ntmps19
  go_wp2_with (go_at_call 22; refine hC.mono ?_; rintro e w3 ⟨rfl, v3, h3, g3⟩)
  go_ret
  exact ⟨rfl, v3, h3, g3⟩

set_option maxHeartbeats 1000000 in
theorem cut_any (B k : Nat) (n : Int) (v : Value) (d : Dk) (w : World) (h : DkIn 52 B w k v d) :
    Calls Try.prog 21 #[.pointer (some ⟨k, 0, none⟩), .int .i64 n] w fun e w' => e = .returned (.int .u16 ((cut n d).2 : Nat)) ∧ ∃ v', DkIn 52 B w' k v' (cut n d).1 ∧ Gd k w v w' v' := by
  obtain ⟨w2, hw2⟩ : ∃ w2, (w.alloc (.cells #[.pointer (some ⟨k, 0, none⟩)] 22)).alloc (.cells #[.int .i64 n] 3) = w2 := ⟨_, rfl⟩
  have hb2 : Below w.heap.size w w2 := by rw [← hw2]; exact ((Below.refl _ _).alloc (Nat.le_refl _) _).alloc (by simp) _
  obtain ⟨q1, q2⟩ := two_boxes w (.pointer (some ⟨k, 0, none⟩)) (.int .i64 n) 22 3
  rw [hw2] at q1 q2
  have h2 := h.keep hb2
  have hk := h.lt
  have hrow : ∀ g, v.ownBlock = some g → g < w.heap.size := fun g hg => (h.own.lt g hg).2
  have hC : Calls Try.prog 22 #[.pointer (some ⟨k, 0, none⟩), .func (.func 35) #[] #[.pointer (some ⟨w.heap.size + 1, 0, none⟩), .pointer (some ⟨w.heap.size, 0, none⟩)]] w2 fun e w' => e = .returned (.int .u16 ((cut n d).2 : Nat)) ∧ ∃ v', DkIn 52 B w' k v' (cut n d).1 ∧ Gd k w v w' v' := by
    by_cases h0 : d.left = 0
    · refine (call_stop B k _ _ v d w2 h2 h0).mono ?_
      rintro e w' ⟨rfl, rfl⟩
      rw [cut_halted h0]
      exact ⟨rfl, v, h2, Gd.of_below k v hb2⟩
    · refine (call_go B k _ _ v d w2 h2 h0 (fun r w' => r = ((cut n d).2 : Nat) ∧ ∃ v', DkIn 52 B w' k v' (cut n d).1 ∧ Gd k w v w' v') (enters_of Try.func35 (by kernel_rfl) rfl) ?_).mono ?_
      · intro W hW hG hg
        have p1 : W.cell? ⟨w.heap.size, 0, none⟩ = some (.pointer (some ⟨k, 0, none⟩)) := (World.cell?_of_block (a := ⟨w.heap.size, 0, none⟩) (hG.same w.heap.size (cell_lt q1) (by omega) fun e => by have := hrow _ e.symm; omega)).trans q1
        have p2 : W.cell? ⟨w.heap.size + 1, 0, none⟩ = some (.int .i64 n) := (World.cell?_of_block (a := ⟨w.heap.size + 1, 0, none⟩) (hG.same (w.heap.size + 1) (cell_lt q2) (by omega) fun e => by have := hrow _ e.symm; omega)).trans q2
        by_cases hr : n < 0 ∨ (d.b.length : Int) < n
        · refine (cutC_no B k _ _ n v (tick d) W hW p2 p1 hr).mono ?_
          rintro e w' ⟨rfl, hb⟩
          have e : cut n d = (tick d, 1) := by unfold cut; rw [if_neg h0, if_pos hr]
          rw [e]
          exact ⟨_, rfl, rfl, v, hW.keep hb, ((Gd.of_below k v hb2).trans hG).trans (Gd.of_below k v hb)⟩
        · obtain ⟨m, hm⟩ : ∃ m : Nat, n = (m : Int) := ⟨n.toNat, by omega⟩
          subst hm
          refine (cutC_yes B k _ _ m v (tick d) W hW p2 p1 (by show m ≤ d.b.length; omega)).mono ?_
          rintro e w' ⟨rfl, v', h3, g3⟩
          have e : cut (m : Int) d = (⟨d.b.take m, min d.lasts m, d.room, less d.left⟩, 0) := by unfold cut; rw [if_neg h0, if_neg hr]; rfl
          rw [e]
          exact ⟨_, rfl, rfl, v', h3, ((Gd.of_below k v hb2).trans hG).trans g3⟩
      · rintro e w' ⟨r, rfl, rfl, hr⟩
        exact ⟨rfl, hr⟩
  clear h h2 hk hrow q1 q2 hb2
  generalize (cut n d).1 = d2 at hC ⊢
  generalize (cut n d).2 = r at hC ⊢
  subst hw2
  go_enter Try.func21, Try.ntmps21
  go_wp2_with (go_at_call 22; refine hC.mono ?_; rintro e w3 ⟨rfl, v3, h3, g3⟩)
  go_ret
  exact ⟨rfl, v3, h3, g3⟩

/-! ### Read -/
theorem own_empty (w : World) (B : Nat) (hB : B ≤ w.heap.size) : Bs B (w.alloc (.cells #[] 5)) (.slice (some ⟨w.heap.size, 0, none⟩) 0 0) [] :=
  ⟨rfl, .inr ⟨w.heap.size, 0, #[], rfl, hB, heap_alloc_new w _, Nat.le_refl _, Nat.zero_le _, rfl, rfl⟩⟩
theorem eql_nil (n c : Nat) (W : World) : (binOp .eql 29 (.slice none n c) (.slice none 0 0)).run Try.prog W = .ok (.bool true) W := by kernel_rfl
theorem eql_some (a : Addr) (n c : Nat) (W : World) : (binOp .eql 29 (.slice (some a) n c) (.slice none 0 0)).run Try.prog W = .ok (.bool false) W := by kernel_rfl
set_option maxHeartbeats 1000000 in
theorem clone_any (n c : Nat) (a : Option Addr) (y : List UInt8) (w : World) (hS : Sl w a n c y) (hn : n ≤ 1000000000) :
    Calls Try.prog 25 #[.slice a n c] w fun e w' => ∃ v', e = .returned v' ∧ Bs w.heap.size w' v' y ∧ Below w.heap.size w w' := by
  rcases a with _ | a
  · have hy : y = [] := by
      rcases hS.at_.mem with h | ⟨b, off, h, _⟩
      · exact h
      · cases h
    subst hy
    have hn0 := hS.at_.len
    simp only [List.length_nil] at hn0
    subst hn0
    clear hS
    have heq := eql_nil 0 c
    go_enter Try.func25, Try.ntmps25
    go_wp2
    go_ret
    exact ⟨_, rfl, Bs.none _ _, Below.refl _ _⟩
  · have hb : Below w.heap.size w (w.alloc (.cells #[] 5)) := (Below.refl _ _).alloc (Nat.le_refl _) _
    have hS2 := hS.keep hb
    have hE := own_empty w w.heap.size (Nat.le_refl _)
    have hsz : w.heap.size ≤ (w.alloc (.cells #[] 5)).heap.size := by simp
    have HB : Aside (∀ w3 v', Gr (w.alloc (.cells #[] 5)) (.slice (some ⟨w.heap.size, 0, none⟩) 0 0) w3 v' → Below w.heap.size w w3) := fun w3 v' h3 => hb.trans (h3.below hE hsz)
    clear hS hb
    have heq := eql_some a n c
    go_enter Try.func25, Try.ntmps25
    go_wp2_with (at_builtin; refine wpList_bytes rfl (.tmp 5) (.tmp 6) rfl w.heap.size _ [] rfl hE (some a) n c y rfl hS2 n (by simp) hn hsz ?_; intro a3 c3 w3 h3 g3)
    go_ret
    exact ⟨_, rfl, h3, HB.out _ _ g3⟩
set_option maxHeartbeats 1000000 in
theorem read_any (B k : Nat) (v : Value) (d : Dk) (w : World) (h : DkIn 52 B w k v d) :
    Calls Try.prog 14 #[.pointer (some ⟨k, 0, none⟩)] w fun e w' => ∃ v', e = .returned v' ∧ Bs w.heap.size w' v' d.b ∧ Below w.heap.size w w' := by
  have hm := h.len_max
  obtain ⟨va, vc, hv, hS⟩ := h.own.sl (by omega)
  have hC := clone_any d.b.length vc va d.b w hS (by omega)
  have c0 := h.c0
  rw [hv] at c0
  clear h hS hv
  go_enter Try.func14, Try.ntmps14
  go_wp2_with (go_at_call 25; refine hC.mono ?_; rintro e w3 ⟨v3, rfl, h3, g3⟩)
  go_ret
  exact ⟨_, rfl, h3, g3⟩
end Go.Proofs.Ytpaekckahapngaa.disk
