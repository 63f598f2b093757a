/-
  No record is alike no record: the chapter's Same.
-/
import Derived.Test.YtlokamblbhooaaaCodeSame
namespace Go.Proofs.Ytlokamblbhooaaa.code
open Go.Proofs.Ytlokamblbhooaaa.dims (ret_bool)
open Go.ChangeShapes Go.WideShapes Go.ChangeAt Go.RowKit Go.Deep
set_option linter.unusedVariables false
set_option maxRecDepth 100000
set_option linter.unusedSimpArgs false

theorem sameInts_nil (w : World) : Calls Try.prog 40 #[.slice none 0 0, .slice none 0 0] w fun e w' => e = .returned (.bool true) ∧ w' = w := by
  go_enter Try.func40, Try.ntmps40
  go_wp2_with fail
  refine wp_loop_rounds 1 ?_
  rw [rounds_succ]
  go_wp2
  go_ret
  exact ⟨rfl, rfl⟩
theorem sameMap_nil (w : World) : Calls Try.prog 42 #[.agg #[.int .u32 0, .slice none 0 0], .agg #[.int .u32 0, .slice none 0 0]] w fun e w' => e = .returned (.bool true) ∧ Below w.heap.size w w' := by
  have hB : ∀ o1 o2, Below w.heap.size w ((w.alloc o1).alloc o2) := fun o1 o2 => by (repeat (first | with_reducible exact Below.refl _ _ | (with_reducible refine Below.drew ?_) | (with_reducible refine Below.alloc ?_ (by first | omega | (simp; done) | (simp; omega)) _) | (with_reducible refine Below.setCell ?_ (by first | exact Nat.le_refl _ | omega | (simp; done) | (simp; omega)) _)))
  go_enter Try.func42, Try.ntmps42
  go_wp2_with fail
  refine wp_loop_rounds 1 ?_
  rw [rounds_succ]
  go_wp2
  go_ret
  exact ⟨rfl, hB _ _⟩

set_option maxHeartbeats 8000000 in
theorem same_zero (w : World) : Calls Try.prog 17 #[.agg #[.int .u8 0, .int .u32 0, .int .u32 0, .slice none 0 0, .slice none 0 0, .int .u32 0, .slice none 0 0, .int .i64 0, .int .i64 0, .slice none 0 0], .agg #[.int .u8 0, .int .u32 0, .int .u32 0, .slice none 0 0, .slice none 0 0, .int .u32 0, .slice none 0 0, .int .i64 0, .int .i64 0, .slice none 0 0]] w fun e w' => e = .returned (.bool true) ∧ Below w.heap.size w w' := by
  have hb0 : Below w.heap.size w ((w.alloc (.cells #[.int .u8 0, .int .u32 0, .int .u32 0, .slice none 0 0, .slice none 0 0, .int .u32 0, .slice none 0 0, .int .i64 0, .int .i64 0, .slice none 0 0] 30)).alloc (.cells #[.int .u8 0, .int .u32 0, .int .u32 0, .slice none 0 0, .slice none 0 0, .int .u32 0, .slice none 0 0, .int .i64 0, .int .i64 0, .slice none 0 0] 30)) := by (repeat (first | with_reducible exact Below.refl _ _ | (with_reducible refine Below.drew ?_) | (with_reducible refine Below.alloc ?_ (by first | omega | (simp; done) | (simp; omega)) _) | (with_reducible refine Below.setCell ?_ (by first | exact Nat.le_refl _ | omega | (simp; done) | (simp; omega)) _)))
  have x0 : Boxed ((w.alloc (.cells #[.int .u8 0, .int .u32 0, .int .u32 0, .slice none 0 0, .slice none 0 0, .int .u32 0, .slice none 0 0, .int .i64 0, .int .i64 0, .slice none 0 0] 30)).alloc (.cells #[.int .u8 0, .int .u32 0, .int .u32 0, .slice none 0 0, .slice none 0 0, .int .u32 0, .slice none 0 0, .int .i64 0, .int .i64 0, .slice none 0 0] 30)) w.heap.size #[.int .u8 0, .int .u32 0, .int .u32 0, .slice none 0 0, .slice none 0 0, .int .u32 0, .slice none 0 0, .int .i64 0, .int .i64 0, .slice none 0 0] 30 := (Boxed.new w _ _).grown (World.grownBy_alloc _ _ none) (by simp)
  have y0 : Boxed ((w.alloc (.cells #[.int .u8 0, .int .u32 0, .int .u32 0, .slice none 0 0, .slice none 0 0, .int .u32 0, .slice none 0 0, .int .i64 0, .int .i64 0, .slice none 0 0] 30)).alloc (.cells #[.int .u8 0, .int .u32 0, .int .u32 0, .slice none 0 0, .slice none 0 0, .int .u32 0, .slice none 0 0, .int .i64 0, .int .i64 0, .slice none 0 0] 30)) (w.heap.size + 1) #[.int .u8 0, .int .u32 0, .int .u32 0, .slice none 0 0, .slice none 0 0, .int .u32 0, .slice none 0 0, .int .i64 0, .int .i64 0, .slice none 0 0] 30 := by
    have := Boxed.new (w.alloc (.cells #[.int .u8 0, .int .u32 0, .int .u32 0, .slice none 0 0, .slice none 0 0, .int .u32 0, .slice none 0 0, .int .i64 0, .int .i64 0, .slice none 0 0] 30)) #[.int .u8 0, .int .u32 0, .int .u32 0, .slice none 0 0, .slice none 0 0, .int .u32 0, .slice none 0 0, .int .i64 0, .int .i64 0, .slice none 0 0] 30
    simpa using this
  generalize hW : (w.alloc (.cells #[.int .u8 0, .int .u32 0, .int .u32 0, .slice none 0 0, .slice none 0 0, .int .u32 0, .slice none 0 0, .int .i64 0, .int .i64 0, .slice none 0 0] 30)).alloc (.cells #[.int .u8 0, .int .u32 0, .int .u32 0, .slice none 0 0, .slice none 0 0, .int .u32 0, .slice none 0 0, .int .i64 0, .int .i64 0, .slice none 0 0] 30) = W0 at hb0 x0 y0
  have HW : Hid (_ = W0) := hW
  have HB0 : Aside (Below w.heap.size w W0) := hb0
  have hF := sameFacts_any W0 none none [] [] 0 0 0 0 (.inl rfl) rfl (by omega) (by simp [factsB, putI_len]) (.inl rfl) rfl (by omega) (by simp [factsB, putI_len])
  have hI := sameInts_nil W0
  clear hW hb0
  go_enter Try.func17, Try.ntmps17
  go_wp2_with fail
  rw [HW.out]
  refine hI.mono ?_
  rintro e w1 ⟨rfl, rfl⟩
  have p0 := x0.cell (j := 0) rfl
  have q0 := y0.cell (j := 0) rfl
  have p1 := x0.cell (j := 1) rfl
  have q1 := y0.cell (j := 1) rfl
  have p2 := x0.cell (j := 2) rfl
  have q2 := y0.cell (j := 2) rfl
  have p3 := x0.cell (j := 3) rfl
  have q3 := y0.cell (j := 3) rfl
  have p4 := x0.cell (j := 4) rfl
  have q4 := y0.cell (j := 4) rfl
  have p5 := x0.cell (j := 5) rfl
  have q5 := y0.cell (j := 5) rfl
  have p6 := x0.cell (j := 6) rfl
  have q6 := y0.cell (j := 6) rfl
  have p7 := x0.cell (j := 7) rfl
  have q7 := y0.cell (j := 7) rfl
  have p8 := x0.cell (j := 8) rfl
  have q8 := y0.cell (j := 8) rfl
  have p9 := x0.cell (j := 9) rfl
  have q9 := y0.cell (j := 9) rfl
  go_wp2_with (go_at_call 41; refine hF.mono ?_; rintro e w2 ⟨rfl, g2⟩; refine Hid.out ?_)
  refine hid ?_
  have x2 := x0.below g2
  have y2 := y0.below g2
  have HB2 : Aside (Below w.heap.size w w2) := HB0.out.trans (g2.mono HB0.out.size)
  clear p0 q0 p1 q1 p2 q2 p3 q3 p4 q4 p5 q5 p6 q6 p7 q7 p8 q8 p9 q9
  have p0 := x2.cell (j := 0) rfl
  have q0 := y2.cell (j := 0) rfl
  have p1 := x2.cell (j := 1) rfl
  have q1 := y2.cell (j := 1) rfl
  have p2 := x2.cell (j := 2) rfl
  have q2 := y2.cell (j := 2) rfl
  have p3 := x2.cell (j := 3) rfl
  have q3 := y2.cell (j := 3) rfl
  have p4 := x2.cell (j := 4) rfl
  have q4 := y2.cell (j := 4) rfl
  have p5 := x2.cell (j := 5) rfl
  have q5 := y2.cell (j := 5) rfl
  have p6 := x2.cell (j := 6) rfl
  have q6 := y2.cell (j := 6) rfl
  have p7 := x2.cell (j := 7) rfl
  have q7 := y2.cell (j := 7) rfl
  have p8 := x2.cell (j := 8) rfl
  have q8 := y2.cell (j := 8) rfl
  have p9 := x2.cell (j := 9) rfl
  have q9 := y2.cell (j := 9) rfl
  have hM := sameMap_nil w2
  clear hF hI x0 y0 g2
  go_wp2_with (go_at_call 42; refine hM.mono ?_; rintro e w3 ⟨rfl, g3⟩; refine Hid.out ?_)
  refine hid ?_
  have x3 := x2.below g3
  have y3 := y2.below g3
  have HB3 : Aside (Below w.heap.size w w3) := HB2.out.trans (g3.mono HB2.out.size)
  clear p0 q0 p1 q1 p2 q2 p3 q3 p4 q4 p5 q5 p6 q6 p7 q7 p8 q8 p9 q9
  have p0 := x3.cell (j := 0) rfl
  have q0 := y3.cell (j := 0) rfl
  have p1 := x3.cell (j := 1) rfl
  have q1 := y3.cell (j := 1) rfl
  have p2 := x3.cell (j := 2) rfl
  have q2 := y3.cell (j := 2) rfl
  have p3 := x3.cell (j := 3) rfl
  have q3 := y3.cell (j := 3) rfl
  have p4 := x3.cell (j := 4) rfl
  have q4 := y3.cell (j := 4) rfl
  have p5 := x3.cell (j := 5) rfl
  have q5 := y3.cell (j := 5) rfl
  have p6 := x3.cell (j := 6) rfl
  have q6 := y3.cell (j := 6) rfl
  have p7 := x3.cell (j := 7) rfl
  have q7 := y3.cell (j := 7) rfl
  have p8 := x3.cell (j := 8) rfl
  have q8 := y3.cell (j := 8) rfl
  have p9 := x3.cell (j := 9) rfl
  have q9 := y3.cell (j := 9) rfl
  have hE := sameEnts_any w3 none none [] [] 0 0 0 0 (.inl rfl) rfl (by omega) (by simp [entsB, putI_len]) (by simp) (.inl rfl) rfl (by omega) (by simp [entsB, putI_len]) (by simp)
  clear hM x2 y2 g3
  go_wp2_with (go_at_call 43; refine hE.mono ?_; rintro e w4 ⟨rfl, g4⟩)
  go_ret
  exact ⟨ret_bool (by simp), HB3.out.trans (g4.mono HB3.out.size)⟩
end Go.Proofs.Ytlokamblbhooaaa.code
