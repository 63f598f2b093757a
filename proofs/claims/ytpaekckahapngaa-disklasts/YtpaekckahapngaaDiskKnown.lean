/-
  The chapter's example holds.
-/
import Derived.Test.YtpaekckahapngaaDiskOne
namespace Go.Proofs.Ytpaekckahapngaa.disk
open Go.ChangeShapes Go.WideShapes Go.ChangeAt Go.RowKit Go.Deep
open Go.Proofs.Ytpaekckahapngaa.bytes
set_option linter.unusedVariables false
set_option maxRecDepth 100000
set_option linter.unusedSimpArgs false

set_option maxHeartbeats 2000000 in
theorem known_any (w : World) : Calls Try.prog 13 #[] w fun e w' => e = .returned (.bool true) ∧ Below w.heap.size w w' := by
  have C0 : Calls Try.prog 9 #[.int .i64 100] w fun e w' => e = .returned (.pointer (some ⟨w.heap.size, 0, none⟩)) ∧ OneF w.heap.size w' w.heap.size (new 100) [] ∧ Below w.heap.size w w' := new1 (B := w.heap.size) (w := w) 100 (by omega) (Nat.le_refl _)
  have D1 : (app [1, 2] (new 100)) = (⟨[1, 2], 0, 100, -1⟩, 0) := rfl
  have D2 : (sync ⟨[1, 2], 0, 100, -1⟩) = (⟨[1, 2], 2, 100, -1⟩, 0) := rfl
  have D3 : (app [3, 4, 5] ⟨[1, 2], 2, 100, -1⟩) = (⟨[1, 2, 3, 4, 5], 2, 100, -1⟩, 0) := rfl
  have D4 : crash 1 ⟨[1, 2, 3, 4, 5], 2, 100, -1⟩ = ⟨[1, 2, 3], 3, 100, -1⟩ := rfl
  have S1 : Aside (∀ W : World, Sl (W.alloc (.cells #[.int .u8 1, .int .u8 2] 5)) (some ⟨W.heap.size, 0, none⟩) 2 2 [1, 2]) := fun W => sl_lit W [1, 2] (by simp)
  have S3 : Aside (∀ W : World, Sl (W.alloc (.cells #[.int .u8 3, .int .u8 4, .int .u8 5] 5)) (some ⟨W.heap.size, 0, none⟩) 3 3 [3, 4, 5]) := fun W => sl_lit W [3, 4, 5] (by simp)
  have A1 : Aside (∀ W k, OneF w.heap.size W k (new 100) [] → Below w.heap.size w W → Calls Try.prog 12 #[.pointer (some ⟨k, 0, none⟩), .slice (some ⟨W.heap.size, 0, none⟩) 2 2] (W.alloc (.cells #[.int .u8 1, .int .u8 2] 5)) fun e w' => e = .returned (.int .u16 0) ∧ OneF w.heap.size w' k ⟨[1, 2], 0, 100, -1⟩ [] ∧ Below w.heap.size w w') := fun W k h hb => by
    have := app1 (h.keep ((Below.refl _ _).alloc (Nat.le_refl _) _)) (S1.out W)
    rw [D1] at this
    exact this.mono fun e w' ⟨h1, h2, h3⟩ => ⟨h1, h2, (hb.alloc hb.size _).trans h3⟩
  have A2 : Aside (∀ W k, OneF w.heap.size W k ⟨[1, 2], 0, 100, -1⟩ [] → Below w.heap.size w W → Calls Try.prog 19 #[.pointer (some ⟨k, 0, none⟩)] W fun e w' => e = .returned (.int .u16 0) ∧ OneF w.heap.size w' k ⟨[1, 2], 2, 100, -1⟩ [] ∧ Below w.heap.size w w') := fun W k h hb => by
    have := sync1 h
    rw [D2] at this
    exact this.mono fun e w' ⟨h1, h2, h3⟩ => ⟨h1, h2, hb.trans h3⟩
  have A3 : Aside (∀ W k, OneF w.heap.size W k ⟨[1, 2], 2, 100, -1⟩ [] → Below w.heap.size w W → Calls Try.prog 12 #[.pointer (some ⟨k, 0, none⟩), .slice (some ⟨W.heap.size, 0, none⟩) 3 3] (W.alloc (.cells #[.int .u8 3, .int .u8 4, .int .u8 5] 5)) fun e w' => e = .returned (.int .u16 0) ∧ OneF w.heap.size w' k ⟨[1, 2, 3, 4, 5], 2, 100, -1⟩ [] ∧ Below w.heap.size w w') := fun W k h hb => by
    have := app1 (h.keep ((Below.refl _ _).alloc (Nat.le_refl _) _)) (S3.out W)
    rw [D3] at this
    exact this.mono fun e w' ⟨h1, h2, h3⟩ => ⟨h1, h2, (hb.alloc hb.size _).trans h3⟩
  have A4 : Aside (∀ W k, OneF w.heap.size W k ⟨[1, 2, 3, 4, 5], 2, 100, -1⟩ [] → Below w.heap.size w W → Calls Try.prog 20 #[.pointer (some ⟨k, 0, none⟩), .int .i64 1] W fun e w' => e = .returned (.tuple #[]) ∧ OneF w.heap.size w' k ⟨[1, 2, 3], 3, 100, -1⟩ [] ∧ Below w.heap.size w w') := fun W k h hb => by
    have := crash1 h 1
    rw [D4] at this
    exact this.mono fun e w' ⟨h1, h2, h3⟩ => ⟨h1, h2, hb.trans h3⟩
  have A5 : Aside (∀ W k, OneF w.heap.size W k ⟨[1, 2, 3], 3, 100, -1⟩ [] → Below w.heap.size w W → Calls Try.prog 14 #[.pointer (some ⟨k, 0, none⟩)] W fun e w' => ∃ a c, e = .returned (.slice a 3 c) ∧ Below w.heap.size w w' ∧ (convert 29 9 (.slice a 3 c)).run Try.prog w' = .ok (.string ⟨#[1, 2, 3]⟩) w') := fun W k h hb =>
    (read1 h).mono fun e w' ⟨a, c, h1, h2, h3, h4⟩ => ⟨a, c, h1, hb.trans (h3.mono h.base), str_of h4.at_.mem 3 c rfl⟩
  have A6 := fun W => new_no (-1) W (.inl (by omega))
  clear S1 S3 D1 D2 D3 D4
  go_enter Try.func13, Try.ntmps13
  go_upto_region 3 with (go_at_call 9; with_reducible refine C0.mono ?_; rintro e w1 ⟨rfl, o1, b1⟩)
  go_upto_region 5 with (go_at_call 12; with_reducible refine (A1.out _ _ o1 b1).mono ?_; rintro e w2 ⟨rfl, o2, b2⟩)
  clear o1 b1 C0 A1
  go_upto_region 6 with (go_at_call 19; with_reducible refine (A2.out _ _ o2 b2).mono ?_; rintro e w3 ⟨rfl, o3, b3⟩)
  clear o2 b2 A2
  go_upto_region 7 with (go_at_call 12; with_reducible refine (A3.out _ _ o3 b3).mono ?_; rintro e w4 ⟨rfl, o4, b4⟩)
  clear o3 b3 A3
  go_upto_region 8 with (go_at_call 20; with_reducible refine (A4.out _ _ o4 b4).mono ?_; rintro e w5 ⟨rfl, o5, b5⟩)
  clear o4 b4 A4
  go_wp2_with (first | (go_at_call 14; with_reducible refine (A5.out _ _ o5 b5).mono ?_; rintro e w6 ⟨a6, c6, rfl, b6, hc6⟩) | (go_at_call 9; with_reducible refine (A6 _).mono ?_; rintro e w7 ⟨rfl, rfl⟩))
  go_ret
  exact ⟨rfl, b6⟩
end Go.Proofs.Ytpaekckahapngaa.disk
