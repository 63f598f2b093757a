/-
  The contract of Crash, a case.
-/
import Derived.Test.YtpaekckahapngaaDiskMore
namespace Go.Proofs.Ytpaekckahapngaa.disk
open Go.ChangeShapes Go.WideShapes Go.ChangeAt Go.RowKit Go.Deep
open Go.Proofs.Ytpaekckahapngaa.bytes Go.Shelf
set_option linter.unusedVariables false
set_option maxRecDepth 100000
set_option linter.unusedSimpArgs false

/-! ### Crash -/
set_option maxRecDepth 100000 in
set_option maxHeartbeats 4000000 in
theorem crash_b (B k kq s u ml rm : Nat) (keep lf : Int) (tk : List UInt8) (v : Value) (d9 : Dk) (w : World)
    (c1 : w.cell? ⟨k, 1, none⟩ = some (.int .i64 (s : Nat)))
    (hL : ∀ W, Below w.heap.size w W → Calls Try.prog 34 #[.pointer (some ⟨k, 0, none⟩)] W fun e w' => e = .returned (.int .i64 (u : Nat)) ∧ Below w.heap.size w w' ∧ w'.cell? ⟨k, 1, none⟩ = some (.int .i64 (s : Nat)))
    (hV : ∀ W, Below w.heap.size w W → Calls Try.prog 33 #[.pointer (some ⟨k, 0, none⟩), .int .i64 (kq : Nat)] W fun e w' => e = .returned (.tuple #[]) ∧ ∃ v', DkIn 52 B w' k v' ⟨tk, ml, rm, lf⟩ ∧ Gd k w v w' v')
    (HE : Aside (∀ (W : World) (v1 : Value), DkIn 52 B W k v1 (halt (-1) ⟨tk, tk.length, rm, lf⟩) → DkIn 52 B W k v1 d9))
    (hu : u ≤ 1048576) (hl2 : s ≤ 1048576) (k0 : ¬ keep < 0) (k1 : (u : Int) < keep) (hq : (kq : Int) = (s : Int) + (u : Int)) :
    Calls Try.prog 20 #[.pointer (some ⟨k, 0, none⟩), .int .i64 keep] w fun e w' => e = .returned (.tuple #[]) ∧ ∃ v', DkIn 52 B w' k v' d9 ∧ Gd k w v w' v' := by
  have hF : ∀ v1 d1 w1, DkIn 52 B w1 k v1 d1 → Calls Try.prog 32 #[.pointer (some ⟨k, 0, none⟩)] w1 fun e w' => e = .returned (.tuple #[]) ∧ DkIn 52 B w' k v1 ⟨d1.b, d1.b.length, d1.room, d1.left⟩ ∧ Gd k w1 v1 w' v1 := fun v1 d1 w1 h1 => force_any B k v1 d1 w1 h1
  have hH : ∀ v1 d1 w1, DkIn 52 B w1 k v1 d1 → Calls Try.prog 10 #[.pointer (some ⟨k, 0, none⟩), .int .i64 (-1)] w1 fun e w' => e = .returned (.tuple #[]) ∧ DkIn 52 B w' k v1 (halt (-1) d1) ∧ Gd k w1 v1 w' v1 := fun v1 d1 w1 h1 => halt_any B k (-1) v1 d1 w1 h1 (by omega)
  have HB : Aside (Below w.heap.size w w) := Below.refl _ _
  have hw : IntKind.i64.wrap ((s : Int) + (u : Int)) = kq := by rw [IntKind.wrap_i64]; omega
  clear hq
  go_enter Try.func20, Try.ntmps20
  go_wp2_with fail
  go_region_with (first | (go_at_call 34; with_reducible refine (hL _ (HB.out.drew)).mono ?_; rintro e w1 ⟨rfl, b1, c1'⟩) | (go_at_call 33; with_reducible refine (hV _ b1).mono ?_; rintro e w2 ⟨rfl, v2, h2, g2⟩))
  all_goals (go_wp2_with (first | (go_at_call 32; with_reducible refine (hF _ _ _ h2).mono ?_; rintro e w3 ⟨rfl, h3, g3⟩) | (go_at_call 10; with_reducible refine (hH _ _ _ h3).mono ?_; rintro e w4 ⟨rfl, h4, g4⟩)))
  all_goals go_end0
  all_goals exact ⟨rfl, v2, HE.out _ _ h4, (g2.trans g3).trans g4⟩
end Go.Proofs.Ytpaekckahapngaa.disk
