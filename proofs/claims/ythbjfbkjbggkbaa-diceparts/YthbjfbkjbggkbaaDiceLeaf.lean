/-
  The contracts of the leaves: lists of one length; a list as it is, in memory of its own; the statements' own 'same' and 'heavy'; is a key within, is it a box.
-/
import Derived.Test.YthbjfbkjbggkbaaDiceMath
import Derived.Laws.CopyOwn
namespace Go.Proofs.Ythbjfbkjbggkbaa.dice
open Go.ChangeShapes Go.WideShapes Go.ChangeAt Go.RowKit Go.Deep
open Go.Proofs.Ythbjfbkjbggkbaa.dims
set_option linter.unusedVariables false
set_option maxRecDepth 100000

set_option maxHeartbeats 2000000 in
theorem allLong_any (p bb k : Nat) (A : Nat → Option Addr) (L C : Nat → Nat) (w : World) (hk : k ≤ 1000) (hc : ∀ i, i < k → w.cell? ⟨bb, i, none⟩ = some (.slice (A i) (L i) (C i))) :
    Calls Try.prog 25 #[.int .i64 p, .slice (some ⟨bb, 0, none⟩) k k] w fun e w' => e = .returned (.bool (allB k fun i => decide (L i = p))) ∧ w' = w := by
  have HC : Aside (∀ i, i < k → w.cell? ⟨bb, i, none⟩ = some (.slice (A i) (L i) (C i))) := hc
  clear hc
  go_enter Try.func25, Try.ntmps25
  go_wp2_with fail
  go_loopg [6, 9] k (fun g1 s vi wr => ∃ (j : Nat), vi = .int .i64 j ∧ j ≤ k ∧ k - j ≤ g1 ∧ wr = w ∧ Aside (∀ i, i < j → L i = p))
  case atStart => exact ⟨0, rfl, Nat.zero_le _, Nat.le_refl _, rfl, fun i hi => by omega⟩
  case round =>
    obtain ⟨j, rfl, hj, hg1, rfl, SK⟩ := hrel
    by_cases hlt : j < k
    · have hltz : (j : Int) < (k : Int) := by omega
      have r0 := HC.out j hlt
      by_cases hL : L j = p
      · have hb : ((L j : Int) == (p : Int)) = true := by simp [hL]
        have S2 : Aside (∀ i, i < j + 1 → L i = p) := fun i hi => by
          by_cases e : i = j
          · subst e; exact hL
          · exact SK.out i (by omega)
        generalize L j = q at r0 hb
        clear hL
        go_wp2
        go_roundg (k - (j + 1))
        case measure => omega
        case rel => exact ⟨j + 1, by go_num, by omega, by omega, rfl, S2⟩
      · have hb : ((L j : Int) == (p : Int)) = false := by simp; omega
        have E : Hid (allB k (fun i => decide (L i = p)) = false) := allB_false hlt (decide_eq_false hL)
        generalize L j = q at r0 hb
        clear hL
        go_wp2
        go_ret
        exact ⟨ret_bool E.out.symm, rfl⟩
    · have hltz : ¬ (j : Int) < (k : Int) := by omega
      have E : Hid (allB k (fun i => decide (L i = p)) = true) := allB_true fun i hi => decide_eq_true (SK.out i (by omega))
      go_wp2
      go_ret
      exact ⟨ret_bool E.out.symm, rfl⟩

set_option maxHeartbeats 2000000 in
theorem heavy_any (bb k : Nat) (A : Nat → Option Addr) (L C : Nat → Nat) (w : World) (hk : k ≤ 1000) (hc : ∀ i, i < k → w.cell? ⟨bb, i, none⟩ = some (.slice (A i) (L i) (C i))) :
    Calls Try.prog 16 #[.slice (some ⟨bb, 0, none⟩) k k] w fun e w' => (e = .returned (.bool true) ∨ (e = .returned (.bool false) ∧ ∀ i, i < k → L i ≤ 100)) ∧ w' = w := by
  have HC : Aside (∀ i, i < k → w.cell? ⟨bb, i, none⟩ = some (.slice (A i) (L i) (C i))) := hc
  clear hc
  go_enter Try.func16, Try.ntmps16
  go_wp2_with fail
  go_loopg [3] k (fun g1 vi wr => ∃ (j : Nat), vi = .int .i64 j ∧ j ≤ k ∧ k - j ≤ g1 ∧ wr = w ∧ Aside (∀ i, i < j → L i ≤ 100))
  case atStart => exact ⟨0, rfl, Nat.zero_le _, Nat.le_refl _, rfl, fun i hi => by omega⟩
  case round =>
    obtain ⟨j, rfl, hj, hg1, rfl, SK⟩ := hrel
    by_cases hlt : j < k
    · have hltz : (j : Int) < (k : Int) := by omega
      have r0 := HC.out j hlt
      by_cases hL : L j ≤ 100
      · have hb : ¬ (100 : Int) < (L j : Int) := by omega
        have S2 : Aside (∀ i, i < j + 1 → L i ≤ 100) := fun i hi => by
          by_cases e : i = j
          · subst e; exact hL
          · exact SK.out i (by omega)
        generalize L j = q at r0 hb
        clear hL
        go_wp2
        go_roundg (k - (j + 1))
        case measure => omega
        case rel => exact ⟨j + 1, by go_num, by omega, by omega, rfl, S2⟩
      · have hb : (100 : Int) < (L j : Int) := by omega
        generalize L j = q at r0 hb
        clear hL
        go_wp2
        go_ret
        exact ⟨.inl rfl, rfl⟩
    · have hltz : ¬ (j : Int) < (k : Int) := by omega
      go_wp2
      go_ret
      exact ⟨.inr ⟨rfl, fun i hi => SK.out i (by omega)⟩, rfl⟩
end Go.Proofs.Ythbjfbkjbggkbaa.dice
