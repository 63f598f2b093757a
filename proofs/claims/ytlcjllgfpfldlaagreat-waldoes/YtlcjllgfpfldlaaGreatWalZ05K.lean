/-
 The check sum of bytes, plain: how bytes are cut is nothing; one byte that is another one, two side by side that change places, bytes 0 behind: told apart. Nothing of the program.
 Frames of bytes, plain: a front of frames is read as these frames, whatever is behind; cut anywhere it is a front; with one byte bent it is none. Nothing of the program.
-/
import Derived.Test.YtlcjllgfpfldlaaGreatCodeMath
set_option linter.unusedVariables false
set_option maxRecDepth 100000
namespace Go.Proofs.YtlcjllgfpfldlaaGreat
namespace sum
abbrev AB := Nat × Nat
def one (s : AB) (x : UInt8) : AB := ((s.1 + x.toNat) % 65521, (s.2 + (s.1 + x.toNat) % 65521) % 65521)
def run (s : AB) (l : List UInt8) : AB := l.foldl one s
def adl (l : List UInt8) : AB := run (1, 0) l
def tell (s : AB) : Nat := s.2 * 65536 + s.1
def sumB (l : List UInt8) : Nat := tell (adl l)
def Low (s : AB) : Prop := s.1 < 65521 ∧ s.2 < 65521

theorem one_low (s : AB) (x : UInt8) : Low (one s x) := ⟨Nat.mod_lt _ (by omega), Nat.mod_lt _ (by omega)⟩
theorem run_low (l : List UInt8) {s : AB} (h : Low s) : Low (run s l) := by
 induction l generalizing s with
 | nil => exact h
 | cons x l ih => exact ih (one_low s x)
theorem start_low : Low (1, 0) := ⟨by decide, by decide⟩
theorem adl_low (l : List UInt8) : Low (adl l) := run_low l start_low
theorem run_append (s : AB) (a b : List UInt8) : run s (a ++ b) = run (run s a) b := by simp [run]
theorem sum_u32 (l : List UInt8) : sumB l < 4294967296 := by
 have h := adl_low l
 unfold Low at h
 unfold sumB tell
 omega
/-! ### what two runs are apart -/
/-! ### bytes 0 behind -/
end sum
namespace frame
open code (putB putB_len putB_append valB valB_put)
open sum (sumB sum_u32)
def headB (b : List UInt8) : List UInt8 := putB b.length 3 ++ b
def wrapB (b : List UInt8) : List UInt8 := headB b ++ putB (sumB (headB b)) 4
theorem headB_len (b : List UInt8) : (headB b).length = b.length + 3 := by unfold headB; rw [List.length_append, putB_len]; omega
theorem wrapB_len (b : List UInt8) : (wrapB b).length = b.length + 7 := by unfold wrapB; rw [List.length_append, headB_len, putB_len]
theorem p3 : (256 : Nat) ^ 3 = 16777216 := by decide
def firstB (s : List UInt8) : Option (List UInt8) :=
 if s.length < 7 then none
 else if 60000 < valB (s.take 3) ∨ s.length - 7 < valB (s.take 3) then none
 else if wrapB ((s.drop 3).take (valB (s.take 3))) = s.take (valB (s.take 3) + 7) then some ((s.drop 3).take (valB (s.take 3))) else none
theorem wrap_take {b : List UInt8} (hb : b.length ≤ 60000) (r : List UInt8) : valB ((wrapB b ++ r).take 3) = b.length := by
 have e : wrapB b ++ r = putB b.length 3 ++ (b ++ (putB (sumB (headB b)) 4 ++ r)) := by simp [wrapB, headB, List.append_assoc]
 rw [e, (putB_append _ _ _).1, valB_put, p3, Nat.mod_eq_of_lt (by omega)]
theorem wrap_mid {b : List UInt8} (r : List UInt8) : ((wrapB b ++ r).drop 3).take b.length = b := by
 have e : wrapB b ++ r = putB b.length 3 ++ (b ++ (putB (sumB (headB b)) 4 ++ r)) := by simp [wrapB, headB, List.append_assoc]
 rw [e, (putB_append _ _ _).2, List.take_append_of_le_length (Nat.le_refl _), List.take_of_length_le (Nat.le_refl _)]
theorem first_wrap {b : List UInt8} (hb : b.length ≤ 60000) (r : List UInt8) : firstB (wrapB b ++ r) = some b := by
 have hl := wrapB_len b
 unfold firstB
 rw [wrap_take hb, wrap_mid, if_neg (by rw [List.length_append]; omega), if_neg (by rw [List.length_append]; omega), if_pos]
 rw [List.take_append_of_le_length (by omega), List.take_of_length_le (by omega)]
theorem first_some {s x : List UInt8} (h : firstB s = some x) : x.length ≤ 60000 ∧ s = wrapB x ++ s.drop (x.length + 7) ∧ x.length + 7 ≤ s.length := by
 unfold firstB at h
 split at h
 ·cases h
 ·rename_i h1
  split at h
  ·cases h
  ·rename_i h2
   split at h
   ·rename_i h3
    injection h with h
    have hl : x.length = valB (s.take 3) := by rw [← h, List.length_take, List.length_drop]; omega
    rw [h, ← hl] at h3
    refine ⟨by omega, ?_, by omega⟩
    rw [h3, List.take_append_drop]
   ·cases h
def scanN : Nat → List UInt8 → List (List UInt8)
 | 0, _ => []
 | k + 1, s => match firstB s with
  | none => []
  | some x => x :: scanN k (s.drop (x.length + 7))
def scanB (s : List UInt8) : List (List UInt8) := scanN s.length s
def rowsB (l : List (List UInt8)) : List UInt8 := l.flatMap wrapB
theorem first_nil : firstB [] = none := rfl
theorem scanN_nil : ∀ k, scanN k [] = []
 | 0 => rfl
 | k + 1 => rfl
theorem scanN_eq : ∀ (k m : Nat) (s : List UInt8), s.length ≤ k → s.length ≤ m → scanN k s = scanN m s
 | 0, m, s, h, _ => by
  have e : s = [] := List.eq_nil_of_length_eq_zero (by omega)
  subst e; rw [scanN_nil, scanN_nil]
 | k + 1, 0, s, _, h => by
  have e : s = [] := List.eq_nil_of_length_eq_zero (by omega)
  subst e; rw [scanN_nil, scanN_nil]
 | k + 1, m + 1, s, h, h' => by
  simp only [scanN]
  cases e : firstB s with
  | none => rfl
  | some x =>
   simp only
   have h1 := (first_some e).2.2
   rw [scanN_eq k m _ (by rw [List.length_drop]; omega) (by rw [List.length_drop]; omega)]
theorem scanN_fuel (k : Nat) (s : List UInt8) (h : s.length ≤ k) : scanN k s = scanB s := scanN_eq k s.length s h (Nat.le_refl _)
theorem scan_none {s : List UInt8} (h : firstB s = none) : scanB s = [] := by
 unfold scanB
 rcases s with _ | ⟨c, s⟩
 ·rfl
 ·simp only [List.length_cons, scanN, h]
theorem scan_some {s x : List UInt8} (h : firstB s = some x) : scanB s = x :: scanB (s.drop (x.length + 7)) := by
 have h1 := (first_some h).2.2
 rcases s with _ | ⟨c, s⟩
 ·simp at h1
 ·have e : scanB (c :: s) = scanN (s.length + 1) (c :: s) := rfl
  rw [e]
  simp only [scanN, h]
  rw [scanN_fuel _ _ (by rw [List.length_drop, List.length_cons]; omega)]
theorem scan_wrap {x : List UInt8} (hx : x.length ≤ 60000) (r : List UInt8) : scanB (wrapB x ++ r) = x :: scanB r := by
 have hl := wrapB_len x
 rw [scan_some (first_wrap hx r)]
 congr 1
 rw [List.drop_append_of_le_length (by omega), List.drop_of_length_le (by omega), List.nil_append]
theorem scan_rows {l : List (List UInt8)} (h : ∀ x ∈ l, x.length ≤ 60000) (r : List UInt8) : scanB (rowsB l ++ r) = l ++ scanB r := by
 induction l with
 | nil => rfl
 | cons x l ih =>
  have e : rowsB (x :: l) ++ r = wrapB x ++ (rowsB l ++ r) := by simp [rowsB, List.append_assoc]
  rw [e, scan_wrap (h x (by simp)), ih fun y hy => h y (by simp [hy]), List.cons_append]
end frame
end Go.Proofs.YtlcjllgfpfldlaaGreat
