/-
  The check sum of bytes, plain: how bytes are cut is nothing; one byte that is another one, two side by side that change places, bytes 0 behind: told apart. Nothing of the program.
-/
import Derived.RowKit
namespace Go.Proofs.Ytimijfibfjlkjaa.sum
set_option linter.unusedVariables false
set_option maxRecDepth 100000

/-- the two numbers -/
abbrev AB := Nat × Nat
def one (s : AB) (x : UInt8) : AB := ((s.1 + x.toNat) % 65521, (s.2 + (s.1 + x.toNat) % 65521) % 65521)
def run (s : AB) (l : List UInt8) : AB := l.foldl one s
def adl (l : List UInt8) : AB := run (1, 0) l
def tell (s : AB) : Nat := s.2 * 65536 + s.1
def sumB (l : List UInt8) : Nat := tell (adl l)
def Low (s : AB) : Prop := s.1 < 65521 ∧ s.2 < 65521

theorem one_low (s : AB) (x : UInt8) : Low (one s x) := ⟨Nat.mod_lt _ (by omega), Nat.mod_lt _ (by omega)⟩
theorem run_low (l : List UInt8) {s : AB} (h : Low s) : Low (run s l) := by
  induction l generalizing s with
  | nil => exact h
  | cons x l ih => exact ih (one_low s x)
theorem start_low : Low (1, 0) := ⟨by decide, by decide⟩
theorem adl_low (l : List UInt8) : Low (adl l) := run_low l start_low
theorem run_append (s : AB) (a b : List UInt8) : run s (a ++ b) = run (run s a) b := by simp [run]
theorem run_flatten (s : AB) (ls : List (List UInt8)) : run s ls.flatten = ls.foldl run s := by
  induction ls generalizing s with
  | nil => rfl
  | cons l ls ih => rw [List.flatten_cons, run_append, List.foldl_cons, ih]
theorem sum_u32 (l : List UInt8) : sumB l < 4294967296 := by
  have h := adl_low l
  unfold Low at h
  unfold sumB tell
  omega
/-- the sum tells both numbers -/
theorem tell_inj {s t : AB} (hs : Low s) (ht : Low t) (h : tell s = tell t) : s = t := by
  unfold Low at hs ht
  unfold tell at h
  exact Prod.ext (by omega) (by omega)
theorem tell_low {s : AB} (h : Low s) : tell s % 65536 = s.1 := by
  unfold Low at h
  unfold tell
  omega
/-- however bytes are cut -/
theorem sum_parts (a : List UInt8) {n m : Nat} (h : n ≤ m) : (a.take n ++ ((a.take m).drop n ++ a.drop m)) = a := by
  have e : a.take n = (a.take m).take n := by rw [List.take_take, Nat.min_eq_left h]
  rw [← List.append_assoc, e, List.take_append_drop, List.take_append_drop]

/-! ### what two runs are apart -/
/-- the first number, over whole numbers -/
def tot (l : List UInt8) : Nat := (l.map UInt8.toNat).sum
theorem run_fst (l : List UInt8) (s : AB) : (run s l).1 % 65521 = (s.1 + tot l) % 65521 := by
  induction l generalizing s with
  | nil => simp [run, tot]
  | cons x l ih =>
    show (run (one s x) l).1 % 65521 = _
    rw [ih]
    simp only [one, tot, List.map_cons, List.sum_cons]
    omega
/-- runs of one list from two beginnings: how far they are apart -/
theorem run_apart (l : List UInt8) (s t : AB) : (((run s l).2 : Int) - (run t l).2) % 65521 = (((s.2 : Int) - t.2) + (l.length : Int) * ((s.1 : Int) - t.1)) % 65521 := by
  induction l generalizing s t with
  | nil => simp [run]
  | cons x l ih =>
    show (((run (one s x) l).2 : Int) - (run (one t x) l).2) % 65521 = _
    rw [ih]
    have e1 : (((one s x).1 : Int) - (one t x).1) % 65521 = ((s.1 : Int) - t.1) % 65521 := by simp only [one]; omega
    have e2 : (((one s x).2 : Int) - (one t x).2) % 65521 = (((s.2 : Int) - t.2) + ((s.1 : Int) - t.1)) % 65521 := by simp only [one]; omega
    rw [Int.add_emod, Int.mul_emod, e1, e2, ← Int.mul_emod, ← Int.add_emod, List.length_cons]
    congr 1
    have : ((l.length + 1 : Nat) : Int) * ((s.1 : Int) - t.1) = (l.length : Int) * ((s.1 : Int) - t.1) + ((s.1 : Int) - t.1) := by
      rw [Int.natCast_add, Int.add_mul]; simp
    omega
/-- one byte that is another one -/
theorem sum_byte {p q : List UInt8} {x y : UInt8} (h : x ≠ y) : sumB (p ++ x :: q) ≠ sumB (p ++ y :: q) := by
  intro e
  have e2 := congrArg Prod.fst (tell_inj (adl_low _) (adl_low _) e)
  have h1 := run_fst (p ++ x :: q) (1, 0)
  have h2 := run_fst (p ++ y :: q) (1, 0)
  unfold adl at e2
  rw [e2, h2] at h1
  simp only [tot, List.map_append, List.map_cons, List.sum_append, List.sum_cons] at h1
  have hx := x.toNat_lt
  have hy := y.toNat_lt
  exact h (UInt8.toNat_inj.1 (by omega))
/-- two bytes side by side that change places -/
theorem sum_swap {p q : List UInt8} {x y : UInt8} : sumB (p ++ x :: y :: q) = sumB (p ++ y :: x :: q) ↔ x = y := by
  constructor
  · intro e
    have e2 := congrArg Prod.snd (tell_inj (adl_low _) (adl_low _) e)
    unfold adl at e2
    rw [run_append, run_append] at e2
    generalize run (1, 0) p = s at e2
    change (run (one (one s x) y) q).2 = (run (one (one s y) x) q).2 at e2
    have h := run_apart q (one (one s x) y) (one (one s y) x)
    rw [e2] at h
    have e1 : (one (one s x) y).1 = (one (one s y) x).1 := by simp only [one]; omega
    rw [e1, Int.sub_self, Int.sub_self, Int.mul_zero, Int.add_zero] at h
    simp only [one] at h
    have hx := x.toNat_lt
    have hy := y.toNat_lt
    exact UInt8.toNat_inj.1 (by omega)
  · intro e; subst e; rfl

/-! ### bytes 0 behind -/
def noughts (n : Nat) : List UInt8 := List.replicate n 0
theorem run_noughts {s : AB} (h : Low s) (n : Nat) : (run s (noughts n)).1 = s.1 ∧ (run s (noughts n)).2 = (s.2 + n * s.1) % 65521 := by
  induction n generalizing s with
  | zero =>
    unfold Low at h
    exact ⟨rfl, by show s.2 = _; rw [Nat.zero_mul, Nat.add_zero, Nat.mod_eq_of_lt h.2]⟩
  | succ n ih =>
    have e : run s (noughts (n + 1)) = run (one s 0) (noughts n) := rfl
    have h1 := ih (one_low s 0)
    have e1 : (one s 0).1 = s.1 := by unfold Low at h; show (s.1 + 0) % 65521 = s.1; omega
    have e2 : (one s 0).2 = (s.2 + s.1) % 65521 := by unfold Low at h; show (s.2 + (s.1 + 0) % 65521) % 65521 = _; omega
    rw [e, h1.1, h1.2, e1, e2]
    refine ⟨rfl, ?_⟩
    rw [Nat.add_mul, Nat.one_mul]
    omega
theorem co_small : ∀ d : Fin 200, d.val ≠ 0 → Nat.gcd d.val 65521 = 1 := by decide +kernel
/-- a first number that is not nought tells how many noughts are behind -/
theorem mul_apart {a n m : Nat} (ha : a < 65521) (h0 : a ≠ 0) (hn : n < 200) (hm : m ≤ n) (h : (n * a) % 65521 = (m * a) % 65521) : n = m := by
  have hd : 65521 ∣ (n - m) * a := by
    rw [Nat.sub_mul]
    have hle := Nat.mul_le_mul_right a hm
    exact Nat.dvd_of_mod_eq_zero (by omega)
  by_cases e : n - m = 0
  · omega
  · have hg := co_small ⟨n - m, by omega⟩ e
    have hc : Nat.Coprime 65521 (n - m) := by unfold Nat.Coprime; rw [Nat.gcd_comm]; exact hg
    have := Nat.le_of_dvd (by omega) (hc.dvd_of_dvd_mul_left hd)
    omega
theorem sum_long {a : List UInt8} {n m : Nat} (hn : n < 200) (hm : m < 200) (h0 : sumB a % 65536 ≠ 0) : sumB (a ++ noughts n) = sumB (a ++ noughts m) ↔ n = m := by
  have hl := adl_low a
  have ha : (adl a).1 ≠ 0 := by unfold sumB at h0; rw [tell_low hl] at h0; exact h0
  constructor
  · intro e
    have e2 := congrArg Prod.snd (tell_inj (adl_low _) (adl_low _) e)
    unfold adl at e2
    rw [run_append, run_append] at e2
    change (run (adl a) (noughts n)).2 = (run (adl a) (noughts m)).2 at e2
    rw [(run_noughts hl n).2, (run_noughts hl m).2] at e2
    have hb : (n * (adl a).1) % 65521 = (m * (adl a).1) % 65521 := by omega
    rcases Nat.le_total m n with h | h
    · exact mul_apart hl.1 ha hn h hb
    · exact (mul_apart hl.1 ha hm h hb.symm).symm
  · intro e; subst e; rfl
end Go.Proofs.Ytimijfibfjlkjaa.sum
