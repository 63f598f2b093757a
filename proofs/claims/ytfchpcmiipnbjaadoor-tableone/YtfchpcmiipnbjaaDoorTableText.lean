/-
  The text of a key: no two keys have one text. Nothing of the program.
-/
import Derived.RowKit
import Derived.Lib.ItoaLen
namespace Go.Proofs.YtfchpcmiipnbjaaDoor.table
open Go.Lib

/-- what digits come to -/
def val (l : List UInt8) : Nat := l.foldl (fun a c => a * 10 + (c.toNat - 48)) 0
theorem val_snoc (l : List UInt8) (c : UInt8) : val (l ++ [c]) = val l * 10 + (c.toNat - 48) := by simp [val]
theorem digit_nat {d : Nat} (h : d < 10) : (UInt8.ofNat (48 + d)).toNat = 48 + d := by
  rw [UInt8.toNat_ofNat_of_lt']; show 48 + d < 256; omega
theorem val_dec (u : Nat) : val (decDigits u) = u := by
  induction u using Nat.strongRecOn with
  | _ u ih =>
    rw [decDigits]
    split
    · rename_i h
      simp only [val, List.foldl_cons, List.foldl_nil]
      rw [digit_nat h]; omega
    · rename_i h
      rw [val_snoc, ih (u / 10) (by omega), digit_nat (by omega)]; omega
theorem dec_digits (u : Nat) : ∀ c ∈ decDigits u, 48 ≤ c.toNat ∧ c.toNat ≤ 57 := by
  induction u using Nat.strongRecOn with
  | _ u ih =>
    rw [decDigits]
    split
    · rename_i h
      intro c hc
      simp only [List.mem_singleton] at hc
      subst hc
      rw [digit_nat h]; omega
    · rename_i h
      intro c hc
      rcases List.mem_append.1 hc with hc | hc
      · exact ih (u / 10) (by omega) c hc
      · simp only [List.mem_singleton] at hc
        subst hc
        rw [digit_nat (by omega)]; omega
theorem dec_ne (u : Nat) : decDigits u ≠ [] := by
  intro e
  have h1 := decDigits_length u
  rw [e] at h1
  have h2 := nDigits_pos u
  simp at h1
  omega
theorem dec_inj {u v : Nat} (h : decDigits u = decDigits v) : u = v := by
  have := congrArg val h
  rwa [val_dec, val_dec] at this
theorem itoa_chars (n : Int) : ∀ c ∈ itoa n, c ≠ 44 := by
  intro c hc e
  subst e
  unfold itoa at hc
  split at hc
  · rcases List.mem_cons.1 hc with h | h
    · exact absurd h (by decide)
    · have := (dec_digits _ _ h).1; exact absurd this (by decide)
  · have := (dec_digits _ _ hc).1; exact absurd this (by decide)
theorem itoa_inj {m n : Int} (h : itoa m = itoa n) : m = n := by
  unfold itoa at h
  split at h
  · split at h
    · injection h with _ h
      have := dec_inj h; omega
    · exfalso
      have : (45 : UInt8) ∈ decDigits n.toNat := by rw [← h]; simp
      have := (dec_digits _ _ this).1
      exact absurd this (by decide)
  · split at h
    · exfalso
      have : (45 : UInt8) ∈ decDigits m.toNat := by rw [h]; simp
      have := (dec_digits _ _ this).1
      exact absurd this (by decide)
    · have := dec_inj h; omega

/-- a mark behind each place -/
def ktext : List Int → List UInt8
  | [] => []
  | v :: l => itoa v ++ 44 :: ktext l
theorem ktext_append : ∀ (l m : List Int), ktext (l ++ m) = ktext l ++ ktext m
  | [], _ => rfl
  | v :: l, m => by simp [ktext, ktext_append l m]
theorem ktext_snoc (l : List Int) (v : Int) : ktext (l ++ [v]) = ktext l ++ (itoa v ++ [44]) := by rw [ktext_append]; simp [ktext]
theorem split_mark : ∀ {p q s t : List UInt8}, (∀ c ∈ p, c ≠ 44) → (∀ c ∈ q, c ≠ 44) → p ++ 44 :: s = q ++ 44 :: t → p = q ∧ s = t
  | [], [], _, _, _, _, h => by simp at h; exact ⟨rfl, h⟩
  | [], y :: q, _, _, _, hq, h => by
    simp only [List.nil_append, List.cons_append, List.cons.injEq] at h
    exact absurd h.1.symm (hq y (by simp))
  | x :: p, [], _, _, hp, _, h => by
    simp only [List.nil_append, List.cons_append, List.cons.injEq] at h
    exact absurd h.1 (hp x (by simp))
  | x :: p, y :: q, s, t, hp, hq, h => by
    simp only [List.cons_append, List.cons.injEq] at h
    obtain ⟨e1, e2⟩ := split_mark (fun c hc => hp c (by simp [hc])) (fun c hc => hq c (by simp [hc])) h.2
    exact ⟨by rw [h.1, e1], e2⟩
theorem ktext_inj : ∀ {l m : List Int}, ktext l = ktext m → l = m
  | [], [], _ => rfl
  | [], v :: m, h => by simp [ktext] at h
  | v :: l, [], h => by simp [ktext] at h
  | v :: l, u :: m, h => by
    obtain ⟨e1, e2⟩ := split_mark (itoa_chars v) (itoa_chars u) h
    rw [itoa_inj e1, ktext_inj e2]
theorem ktext_len : ∀ (l : List Int), (∀ v ∈ l, -9223372036854775808 ≤ v ∧ v ≤ 9223372036854775807) → (ktext l).length ≤ 22 * l.length
  | [], _ => by simp [ktext]
  | v :: l, h => by
    have h1 := h v (by simp)
    have := itoa_length_le v h1.1 h1.2
    have := ktext_len l fun u hu => h u (by simp [hu])
    simp only [ktext, List.length_append, List.length_cons]
    omega
end Go.Proofs.YtfchpcmiipnbjaaDoor.table
