/-
  What the statements' walks use of lists that came out.
-/
import Derived.Test.YtimijfibfjlkjaaFrameKnown
import Derived.Test.YtimijfibfjlkjaaFrameLaw
namespace Go.Proofs.Ytimijfibfjlkjaa.frame
open Go.ChangeShapes Go.WideShapes Go.ChangeAt Go.RowKit Go.Deep
open Go.Proofs.Ytimijfibfjlkjaa.bytes
open Go.Proofs.Ytimijfibfjlkjaa.code (putB)
set_option linter.unusedVariables false
set_option maxRecDepth 100000
set_option linter.unusedSimpArgs false

theorem rows_one (l : List UInt8) : rowsB [l] = wrapB l := by simp [rowsB]
theorem scan_one {l : List UInt8} (h : l.length ≤ 60000) : scanB (wrapB l) = [l] := by
  have := scan_rows (l := [l]) (fun x hx => by simp at hx; subst hx; exact h) []
  rw [rows_one, List.append_nil] at this
  rw [this]
  rfl
theorem scan_two {l k : List UInt8} (h : l.length ≤ 60000) (h' : k.length ≤ 60000) : scanB (wrapB l ++ wrapB k) = [l, k] := by
  rw [scan_wrap h, scan_one h']
theorem scan_lacks {l k : List UInt8} (h : l.length ≤ 60000) (h' : k.length ≤ 60000) (i : Nat) (hi : i = (wrapB l ++ wrapB k).length - 1) : scanB ((wrapB l ++ wrapB k).take i) = [l] := by
  have h1 := wrapB_len l
  have h2 := wrapB_len k
  rw [List.length_append] at hi
  rw [List.take_append, List.take_of_length_le (by omega), scan_wrap h, scan_none (first_short h' (by omega))]
theorem rows_scan_le : ∀ (l : List UInt8), (rowsB (scanB l)).length ≤ l.length := by
  intro l
  generalize hk : l.length = k
  induction k using Nat.strongRecOn generalizing l with
  | ind k ih =>
    cases hx : firstB l with
    | none => rw [scan_none hx]; simp [rowsB]
    | some x =>
      have h3 := (first_some hx).2.2
      rw [scan_some hx]
      have e : rowsB (x :: scanB (l.drop (x.length + 7))) = wrapB x ++ rowsB (scanB (l.drop (x.length + 7))) := by simp [rowsB]
      rw [e, List.length_append, wrapB_len]
      have := ih (l.drop (x.length + 7)).length (by rw [List.length_drop]; omega) _ rfl
      rw [List.length_drop] at this
      omega
/-- a list that came out -/
theorem list_at {W : World} {a : Option Addr} {ls : List Lr} {xs : List (List UInt8)} (h : ListsIn W a ls) (hx : ls.map (·.l) = xs) (i : Nat) (hi : i < xs.length) : ∃ b off q d, a = some ⟨b, off, none⟩ ∧ W.cell? ⟨b, off + i, none⟩ = some (.slice q (xs[i]).length d) ∧ ByIn W q xs[i] := by
  subst hx
  have hi2 : i < ls.length := by simpa using hi
  obtain ⟨b, off, e, hc⟩ := h.get hi2
  refine ⟨b, off, (ln ls i).a, (ln ls i).cap, e, ?_⟩
  have := hc i hi2
  rw [ln_eq hi2] at this ⊢
  simpa using this
theorem grown_store (W : World) (g k : Nat) (v : Value) : W.grownBy (W.setCell ⟨g, k, none⟩ v) (some g) :=
  ⟨rfl, rfl, rfl, (KeepsWalks.setCell W _ v).size, fun i _ hne => Below.heap_setCell _ _ _ i (fun e => hne (by rw [e]))⟩
theorem grown_two {A B C : World} {g : Nat} (h : A.grownBy B (some g)) (k : B.grownBy C (some g)) : A.grownBy C (some g) :=
  ⟨k.os.trans h.os, k.tape.trans h.tape, k.output.trans h.output, Nat.le_trans h.size k.size, fun i hi hne => (k.block i (Nat.lt_of_lt_of_le hi h.size) hne).trans (h.block i hi hne)⟩
theorem grown_none (A : World) (g : Nat) : A.grownBy A (some g) := ⟨rfl, rfl, rfl, Nat.le_refl _, fun _ _ _ => rfl⟩
/-- the frame's row -/
theorem row_of {B : Nat} {w : World} {v : Value} {l q : List UInt8} {k : Nat} (h : Bs B w v q) (hq : q.length = k) (hk : 0 < k) : ∃ g c, v = .slice (some ⟨g, 0, none⟩) k c ∧ Own8 B w g k c q := by
  obtain ⟨g, c, e, h8⟩ := h.form1 (by omega)
  rw [hq] at e h8
  exact ⟨g, c, e, h8⟩
end Go.Proofs.Ytimijfibfjlkjaa.frame
