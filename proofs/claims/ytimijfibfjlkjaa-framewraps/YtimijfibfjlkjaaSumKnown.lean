/-
  Sum of one, two and four lists that stand in a row of the call's own; the chapter's example holds.
-/
import Derived.Test.YtimijfibfjlkjaaSumSum
import Derived.Test.YtimijfibfjlkjaaByteOwn
import Derived.Lib.SlBytesConst
namespace Go.Proofs.Ytimijfibfjlkjaa.sum
open Go.ChangeShapes Go.WideShapes Go.ChangeAt Go.RowKit Go.Deep
open Go.Proofs.Ytimijfibfjlkjaa.bytes
set_option linter.unusedVariables false
set_option maxRecDepth 100000
set_option linter.unusedSimpArgs false

theorem lists1 {w : World} {a : Option Addr} {n c : Nat} {l : List UInt8} (h : Sl w a n c l) : ListsIn (w.alloc (.cells #[.slice a n c] 22)) (some ⟨w.heap.size, 0, none⟩) [⟨a, c, l⟩] := by
  have hb : Below w.heap.size w (w.alloc (.cells #[.slice a n c] 22)) := (Below.refl _ _).alloc (Nat.le_refl _) _
  have hx := Boxed.new w #[.slice a n c] 22
  have h2 := h.keep hb
  have e := h.at_.len
  refine .inr ⟨w.heap.size, 0, rfl, fun i hi => ?_⟩
  match i, hi with
  | 0, _ => exact ⟨by rw [Nat.zero_add]; show _ = some (Value.slice a l.length c); rw [e]; exact hx.cell rfl, h2.at_.mem⟩
theorem lists2 {w : World} {a b : Option Addr} {n c m d : Nat} {l k : List UInt8} (h : Sl w a n c l) (h' : Sl w b m d k) : ListsIn (w.alloc (.cells #[.slice a n c, .slice b m d] 22)) (some ⟨w.heap.size, 0, none⟩) [⟨a, c, l⟩, ⟨b, d, k⟩] := by
  have hb : Below w.heap.size w (w.alloc (.cells #[.slice a n c, .slice b m d] 22)) := (Below.refl _ _).alloc (Nat.le_refl _) _
  have hx := Boxed.new w #[.slice a n c, .slice b m d] 22
  have e := h.at_.len
  have e' := h'.at_.len
  refine .inr ⟨w.heap.size, 0, rfl, fun i hi => ?_⟩
  match i, hi with
  | 0, _ => exact ⟨by rw [Nat.zero_add]; show _ = some (Value.slice a l.length c); rw [e]; exact hx.cell rfl, (h.keep hb).at_.mem⟩
  | 1, _ => exact ⟨by rw [Nat.zero_add]; show _ = some (Value.slice b k.length d); rw [e']; exact hx.cell rfl, (h'.keep hb).at_.mem⟩

theorem sum1 {w : World} {a : Option Addr} {n c : Nat} {l : List UInt8} (h : Sl w a n c l) :
    Calls Try.prog 25 #[.slice (some ⟨w.heap.size, 0, none⟩) 1 1] (w.alloc (.cells #[.slice a n c] 22)) fun e w' => e = .returned (.int .u32 (sumB l : Nat)) ∧ Below w.heap.size w w' :=
  (sum_any 1 1 _ _ _ (lists1 h) rfl (by omega) (fun x hx => by simp at hx; subst hx; rw [h.at_.len]; exact h.max)).mono fun e w' ⟨h1, h2⟩ => by
    refine ⟨by rw [h1]; simp [flat], ((Below.refl _ _).alloc (Nat.le_refl _) (.cells #[.slice a n c] 22)).trans (h2.mono (by simp))⟩
theorem ref1 {w : World} {a : Option Addr} {n c : Nat} {l : List UInt8} (h : Sl w a n c l) :
    Calls Try.prog 23 #[.slice (some ⟨w.heap.size, 0, none⟩) 1 1] (w.alloc (.cells #[.slice a n c] 22)) fun e w' => e = .returned (.int .u32 (sumB l : Nat)) ∧ Below w.heap.size w w' :=
  (refSum_any 1 1 _ _ _ (lists1 h) rfl (by omega) (fun x hx => by simp at hx; subst hx; rw [h.at_.len]; exact h.max)).mono fun e w' ⟨h1, h2⟩ => by
    refine ⟨by rw [h1]; simp [flat], ((Below.refl _ _).alloc (Nat.le_refl _) (.cells #[.slice a n c] 22)).trans (h2.mono (by simp))⟩
theorem sum2 {w : World} {a b : Option Addr} {n c m d : Nat} {l k : List UInt8} (h : Sl w a n c l) (h' : Sl w b m d k) :
    Calls Try.prog 25 #[.slice (some ⟨w.heap.size, 0, none⟩) 2 2] (w.alloc (.cells #[.slice a n c, .slice b m d] 22)) fun e w' => e = .returned (.int .u32 (sumB (l ++ k) : Nat)) ∧ Below w.heap.size w w' :=
  (sum_any 2 2 _ _ _ (lists2 h h') rfl (by omega) (fun x hx => by
      simp at hx
      rcases hx with hx | hx
      · subst hx; rw [h.at_.len]; exact h.max
      · subst hx; rw [h'.at_.len]; exact h'.max)).mono fun e w' ⟨h1, h2⟩ => by
    refine ⟨by rw [h1]; simp [flat], ((Below.refl _ _).alloc (Nat.le_refl _) (.cells #[.slice a n c, .slice b m d] 22)).trans (h2.mono (by simp))⟩
theorem ref2 {w : World} {a b : Option Addr} {n c m d : Nat} {l k : List UInt8} (h : Sl w a n c l) (h' : Sl w b m d k) :
    Calls Try.prog 23 #[.slice (some ⟨w.heap.size, 0, none⟩) 2 2] (w.alloc (.cells #[.slice a n c, .slice b m d] 22)) fun e w' => e = .returned (.int .u32 (sumB (l ++ k) : Nat)) ∧ Below w.heap.size w w' :=
  (refSum_any 2 2 _ _ _ (lists2 h h') rfl (by omega) (fun x hx => by
      simp at hx
      rcases hx with hx | hx
      · subst hx; rw [h.at_.len]; exact h.max
      · subst hx; rw [h'.at_.len]; exact h'.max)).mono fun e w' ⟨h1, h2⟩ => by
    refine ⟨by rw [h1]; simp [flat], ((Below.refl _ _).alloc (Nat.le_refl _) (.cells #[.slice a n c, .slice b m d] 22)).trans (h2.mono (by simp))⟩
theorem sum0 (w : World) : Calls Try.prog 25 #[.slice none 0 0] w fun e w' => e = .returned (.int .u32 1) ∧ Below w.heap.size w w' :=
  (sum_any 0 0 none [] w (.inl rfl) rfl (by omega) (fun x hx => by simp at hx)).mono fun e w' h => h

/-- Sum of one list, wherever its row lies -/
theorem sumAt1 {w : World} {a : Option Addr} {n c : Nat} {l : List UInt8} (h : Sl w a n c l) (W : World) (b : Nat) (hb : Below w.heap.size w W) (h0 : W.cell? ⟨b, 0, none⟩ = some (.slice a n c)) :
    Calls Try.prog 25 #[.slice (some ⟨b, 0, none⟩) 1 1] W fun e w' => e = .returned (.int .u32 (sumB l : Nat)) ∧ Below W.heap.size W w' :=
  (sum_any 1 1 (some ⟨b, 0, none⟩) [⟨a, c, l⟩] W (.inr ⟨b, 0, rfl, fun i hi => by
      match i, hi with
      | 0, _ => exact ⟨by rw [Nat.zero_add]; show _ = some (Value.slice a l.length c); rw [h.at_.len]; exact h0, (h.keep hb).at_.mem⟩⟩) rfl (by omega) (fun x hx => by simp at hx; subst hx; rw [h.at_.len]; exact h.max)).mono fun e w' ⟨h1, h2⟩ => by
    refine ⟨by rw [h1]; simp [flat], h2⟩

def wiki : List UInt8 := [87, 105, 107, 105, 112, 101, 100, 105, 97]
theorem wiki_sum : sumB wiki = 300286872 := by decide +kernel

end Go.Proofs.Ytimijfibfjlkjaa.sum
