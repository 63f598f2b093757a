/-
  Sum of one, two and four lists that stand in a row of the call's own; the chapter's example holds.
-/
import Derived.Test.YtjfiojojacgccaaSumSum
import Derived.Test.YtjfiojojacgccaaByteOwn
import Derived.Lib.SlBytesConst
namespace Go.Proofs.Ytjfiojojacgccaa.sum
open Go.ChangeShapes Go.WideShapes Go.ChangeAt Go.RowKit Go.Deep
open Go.Proofs.Ytjfiojojacgccaa.bytes
set_option linter.unusedVariables false
set_option maxRecDepth 100000
set_option linter.unusedSimpArgs false

theorem lists1 {w : World} {a : Option Addr} {n c : Nat} {l : List UInt8} (h : Sl w a n c l) : ListsIn (w.alloc (.cells #[.slice a n c] 22)) (some ⟨w.heap.size, 0, none⟩) [⟨a, c, l⟩] := by
  have hb : Below w.heap.size w (w.alloc (.cells #[.slice a n c] 22)) := (Below.refl _ _).alloc (Nat.le_refl _) _
  have hx := Boxed.new w #[.slice a n c] 22
  have h2 := h.keep hb
  have e := h.at_.len
  refine .inr ⟨w.heap.size, 0, rfl, fun i hi => ?_⟩
  match i, hi with
  | 0, _ => exact ⟨by rw [Nat.zero_add]; show _ = some (Value.slice a l.length c); rw [e]; exact hx.cell rfl, h2.at_.mem⟩
theorem lists2 {w : World} {a b : Option Addr} {n c m d : Nat} {l k : List UInt8} (h : Sl w a n c l) (h' : Sl w b m d k) : ListsIn (w.alloc (.cells #[.slice a n c, .slice b m d] 22)) (some ⟨w.heap.size, 0, none⟩) [⟨a, c, l⟩, ⟨b, d, k⟩] := by
  have hb : Below w.heap.size w (w.alloc (.cells #[.slice a n c, .slice b m d] 22)) := (Below.refl _ _).alloc (Nat.le_refl _) _
  have hx := Boxed.new w #[.slice a n c, .slice b m d] 22
  have e := h.at_.len
  have e' := h'.at_.len
  refine .inr ⟨w.heap.size, 0, rfl, fun i hi => ?_⟩
  match i, hi with
  | 0, _ => exact ⟨by rw [Nat.zero_add]; show _ = some (Value.slice a l.length c); rw [e]; exact hx.cell rfl, (h.keep hb).at_.mem⟩
  | 1, _ => exact ⟨by rw [Nat.zero_add]; show _ = some (Value.slice b k.length d); rw [e']; exact hx.cell rfl, (h'.keep hb).at_.mem⟩

theorem sum1 {w : World} {a : Option Addr} {n c : Nat} {l : List UInt8} (h : Sl w a n c l) :
    Calls Try.prog 10 #[.slice (some ⟨w.heap.size, 0, none⟩) 1 1] (w.alloc (.cells #[.slice a n c] 22)) fun e w' => e = .returned (.int .u32 (sumB l : Nat)) ∧ Below w.heap.size w w' :=
  (sum_any 1 1 _ _ _ (lists1 h) rfl (by omega) (fun x hx => by simp at hx; subst hx; rw [h.at_.len]; exact h.max)).mono fun e w' ⟨h1, h2⟩ => by
    refine ⟨by rw [h1]; simp [flat], ((Below.refl _ _).alloc (Nat.le_refl _) (.cells #[.slice a n c] 22)).trans (h2.mono (by simp))⟩
theorem ref1 {w : World} {a : Option Addr} {n c : Nat} {l : List UInt8} (h : Sl w a n c l) :
    Calls Try.prog 11 #[.slice (some ⟨w.heap.size, 0, none⟩) 1 1] (w.alloc (.cells #[.slice a n c] 22)) fun e w' => e = .returned (.int .u32 (sumB l : Nat)) ∧ Below w.heap.size w w' :=
  (refSum_any 1 1 _ _ _ (lists1 h) rfl (by omega) (fun x hx => by simp at hx; subst hx; rw [h.at_.len]; exact h.max)).mono fun e w' ⟨h1, h2⟩ => by
    refine ⟨by rw [h1]; simp [flat], ((Below.refl _ _).alloc (Nat.le_refl _) (.cells #[.slice a n c] 22)).trans (h2.mono (by simp))⟩
theorem sum2 {w : World} {a b : Option Addr} {n c m d : Nat} {l k : List UInt8} (h : Sl w a n c l) (h' : Sl w b m d k) :
    Calls Try.prog 10 #[.slice (some ⟨w.heap.size, 0, none⟩) 2 2] (w.alloc (.cells #[.slice a n c, .slice b m d] 22)) fun e w' => e = .returned (.int .u32 (sumB (l ++ k) : Nat)) ∧ Below w.heap.size w w' :=
  (sum_any 2 2 _ _ _ (lists2 h h') rfl (by omega) (fun x hx => by
      simp at hx
      rcases hx with hx | hx
      · subst hx; rw [h.at_.len]; exact h.max
      · subst hx; rw [h'.at_.len]; exact h'.max)).mono fun e w' ⟨h1, h2⟩ => by
    refine ⟨by rw [h1]; simp [flat], ((Below.refl _ _).alloc (Nat.le_refl _) (.cells #[.slice a n c, .slice b m d] 22)).trans (h2.mono (by simp))⟩
theorem ref2 {w : World} {a b : Option Addr} {n c m d : Nat} {l k : List UInt8} (h : Sl w a n c l) (h' : Sl w b m d k) :
    Calls Try.prog 11 #[.slice (some ⟨w.heap.size, 0, none⟩) 2 2] (w.alloc (.cells #[.slice a n c, .slice b m d] 22)) fun e w' => e = .returned (.int .u32 (sumB (l ++ k) : Nat)) ∧ Below w.heap.size w w' :=
  (refSum_any 2 2 _ _ _ (lists2 h h') rfl (by omega) (fun x hx => by
      simp at hx
      rcases hx with hx | hx
      · subst hx; rw [h.at_.len]; exact h.max
      · subst hx; rw [h'.at_.len]; exact h'.max)).mono fun e w' ⟨h1, h2⟩ => by
    refine ⟨by rw [h1]; simp [flat], ((Below.refl _ _).alloc (Nat.le_refl _) (.cells #[.slice a n c, .slice b m d] 22)).trans (h2.mono (by simp))⟩
theorem sum0 (w : World) : Calls Try.prog 10 #[.slice none 0 0] w fun e w' => e = .returned (.int .u32 1) ∧ Below w.heap.size w w' :=
  (sum_any 0 0 none [] w (.inl rfl) rfl (by omega) (fun x hx => by simp at hx)).mono fun e w' h => h

/-- Sum of one list, wherever its row lies -/
theorem sumAt1 {w : World} {a : Option Addr} {n c : Nat} {l : List UInt8} (h : Sl w a n c l) (W : World) (b : Nat) (hb : Below w.heap.size w W) (h0 : W.cell? ⟨b, 0, none⟩ = some (.slice a n c)) :
    Calls Try.prog 10 #[.slice (some ⟨b, 0, none⟩) 1 1] W fun e w' => e = .returned (.int .u32 (sumB l : Nat)) ∧ Below W.heap.size W w' :=
  (sum_any 1 1 (some ⟨b, 0, none⟩) [⟨a, c, l⟩] W (.inr ⟨b, 0, rfl, fun i hi => by
      match i, hi with
      | 0, _ => exact ⟨by rw [Nat.zero_add]; show _ = some (Value.slice a l.length c); rw [h.at_.len]; exact h0, (h.keep hb).at_.mem⟩⟩) rfl (by omega) (fun x hx => by simp at hx; subst hx; rw [h.at_.len]; exact h.max)).mono fun e w' ⟨h1, h2⟩ => by
    refine ⟨by rw [h1]; simp [flat], h2⟩

def wiki : List UInt8 := [87, 105, 107, 105, 112, 101, 100, 105, 97]
theorem wiki_sum : sumB wiki = 300286872 := by decide +kernel

set_option maxHeartbeats 4000000 in
theorem known_any (w : World) : Calls Try.prog 9 #[] w fun e w' => e = .returned (.bool true) ∧ Below w.heap.size w w' := by
  have kc := fun (w : World) (C : Array Value) (n c : Nat) => Lib.run_convert_bytes_const (P := Try.prog) w 22 5 C n c Try.underlying22 Try.underlying5
  have hb0 : Below w.heap.size w (w.alloc (.cells #[.int .u8 87, .int .u8 105, .int .u8 107, .int .u8 105, .int .u8 112, .int .u8 101, .int .u8 100, .int .u8 105, .int .u8 97] 5 (9, 10))) := (Below.refl _ _).alloc (Nat.le_refl _) _
  have hs : Sl (w.alloc (.cells #[.int .u8 87, .int .u8 105, .int .u8 107, .int .u8 105, .int .u8 112, .int .u8 101, .int .u8 100, .int .u8 105, .int .u8 97] 5 (9, 10))) (some ⟨w.heap.size, 0, none⟩) 9 9 wiki := by
    refine ⟨⟨.inr ⟨w.heap.size, 0, rfl, fun i hi => ?_⟩, fun _ p hp => by injection hp with hp; subst hp; simp, rfl, by omega⟩, by omega⟩
    rw [Nat.zero_add]
    refine cell_marked _ _ _ _ ?_
    match i, hi with
    | 0, _ => rfl
    | 1, _ => rfl
    | 2, _ => rfl
    | 3, _ => rfl
    | 4, _ => rfl
    | 5, _ => rfl
    | 6, _ => rfl
    | 7, _ => rfl
    | 8, _ => rfl
  have hC := sum1 hs
  rw [wiki_sum, World.size_alloc] at hC
  have HB : Aside (Below w.heap.size w (w.alloc (.cells #[.int .u8 87, .int .u8 105, .int .u8 107, .int .u8 105, .int .u8 112, .int .u8 101, .int .u8 100, .int .u8 105, .int .u8 97] 5 (9, 10)))) := hb0
  clear hb0 hs
  go_enter Try.func9, Try.ntmps9
  go_wp2_with fail
  refine hC.mono ?_
  rintro e w1 ⟨rfl, g1⟩
  have hC2 := sum0 w1
  have G1 : Aside (Below w.heap.size w w1) := HB.out.trans (g1.mono (by simp))
  clear hC g1
  go_wp2_with (go_at_call 10; refine hC2.mono ?_; rintro e w2 ⟨rfl, g2⟩)
  go_ret
  exact ⟨ret_bool (by simp), G1.out.trans (g2.mono G1.out.size)⟩
end Go.Proofs.Ytjfiojojacgccaa.sum
