/-
 The contract of frame.same: the bytes, in new memory.
-/
import Derived.Test.YtlcjllgfpfldlaaGreatByteGrow
set_option maxHeartbeats 2000000
open Go.ChangeShapes Go.WideShapes Go.ChangeAt Go.RowKit Go.Deep
set_option linter.unusedVariables false
set_option maxRecDepth 100000
namespace Go.Proofs.YtlcjllgfpfldlaaGreat
namespace frame
open bytes
theorem madeRow (n : Nat) : (madeCells #[.int .u8 0] n) = (List.replicate n (Value.int .u8 0)).toArray := by
 apply Array.ext'
 rw [toList_madeCells_one]
theorem same_any (n c : Nat) (a : Option Addr) (l : List UInt8) (w : World) (h : Sl w a n c l) (hn : n ≤ 140737488355328) :
  Calls Tryz.prog 70 #[.slice a n c] w fun e w' => ∃ g, e = .returned (.slice (some ⟨g, 0, none⟩) n n) ∧ Bs w.heap.size w' (.slice (some ⟨g, 0, none⟩) n n) l ∧ Below w.heap.size w w' := by
 obtain ⟨i0, hi, hz0, hz1, hz2⟩ := info_parts info_u8
 have hmk := run_make_row' (P := Tryz.prog) 54 5 (.int .u8 0) 1 Tryz.underlying54 info_u8 rfl .i64 .i64 n (by omega) (by omega)
 have hl := h.at_.len
 have hB : bytes.Boxed (w.alloc (.cells (madeCells #[.int .u8 0] n) 5)) w.heap.size (List.replicate n (Value.int .u8 0)).toArray 5 := by rw [madeRow]; exact bytes.Boxed.new _ _ _
 have hN : 0 < (Lib.byteCells l).length → ∃ ad, a = some ad ∧ ∀ j v, (Lib.byteCells l)[j]? = some v → (w.alloc (.cells (madeCells #[.int .u8 0] n) 5)).cell? (ad.add j) = some v := by
  intro h0
  rw [byteCells_len] at h0
  obtain ⟨b, off, ha, hc⟩ := (h.keep ((Below.refl _ _).alloc (Nat.le_refl _) (.cells (madeCells #[.int .u8 0] n) 5))).news (by omega)
  exact ⟨_, ha, hc⟩
 have hbl : Below w.heap.size w (w.alloc (.cells (madeCells #[.int .u8 0] n) 5)) := (Below.refl _ _).alloc (Nat.le_refl _) _
 have hcl : (Lib.byteCells l).length = Nat.min n n := by rw [byteCells_len, hl]; exact (Nat.min_self _).symm
 have hfit : 0 + (Lib.byteCells l).length ≤ (List.replicate n (Value.int .u8 0)).length := by rw [byteCells_len, hl, List.length_replicate]; omega
 have H : Aside (l.length = n) := hl
 have hone := byteCells_one l
 have HA : Aside (_ ∧ _ ∧ _ ∧ _ ∧ _ ∧ _) := ⟨hB, hN, hbl, hcl, hfit, hone⟩
 clear h hl hB hN hbl hcl hfit hone
 go_enter Tryz.func70, Tryz.ntmps70
 go_upto_region 2 with fail
 go_wp2_with (refine wpList_copy_splice rfl (.tmp 7) (.tmp 8) 54 54 rfl 5 Tryz.underlying54 rfl _ _ _ _ _ _ rfl rfl w.heap.size 0 (List.replicate n (Value.int .u8 0)) 5 HA.out.1 (Lib.byteCells l) HA.out.2.2.2.1 (fun h0 => ⟨rfl, HA.out.2.1 h0⟩) HA.out.2.2.2.2.1 HA.out.2.2.2.2.2 w.heap.size w HA.out.2.2.1 (Nat.le_refl _) ?_; intro w2 hg2 hb2; refine Hid.out ?_)
 refine hid ?_
 go_wp2
 go_ret
 refine ⟨w.heap.size, rfl, ?_, hb2⟩
 have hg := hg2.out
 unfold Bs
 rw [H.out]
 refine ⟨by rw [byteCells_len, H.out, Nat.mul_one], .inr ⟨w.heap.size, n, _, rfl, Nat.le_refl _, hg, Nat.le_refl _, by unfold maxLen; omega, ?_, ?_⟩⟩
 ·simp [splice, byteCells_len, H.out]
 ·simp [splice, byteCells_len, H.out]
  exact List.take_of_length_le (by rw [byteCells_len, H.out]; exact Nat.le_refl _)
end frame
end Go.Proofs.YtlcjllgfpfldlaaGreat
