/-
  SumStays: the bytes stay; summed again they have the same sum.
-/
import Derived.Test.YtjfiojojacgccaaSumKnown
namespace Go.Proofs.Ytjfiojojacgccaa.sum
open Go.ChangeShapes Go.WideShapes Go.ChangeAt Go.RowKit Go.Deep
open Go.Proofs.Ytjfiojojacgccaa.bytes
set_option linter.unusedVariables false
set_option maxRecDepth 100000
set_option linter.unusedSimpArgs false

set_option maxHeartbeats 8000000 in
theorem stays_walk (a : Option Addr) (n c : Nat) (l : List UInt8) (w : World) (h1 : Sl w a n c l) :
    Calls Try.prog 4 #[.slice a n c] w fun e w' => e = .returned (.bool true) ∧ Below w.heap.size w w' := by
  have hK := known_any w
  by_cases hbig : 1500 < n
  · have hz : (1500 : Int) < (n : Int) := by omega
    clear h1
    go_enter Try.func4, Try.ntmps4
    go_wp2_with (go_at_call 9; refine hK.mono ?_; rintro e w1 ⟨rfl, g1⟩)
    go_ret
    exact ⟨rfl, g1⟩
  have hz : ¬ (1500 : Int) < (n : Int) := by omega
  have H : Aside (Sl w a n c l) := h1
  clear h1
  go_enter Try.func4, Try.ntmps4
  go_wp2_with (go_at_call 9; refine hK.mono ?_; rintro e w1 ⟨rfl, g1⟩; refine Hid.out ?_)
  refine hid ?_
  have H1 : Aside (Below w.heap.size w w1 ∧ Sl w1 a n c l) := ⟨g1, H.out.keep g1⟩
  have hs1 := str_of H1.out.2.at_.mem n c H1.out.2.at_.len
  have hC := sum1 H1.out.2
  clear hK g1 H
  go_wp2_with (go_at_call 10; refine hC.mono ?_; rintro e w2 ⟨rfl, g2⟩; refine Hid.out ?_)
  refine hid ?_
  have H2 : Aside (Below w.heap.size w w2 ∧ Sl w2 a n c l) := ⟨H1.out.1.trans (g2.mono H1.out.1.size), H1.out.2.keep g2⟩
  have hs2 := str_of H2.out.2.at_.mem n c H2.out.2.at_.len
  have hC := sum1 H2.out.2
  clear g2 H1 hs1
  obtain ⟨x, hx⟩ : ∃ x, sumB l = x := ⟨_, rfl⟩
  rw [hx] at hC ⊢
  have HX : Aside (sumB l = x) := hx
  clear hx
  go_wp2_with (go_at_call 10; refine hC.mono ?_; rintro e w3 ⟨rfl, g3⟩; refine Hid.out ?_)
  refine hid ?_
  have H3 : Aside (Below w.heap.size w w3 ∧ Sl w3 a n c l) := ⟨H2.out.1.trans (g3.mono H2.out.1.size), H2.out.2.keep g3⟩
  clear hC g3 H2 hs2
  have HT : Aside (∃ W4 cap h, (convert 9 22 (.string ⟨l.toArray⟩)).run Try.prog w3 = .ok (.slice (some ⟨h, 0, none⟩) l.length cap) W4 ∧ Below w3.heap.size w3 W4 ∧ Sl W4 (some ⟨h, 0, none⟩) l.length cap l) :=
    ⟨_, _, _, run_bytes_of_string (P := Try.prog) w3 9 22 5 ⟨l.toArray⟩ Try.underlying9 Try.underlying22 Try.underlying5, (Below.refl _ _).drew.alloc (Nat.le_refl _) _, sl_of_text w3 l _ _ (grownCap_ge _ _ _ _) (by rw [H3.out.2.at_.len]; exact H3.out.2.max)⟩
  obtain ⟨W4, cap, h, kc, hb4, hS4⟩ := HT.out
  have H4 : Aside (Below w.heap.size w W4) := H3.out.1.trans (hb4.mono H3.out.1.size)
  have hC := sum1 hS4
  rw [HX.out] at hC
  clear HT hb4 hS4 H3
  obtain ⟨q, hq⟩ : ∃ q, l.length = q := ⟨_, rfl⟩
  rw [hq] at kc hC
  clear hq
  go_wp2_with (go_at_call 10; refine hC.mono ?_; rintro e w5 ⟨rfl, g5⟩)
  go_ret
  exact ⟨ret_bool (by simp), H4.out.trans (g5.mono H4.out.size)⟩
end Go.Proofs.Ytjfiojojacgccaa.sum
