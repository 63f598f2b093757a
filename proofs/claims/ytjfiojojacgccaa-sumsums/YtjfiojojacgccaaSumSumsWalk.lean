/-
  SumSums: Sum of any bytes is what the chapter says.
-/
import Derived.Test.YtjfiojojacgccaaSumKnown
namespace Go.Proofs.Ytjfiojojacgccaa.sum
open Go.ChangeShapes Go.WideShapes Go.ChangeAt Go.RowKit Go.Deep
open Go.Proofs.Ytjfiojojacgccaa.bytes
set_option linter.unusedVariables false
set_option maxRecDepth 100000
set_option linter.unusedSimpArgs false

set_option maxHeartbeats 8000000 in
theorem sums_walk (a b : Option Addr) (n c m d : Nat) (l k : List UInt8) (w : World) (h1 : Sl w a n c l) (h2 : Sl w b m d k) :
    Calls Try.prog 5 #[.slice a n c, .slice b m d] w fun e w' => e = .returned (.bool true) ∧ Below w.heap.size w w' := by
  have hK := known_any w
  by_cases hbig : 1500 < n
  · have hz : (1500 : Int) < (n : Int) := by omega
    clear h1 h2
    go_enter Try.func5, Try.ntmps5
    go_wp2_with (go_at_call 9; refine hK.mono ?_; rintro e w1 ⟨rfl, g1⟩)
    go_ret
    exact ⟨rfl, g1⟩
  have hz : ¬ (1500 : Int) < (n : Int) := by omega
  by_cases hbig2 : 1500 < m
  · have hz2 : (1500 : Int) < (m : Int) := by omega
    clear h1 h2
    go_enter Try.func5, Try.ntmps5
    go_wp2_with (go_at_call 9; refine hK.mono ?_; rintro e w1 ⟨rfl, g1⟩)
    go_ret
    exact ⟨rfl, g1⟩
  have hz2 : ¬ (1500 : Int) < (m : Int) := by omega
  have H : Aside (Sl w a n c l ∧ Sl w b m d k) := ⟨h1, h2⟩
  clear h1 h2
  go_enter Try.func5, Try.ntmps5
  go_wp2_with (go_at_call 9; refine hK.mono ?_; rintro e w1 ⟨rfl, g1⟩; refine Hid.out ?_)
  refine hid ?_
  have H1 : Aside (Below w.heap.size w w1 ∧ Sl w1 a n c l ∧ Sl w1 b m d k) := ⟨g1, H.out.1.keep g1, H.out.2.keep g1⟩
  have hC := sum2 H1.out.2.1 H1.out.2.2
  clear hK g1 H
  go_wp2_with (go_at_call 10; refine hC.mono ?_; rintro e w2 ⟨rfl, g2⟩; refine Hid.out ?_)
  refine hid ?_
  have H2 : Aside (Below w.heap.size w w2 ∧ Sl w2 a n c l ∧ Sl w2 b m d k) := ⟨H1.out.1.trans (g2.mono H1.out.1.size), H1.out.2.1.keep g2, H1.out.2.2.keep g2⟩
  have hD := ref2 H2.out.2.1 H2.out.2.2
  clear hC g2 H1
  obtain ⟨x, hx⟩ : ∃ x, sumB (l ++ k) = x := ⟨_, rfl⟩
  rw [hx] at hD ⊢
  clear hx
  go_wp2_with (go_at_call 11; refine hD.mono ?_; rintro e w3 ⟨rfl, g3⟩; refine Hid.out ?_)
  refine hid ?_
  have H3 : Aside (Below w.heap.size w w3 ∧ Sl w3 a n c l ∧ Sl w3 b m d k) := ⟨H2.out.1.trans (g3.mono H2.out.1.size), H2.out.2.1.keep g3, H2.out.2.2.keep g3⟩
  have hC := sum1 H3.out.2.2
  clear hD g3 H2
  go_wp2_with (go_at_call 10; refine hC.mono ?_; rintro e w4 ⟨rfl, g4⟩; refine Hid.out ?_)
  refine hid ?_
  have H4 : Aside (Below w.heap.size w w4 ∧ Sl w4 a n c l ∧ Sl w4 b m d k) := ⟨H3.out.1.trans (g4.mono H3.out.1.size), H3.out.2.1.keep g4, H3.out.2.2.keep g4⟩
  have hD := ref1 H4.out.2.2
  clear hC g4 H3
  obtain ⟨y, hy⟩ : ∃ y, sumB k = y := ⟨_, rfl⟩
  rw [hy] at hD ⊢
  clear hy
  go_wp2_with (go_at_call 11; refine hD.mono ?_; rintro e w5 ⟨rfl, g5⟩)
  go_ret
  exact ⟨ret_bool (by simp), H4.out.1.trans (g5.mono H4.out.1.size)⟩
end Go.Proofs.Ytjfiojojacgccaa.sum
