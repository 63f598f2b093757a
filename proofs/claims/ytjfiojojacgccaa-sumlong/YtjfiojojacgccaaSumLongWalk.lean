/-
  SumLong: bytes 0 behind tell others apart.
-/
import Derived.Test.YtjfiojojacgccaaSumKnown
namespace Go.Proofs.Ytjfiojojacgccaa.sum
open Go.ChangeShapes Go.WideShapes Go.ChangeAt Go.RowKit Go.Deep
open Go.Proofs.Ytjfiojojacgccaa.bytes
set_option linter.unusedVariables false
set_option maxRecDepth 100000
set_option linter.unusedSimpArgs false

set_option maxHeartbeats 8000000 in
theorem long_walk (a : Option Addr) (n c : Nat) (l : List UInt8) (p q : Nat) (w : World) (h1 : Sl w a n c l) (hp : p < 256) (hq : q < 256) :
    Calls Try.prog 3 #[.slice a n c, .int .u8 p, .int .u8 q] w fun e w' => e = .returned (.bool true) ∧ Below w.heap.size w w' := by
  have hK := known_any w
  by_cases hbig : 1500 < n
  · have hz : (1500 : Int) < (n : Int) := by omega
    clear h1
    go_enter Try.func3, Try.ntmps3
    go_wp2_with (go_at_call 9; refine hK.mono ?_; rintro e w1 ⟨rfl, g1⟩)
    go_ret
    exact ⟨rfl, g1⟩
  have hz : ¬ (1500 : Int) < (n : Int) := by omega
  have H : Aside (Sl w a n c l) := h1
  clear h1
  obtain ⟨u, hu⟩ : ∃ u, p % 200 = u := ⟨_, rfl⟩
  obtain ⟨v, hv⟩ : ∃ v, q % 200 = v := ⟨_, rfl⟩
  have e1 : ((p : Int) % 200) = (u : Int) := by omega
  have e2 : ((q : Int) % 200) = (v : Int) := by omega
  have hu2 : u < 200 := by omega
  have hv2 : v < 200 := by omega
  go_enter Try.func3, Try.ntmps3
  go_wp2_with (go_at_call 9; refine hK.mono ?_; rintro e w1 ⟨rfl, g1⟩; refine Hid.out ?_)
  refine hid ?_
  have hm1 := run_make_row' (P := Try.prog) 22 5 (.int .u8 0) 1 Try.underlying22 info_u8 rfl .i64 .i64 u (by omega) (by omega)
  have hm2 := run_make_row' (P := Try.prog) 22 5 (.int .u8 0) 1 Try.underlying22 info_u8 rfl .i64 .i64 v (by omega) (by omega)
  have HU : Aside (u < 200 ∧ v < 200) := ⟨hu2, hv2⟩
  have HN : Aside (Sl (w1.alloc (.cells (madeCells #[.int .u8 0] u) 5)) (some ⟨w1.heap.size, 0, none⟩) u u (noughts u) ∧ Sl ((w1.alloc (.cells (madeCells #[.int .u8 0] u) 5)).alloc (.cells (madeCells #[.int .u8 0] v) 5)) (some ⟨w1.heap.size + 1, 0, none⟩) v v (noughts v)) :=
    ⟨sl_made w1 u (by omega), by have := sl_made (w1.alloc (.cells (madeCells #[.int .u8 0] u) 5)) v (by omega); rwa [World.size_alloc] at this⟩
  have hb1 : Below w1.heap.size w1 (w1.alloc (.cells (madeCells #[.int .u8 0] u) 5)) := (Below.refl _ _).alloc (Nat.le_refl _) _
  have hb2 : Below (w1.alloc (.cells (madeCells #[.int .u8 0] u) 5)).heap.size (w1.alloc (.cells (madeCells #[.int .u8 0] u) 5)) ((w1.alloc (.cells (madeCells #[.int .u8 0] u) 5)).alloc (.cells (madeCells #[.int .u8 0] v) 5)) := (Below.refl _ _).alloc (Nat.le_refl _) _
  have H1 : Aside (Below w.heap.size w ((w1.alloc (.cells (madeCells #[.int .u8 0] u) 5)).alloc (.cells (madeCells #[.int .u8 0] v) 5)) ∧ Sl ((w1.alloc (.cells (madeCells #[.int .u8 0] u) 5)).alloc (.cells (madeCells #[.int .u8 0] v) 5)) a n c l ∧ Sl ((w1.alloc (.cells (madeCells #[.int .u8 0] u) 5)).alloc (.cells (madeCells #[.int .u8 0] v) 5)) (some ⟨w1.heap.size, 0, none⟩) u u (noughts u) ∧ Sl ((w1.alloc (.cells (madeCells #[.int .u8 0] u) 5)).alloc (.cells (madeCells #[.int .u8 0] v) 5)) (some ⟨w1.heap.size + 1, 0, none⟩) v v (noughts v)) :=
    ⟨(g1.trans (hb1.mono g1.size)).trans (hb2.mono (Nat.le_trans g1.size hb1.size)), ((H.out.keep g1).keep hb1).keep hb2, HN.out.1.keep hb2, HN.out.2⟩
  clear HN hb1 hb2 g1 H hK hu hv hu2 hv2
  go_upto_region 5 with fail
  obtain ⟨Y, hY⟩ : ∃ Y, w1.heap.size + 1 = Y := ⟨_, rfl⟩
  rw [hY] at H1 ⊢
  obtain ⟨X, hX⟩ : ∃ X, w1.heap.size = X := ⟨_, rfl⟩
  rw [hX] at H1 ⊢
  generalize (w1.alloc (.cells (madeCells #[.int .u8 0] u) 5)).alloc (.cells (madeCells #[.int .u8 0] v) 5) = w2 at H1 ⊢
  clear hX hY hm1 hm2
  have hC := sum1 H1.out.2.1
  obtain ⟨s, hs⟩ : ∃ s, sumB l = s := ⟨_, rfl⟩
  obtain ⟨r, hr⟩ : ∃ r, s % 65536 = r := ⟨_, rfl⟩
  have hr2 : ((s : Int) % 65536) = (r : Int) := by omega
  rw [hs] at hC
  have HS : Aside (sumB l = s ∧ s % 65536 = r) := ⟨hs, hr⟩
  clear hs hr
  by_cases h0 : r = 0
  · have d0 : ((r : Int) == 0) = true := by simpa using h0
    clear h0
    go_wp2_with (go_at_call 10; refine hC.mono ?_; rintro e w3 ⟨rfl, g3⟩)
    go_ret
    exact ⟨rfl, H1.out.1.trans (g3.mono H1.out.1.size)⟩
  have d0 : ((r : Int) == 0) = false := by simpa using h0
  have HR : Aside (r ≠ 0) := h0
  clear h0
  go_wp2_with (go_at_call 10; refine hC.mono ?_; rintro e w3 ⟨rfl, g3⟩; refine Hid.out ?_)
  refine hid ?_
  have H3 : Aside (Below w.heap.size w w3 ∧ Sl w3 a n c l ∧ Sl w3 (some ⟨X, 0, none⟩) u u (noughts u) ∧ Sl w3 (some ⟨Y, 0, none⟩) v v (noughts v)) := ⟨H1.out.1.trans (g3.mono H1.out.1.size), H1.out.2.1.keep g3, H1.out.2.2.1.keep g3, H1.out.2.2.2.keep g3⟩
  clear hC g3 H1
  have hC := sum2 H3.out.2.1 H3.out.2.2.1
  obtain ⟨x, hx⟩ : ∃ x, sumB (l ++ noughts u) = x := ⟨_, rfl⟩
  rw [hx] at hC
  go_wp2_with (go_at_call 10; refine hC.mono ?_; rintro e w4 ⟨rfl, g4⟩; refine Hid.out ?_)
  refine hid ?_
  have H4 : Aside (Below w.heap.size w w4 ∧ Sl w4 a n c l ∧ Sl w4 (some ⟨Y, 0, none⟩) v v (noughts v)) := ⟨H3.out.1.trans (g4.mono H3.out.1.size), H3.out.2.1.keep g4, H3.out.2.2.2.keep g4⟩
  clear hC g4 H3
  have hC := sum2 H4.out.2.1 H4.out.2.2
  obtain ⟨y, hy⟩ : ∃ y, sumB (l ++ noughts v) = y := ⟨_, rfl⟩
  rw [hy] at hC
  have HE : Aside ((x = y) ↔ (u = v)) := by
    show _ ↔ _
    rw [← hx, ← hy]
    exact sum_long HU.out.1 HU.out.2 (by rw [HS.out.1, HS.out.2]; exact HR.out)
  clear hx hy
  go_wp2_with (go_at_call 10; refine hC.mono ?_; rintro e w5 ⟨rfl, g5⟩)
  go_ret
  refine ⟨ret_bool ?_, H4.out.1.trans (g5.mono H4.out.1.size)⟩
  have := HE.out
  by_cases e : u = v
  · have e' := this.2 e
    subst e e'
    simp
  · have e' : ¬ x = y := fun h => e (this.1 h)
    have a1 : ((x : Int) == (y : Int)) = false := by rw [beq_eq_false_iff_ne]; intro h; exact e' (by omega)
    have a2 : ((u : Int) == (v : Int)) = false := by rw [beq_eq_false_iff_ne]; intro h; exact e (by omega)
    simp [a1, a2]
end Go.Proofs.Ytjfiojojacgccaa.sum
