/-
  The chapter's example holds.
-/
import Derived.Test.YtfhihkogdnbghaaSpanSplit
import Derived.Test.YtfhihkogdnbghaaSpanParts
import Derived.Test.YtfhihkogdnbghaaSpanEq
namespace Go.Proofs.Ytfhihkogdnbghaa.spans
open Go.ChangeShapes Go.WideShapes Go.ChangeAt Go.RowKit Go.Deep
open Go.Proofs.Ytfhihkogdnbghaa.bytes (ret_bool hid nth addr_add cell_lt own_below own_mono)
set_option linter.unusedVariables false
set_option maxRecDepth 100000
set_option linter.unusedSimpArgs false

theorem asd {p : Prop} (h : p) : Aside p := h
def l3 : List Sp := [(0, 0), (30, 1), (60, 0)]
theorem split_l3 : splitE 1 [(0, 0)] 100 2 30 60 1 = (2, l3, 0) := by decide +kernel
theorem nodes_l3 : nodesOf l3 0 100 = [0, 1] := by decide +kernel
theorem fact_one {w : World} {fb kb : Nat} (h0 : w.cell? ⟨fb, 0, none⟩ = some (.slice (some ⟨kb, 0, none⟩) 1 1)) (h1 : w.cell? ⟨fb, 1, none⟩ = some (.int .i64 0)) (hk : w.cell? ⟨kb, 0, none⟩ = some (.int .i64 31)) : FactsIn w (some ⟨fb, 0, none⟩) [⟨some ⟨kb, 0, none⟩, 1, [31], 0⟩] :=
  .inr ⟨fb, 0, rfl, fun i hi => by
    obtain rfl : i = 0 := by simpa using hi
    exact ⟨h0, h1, ints_one hk, by show 1 * 8 ≤ _; omega, Nat.le_refl _⟩⟩

set_option maxRecDepth 100000 in
set_option maxHeartbeats 1500000 in
theorem known_any (w : World) : Calls Try.prog 13 #[] w fun e w' => e = .returned (.bool true) ∧ Below w.heap.size w w' := by
  have hN := new_any w
  unfold MapOut at hN
  have HS : Aside (∀ a n c W, Sps W a n c [(0, 0)] → n ≤ maxLen → Calls Try.prog 14 #[mapV 1 a n c, .int .i64 100, .int .i64 2, .int .i64 30, .int .i64 60, .int .i64 1] W (SpOut .u16 (2, l3, 0) W)) := fun a n c W h hn => by
    have := split_any 1 a n c [(0, 0)] 100 2 30 60 1 W h (by unfold U32; omega) hn
    rwa [split_l3] at this
  go_enter Try.func13, Try.ntmps13
  go_wp2_with (first
    | (go_at_call 28; refine hN.mono ?_; rintro e w1 ⟨a1, n1, c1, rfl, hs1, hnew, hb1⟩)
    | (go_at_call 14; refine Calls.mono (HS.out a1 n1 c1 w1 hs1 (by rw [← hs1.len]; decide)) ?_; rintro e w2 ⟨a2, n2, c2, rfl, hs2, -, hb2⟩; unfold mapV; refine Hid.out ?_))
  refine hid ?_
  have hb0 := hb1.trans (hb2.mono hb1.size)
  obtain ⟨W3, hW3⟩ : ∃ W3, w2.alloc (.cells #[.int .u32 2, .slice a2 n2 c2] 29) = W3 := ⟨_, rfl⟩
  have ka : Below w2.heap.size w2 W3 := by rw [← hW3]; exact (Below.refl _ w2).alloc (Nat.le_refl _) _
  have hX : Bx W3 w2.heap.size (mapC 2 a2 n2 c2) 29 := by rw [← hW3]; exact Bx.new _ _ _
  have hn3 : n2 = 3 := hs2.len.symm
  subst hn3
  have hs3 := hs2.keep ka
  have HB : Aside (Below w.heap.size w W3) := hb0.trans (ka.mono hb0.size)
  obtain ⟨b, off, ha, hc⟩ := hs3.mem.get (k := 0) (by decide)
  subst ha
  obtain ⟨p0, p1, -, -⟩ := hc 1 (by decide)
  obtain ⟨p2, p3, -, -⟩ := hc 2 (by decide)
  have HP : Aside (∀ W, Below W3.heap.size W3 W → W.cell? ⟨w2.heap.size, 0, none⟩ = some (.int .u32 2) ∧ W.cell? ⟨w2.heap.size, 1, none⟩ = some (.slice (some ⟨b, off, none⟩) 3 c2) ∧ W.cell? ⟨b, off + 2, none⟩ = some (.int .i64 30) ∧ W.cell? ⟨b, off + 4 + 1, none⟩ = some (.int .i64 0)) := fun W hb => ⟨(hX.below hb).cell (j := 0) rfl, (hX.below hb).cell (j := 1) rfl, (hb.cell (p := ⟨b, off + 2, none⟩) (cell_lt p0)).trans p0, (hb.cell (p := ⟨b, off + 4 + 1, none⟩) (cell_lt p3)).trans p3⟩
  have CN : Calls Try.prog 12 #[.agg #[.int .u32 2, .slice (some ⟨b, off, none⟩) 3 c2], .int .i64 0, .int .i64 100] W3 fun e w' => ∃ a4 c4, e = .returned (.slice a4 2 c4) ∧ Below W3.heap.size W3 w' :=
    (nodesS_any 2 _ 3 c2 l3 0 100 W3 hs3 (by decide)).mono fun e w' ⟨a4, q4, c4, g1, g2, g3⟩ => by
      have e2 : q4 = 2 := by rw [g2.out.1, nodes_l3]; rfl
      subst e2
      exact ⟨a4, c4, g1, g2.out.2.2⟩
  have C59 : ∀ W, Below W3.heap.size W3 W → Calls Try.prog 19 #[.agg #[.int .u32 2, .slice (some ⟨b, off, none⟩) 3 c2], .int .i64 59] W fun e w' => e = .returned (.int .i64 1) ∧ Below W3.heap.size W3 w' := fun W hb => (find_any 2 _ 3 c2 l3 59 W (hs3.keep hb)).mono fun e w' ⟨g1, g2⟩ => ⟨by rw [g1]; rfl, hb.trans (g2.mono hb.size)⟩
  have C60 : ∀ W, Below W3.heap.size W3 W → Calls Try.prog 19 #[.agg #[.int .u32 2, .slice (some ⟨b, off, none⟩) 3 c2], .int .i64 60] W fun e w' => e = .returned (.int .i64 0) ∧ Below W3.heap.size W3 w' := fun W hb => (find_any 2 _ 3 c2 l3 60 W (hs3.keep hb)).mono fun e w' ⟨g1, g2⟩ => ⟨by rw [g1]; rfl, hb.trans (g2.mono hb.size)⟩
  have CSo : ∀ W, Below W3.heap.size W3 W → Calls Try.prog 17 #[.agg #[.int .u32 2, .slice (some ⟨b, off, none⟩) 3 c2], .int .i64 100, .int .i64 2] W fun e w' => e = .returned (.bool true) ∧ Below W3.heap.size W3 w' := fun W hb => (sound_any 2 _ 3 c2 l3 100 2 W (hs3.keep hb)).mono fun e w' ⟨g1, g2⟩ => ⟨by rw [g1, show sndB 100 2 l3 = true by decide +kernel], hb.trans (g2.mono hb.size)⟩
  have CSa : ∀ W, Below W3.heap.size W3 W → Calls Try.prog 15 #[.agg #[.int .u32 2, .slice (some ⟨b, off, none⟩) 3 c2], .agg #[.int .u32 2, .slice (some ⟨b, off, none⟩) 3 c2]] W fun e w' => e = .returned (.bool true) ∧ Below W3.heap.size W3 w' := fun W hb => (same_any W 2 2 _ _ l3 l3 3 3 c2 c2 (hs3.keep hb) (hs3.keep hb)).mono fun e w' ⟨g1, g2⟩ => ⟨by rw [g1]; rfl, hb.trans (g2.mono hb.size)⟩
  have CP : ∀ W kb fb, Below W3.heap.size W3 W → W.cell? ⟨fb, 0, none⟩ = some (.slice (some ⟨kb, 0, none⟩) 1 1) → W.cell? ⟨fb, 1, none⟩ = some (.int .i64 0) → W.cell? ⟨kb, 0, none⟩ = some (.int .i64 31) →
      Calls Try.prog 23 #[.agg #[.int .u32 2, .slice (some ⟨b, off, none⟩) 3 c2], .slice (some ⟨fb, 0, none⟩) 1 1, .int .i64 1] W fun e w' => ∃ a4 c4, e = .returned (.slice a4 1 c4) ∧ Below W3.heap.size W3 w' := fun W kb fb hb k0 k1 k2 =>
    (parts_any 2 _ 3 c2 l3 _ 1 1 [⟨some ⟨kb, 0, none⟩, 1, [31], 0⟩] 1 W (hs3.keep hb) (fact_one k0 k1 k2) rfl (by omega)).mono fun e w' ⟨a4, q4, c4, gs, g1, g2, g3, g4, g5, g6⟩ => by
      have e2 : q4 = 1 := by
        rw [g2, ← List.length_map (f := pf), g3, List.length_map]; rfl
      subst e2
      exact ⟨a4, c4, g1, hb.trans (g6.mono hb.size)⟩
  have hbR := Below.refl W3.heap.size W3
  obtain ⟨m0, m1, m2, m3⟩ := HP.out W3 hbR
  have HW3 : Hid (w2.alloc (.cells #[.int .u32 2, .slice (some ⟨b, off, none⟩) 3 c2] 29) = W3) := hW3
  generalize hob : w2.heap.size = ob at HP m0 m1
  have HOb : Hid (w2.heap.size = ob) := hob
  clear hs2 hb2 hb1 hb0 hs1 hnew hN HS ka hX hW3 hs3 hc p0 p1 p2 p3
  go_upto_region 2 with fail
  rw [HW3.out]
  try simp only [HOb.out]
  clear HW3 HOb hob
  go_upto_region 3 with (first
    | (go_at_call 12; refine CN.mono ?_; rintro e w4 ⟨a4, c4, rfl, hb4⟩; obtain ⟨m0, m1, m2, m3⟩ := HP.out w4 hb4))
  clear CN
  go_wp2_with (first
    | (go_at_call 19; with_reducible refine (C59 _ (by assumption)).mono ?_; rintro e w5 ⟨rfl, hb5⟩; obtain ⟨m0, m1, m2, m3⟩ := HP.out w5 hb5)
    | (go_at_call 19; with_reducible refine (C60 _ (by assumption)).mono ?_; rintro e w6 ⟨rfl, hb6⟩; obtain ⟨m0, m1, m2, m3⟩ := HP.out w6 hb6)
    | (go_at_call 17; with_reducible refine (CSo _ (by assumption)).mono ?_; rintro e w7 ⟨rfl, hb7⟩; obtain ⟨m0, m1, m2, m3⟩ := HP.out w7 hb7)
    | (go_at_call 15; with_reducible refine (CSa _ (by assumption)).mono ?_; rintro e w8 ⟨rfl, hb8⟩; obtain ⟨m0, m1, m2, m3⟩ := HP.out w8 hb8)
    | (go_at_call 23; refine (CP _ w8.heap.size (w8.heap.size + 1) ((hb8.alloc hb8.size _).alloc (by have := hb8.size; simp; omega) _) (by simp [go_sem]) (by simp [go_sem]) (by simp [go_sem])).mono ?_; rintro e w9 ⟨a9, c9, rfl, hb9⟩))
  go_ret
  exact ⟨rfl, HB.out.trans (hb9.mono HB.out.size)⟩
end Go.Proofs.Ytfhihkogdnbghaa.spans
