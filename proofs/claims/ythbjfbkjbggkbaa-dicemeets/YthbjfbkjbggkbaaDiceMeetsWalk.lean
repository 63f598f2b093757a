/-
  The walk of DiceMeets: of whatever lists the call answers true.
-/
import Derived.Test.YthbjfbkjbggkbaaDiceOf
import Derived.Test.YthbjfbkjbggkbaaDiceRefMeet
namespace Go.Proofs.Ythbjfbkjbggkbaa.dice
open Go.ChangeShapes Go.WideShapes Go.ChangeAt Go.RowKit Go.Deep
open Go.Proofs.Ythbjfbkjbggkbaa.dims
set_option linter.unusedVariables false
set_option maxRecDepth 100000

theorem heavy4 (bb : Nat) (a1 a2 a3 a4 : Option Addr) (n1 n2 n3 n4 c1 c2 c3 c4 : Nat) (w : World) (h0 : w.cell? ⟨bb, 0, none⟩ = some (.slice a1 n1 c1)) (h1 : w.cell? ⟨bb, 1, none⟩ = some (.slice a2 n2 c2)) (h2 : w.cell? ⟨bb, 2, none⟩ = some (.slice a3 n3 c3)) (h3 : w.cell? ⟨bb, 3, none⟩ = some (.slice a4 n4 c4)) :
    Calls Try.prog 16 #[.slice (some ⟨bb, 0, none⟩) 4 4] w fun e w' => (e = .returned (.bool true) ∨ (e = .returned (.bool false) ∧ n1 ≤ 100 ∧ n2 ≤ 100 ∧ n3 ≤ 100 ∧ n4 ≤ 100)) ∧ w' = w := by
  refine (heavy_any bb 4 (fun i => if i = 0 then a1 else if i = 1 then a2 else if i = 2 then a3 else a4) (fun i => if i = 0 then n1 else if i = 1 then n2 else if i = 2 then n3 else n4) (fun i => if i = 0 then c1 else if i = 1 then c2 else if i = 2 then c3 else c4) w (by omega) ?_).mono ?_
  · intro i hi
    match i, hi with
    | 0, _ => simpa using h0
    | 1, _ => simpa using h1
    | 2, _ => simpa using h2
    | 3, _ => simpa using h3
  · rintro e w1 ⟨h | ⟨h, hL⟩, rfl⟩
    · exact ⟨.inl h, rfl⟩
    · exact ⟨.inr ⟨h, by simpa using hL 0 (by omega), by simpa using hL 1 (by omega), by simpa using hL 2 (by omega), by simpa using hL 3 (by omega)⟩, rfl⟩

theorem ints_out (a : Option Addr) (n c : Nat) (l : List Int) (w : World) (hC : Nums .u8 w a n c l) (hm : n ≤ 100000) :
    Calls Try.prog 20 #[.slice a n c] w fun e w' => ∃ v, e = .returned v ∧ ListOut w n l v w' := by
  refine (ints_any a n c l w hC hm).mono ?_
  rintro e w1 ⟨v, rfl, h⟩
  exact ⟨v, rfl, row_len (own_out h.1).1 hC.eln, h.2⟩

theorem refMeet_out (a1 a2 a3 a4 : Option Addr) (n1 n2 n3 n4 c1 c2 c3 c4 n : Nat) (r : Bool) (lo up fr un L H : List Int) (w : World) (h1 : Ints w a1 lo) (e1 : lo.length = n1) (h2 : Ints w a2 up) (e2 : up.length = n2) (h3 : Ints w a3 fr) (e3 : fr.length = n3) (h4 : Ints w a4 un) (e4 : un.length = n4) (hm : n1 ≤ 100000)
    (hr : mt lo up fr un = r) (hL : mtL lo up fr un = L) (hH : mtH lo up fr un = H) (l1 : L.length = n) (l2 : H.length = n) :
    Calls Try.prog 24 #[.slice a1 n1 c1, .slice a2 n2 c2, .slice a3 n3 c3, .slice a4 n4 c4] w fun e w' => ∃ t, e = .returned t ∧ MeetOut w n r L H t w' := by
  refine (refMeet_any a1 a2 a3 a4 n1 n2 n3 n4 c1 c2 c3 c4 lo up fr un w h1 e1 h2 e2 h3 e3 h4 e4 hm).mono ?_
  rintro e w1 ⟨t, rfl, h⟩
  exact ⟨t, rfl, h.out hr hL hH l1 l2⟩

/-- what Meet hands out, by letters -/
theorem mt_letters (lo up fr un : List Int) : ∃ (n : Nat) (r : Bool) (L H : List Int), mt lo up fr un = r ∧ mtL lo up fr un = L ∧ mtH lo up fr un = H ∧ L.length = n ∧ H.length = n ∧ n ≤ lo.length := by
  cases h : mt lo up fr un with
  | true =>
    have h2 : decide (up.length = lo.length ∧ fr.length = lo.length ∧ un.length = lo.length) = true := by
      unfold mt at h; rw [Bool.and_eq_true] at h; exact h.1
    exact ⟨lo.length, true, _, _, rfl, rfl, rfl, mtL_len h, by rw [mtH_len h]; exact (of_decide_eq_true h2).1, Nat.le_refl _⟩
  | false => exact ⟨0, false, [], [], rfl, mtL_no h, mtH_no h, rfl, rfl, Nat.zero_le _⟩

set_option maxHeartbeats 16000000 in
theorem meets_walk (a1 a2 a3 a4 a5 a6 a7 a8 : Option Addr) (n1 c1 n2 c2 n3 c3 n4 c4 n5 c5 n6 c6 n7 c7 n8 c8 : Nat) (l1 l2 l3 l4 l5 l6 l7 l8 : List Int) (w : World) (p1 : Nums .i64 w a1 n1 c1 l1) (p2 : Nums .i64 w a2 n2 c2 l2) (p3 : Nums .i64 w a3 n3 c3 l3) (p4 : Nums .i64 w a4 n4 c4 l4) (p5 : Nums .u8 w a5 n5 c5 l5) (p6 : Nums .u8 w a6 n6 c6 l6) (p7 : Nums .u8 w a7 n7 c7 l7) (p8 : Nums .u8 w a8 n8 c8 l8) :
    Calls Try.prog 6 #[.slice a1 n1 c1, .slice a2 n2 c2, .slice a3 n3 c3, .slice a4 n4 c4, .slice a5 n5 c5, .slice a6 n6 c6, .slice a7 n7 c7, .slice a8 n8 c8] w fun e w' => e = .returned (.bool true) ∧ Below w.heap.size w w' := by
  have E : Aside ((l1.length = n1 ∧ l2.length = n2 ∧ l3.length = n3 ∧ l4.length = n4) ∧ (l5.length = n5 ∧ l6.length = n6 ∧ l7.length = n7 ∧ l8.length = n8)) := ⟨⟨p1.eln, p2.eln, p3.eln, p4.eln⟩, p5.eln, p6.eln, p7.eln, p8.eln⟩
  have H1 : Aside (Ints w a1 l1) := p1.ints
  have H2 : Aside (Ints w a2 l2) := p2.ints
  have H3 : Aside (Ints w a3 l3) := p3.ints
  have H4 : Aside (Ints w a4 l4) := p4.ints
  have H5 : Aside (Nums .u8 w a5 n5 c5 l5) := p5
  have H6 : Aside (Nums .u8 w a6 n6 c6 l6) := p6
  have H7 : Aside (Nums .u8 w a7 n7 c7 l7) := p7
  have H8 : Aside (Nums .u8 w a8 n8 c8 l8) := p8
  clear p1 p2 p3 p4 p5 p6 p7 p8
  obtain ⟨nx, rx, X, Y, hx1, hx2, hx3, hx4, hx5, hx6⟩ := mt_letters l1 l2 l3 l4
  obtain ⟨ny, ry, P, Q, hy1, hy2, hy3, hy4, hy5, hy6⟩ := mt_letters l5 l6 l7 l8
  have MX : Aside (mt l1 l2 l3 l4 = rx ∧ mtL l1 l2 l3 l4 = X ∧ mtH l1 l2 l3 l4 = Y ∧ X.length = nx ∧ Y.length = nx ∧ nx ≤ l1.length) := ⟨hx1, hx2, hx3, hx4, hx5, hx6⟩
  have MY : Aside (mt l5 l6 l7 l8 = ry ∧ mtL l5 l6 l7 l8 = P ∧ mtH l5 l6 l7 l8 = Q ∧ P.length = ny ∧ Q.length = ny ∧ ny ≤ l5.length) := ⟨hy1, hy2, hy3, hy4, hy5, hy6⟩
  clear hx1 hx2 hx3 hx4 hx5 hx6 hy1 hy2 hy3 hy4 hy5 hy6
  go_enter Try.func6, Try.ntmps6
  go_wp2_with fail
  refine (heavy4 w.heap.size a1 a2 a3 a4 n1 n2 n3 n4 c1 c2 c3 c4 _ (by simp [go_sem]) (by simp [go_sem]) (by simp [go_sem]) (by simp [go_sem])).mono ?_
  have BB : Aside (Below w.heap.size w (w.alloc (.cells #[.slice a1 n1 c1, .slice a2 n2 c2, .slice a3 n3 c3, .slice a4 n4 c4] 26))) := (Below.refl _ _).alloc (Nat.le_refl _) _
  generalize w.alloc (.cells #[.slice a1 n1 c1, .slice a2 n2 c2, .slice a3 n3 c3, .slice a4 n4 c4] 26) = wg at BB ⊢
  rintro e w1 ⟨rfl | ⟨rfl, m1, m2, m3, m4⟩, rfl⟩
  · go_wp2_with fail
    refine (known_any _).mono ?_
    rintro e w2 ⟨rfl, hb2⟩
    have B2 : Aside (Below w.heap.size w w2) := BB.out.trans (hb2.mono BB.out.size)
    clear hb2
    go_wp2
    go_ret
    exact ⟨rfl, B2.out⟩
  by_cases g5 : (100 : Int) < (n5 : Int)
  · go_wp2_with fail
    refine (known_any _).mono ?_
    rintro e w2 ⟨rfl, hb2⟩
    have B2 : Aside (Below w.heap.size w w2) := BB.out.trans (hb2.mono BB.out.size)
    clear hb2
    go_wp2
    go_ret
    exact ⟨rfl, B2.out⟩
  by_cases g6 : (100 : Int) < (n6 : Int)
  · go_wp2_with fail
    refine (known_any _).mono ?_
    rintro e w2 ⟨rfl, hb2⟩
    have B2 : Aside (Below w.heap.size w w2) := BB.out.trans (hb2.mono BB.out.size)
    clear hb2
    go_wp2
    go_ret
    exact ⟨rfl, B2.out⟩
  by_cases g7 : (100 : Int) < (n7 : Int)
  · go_wp2_with fail
    refine (known_any _).mono ?_
    rintro e w2 ⟨rfl, hb2⟩
    have B2 : Aside (Below w.heap.size w w2) := BB.out.trans (hb2.mono BB.out.size)
    clear hb2
    go_wp2
    go_ret
    exact ⟨rfl, B2.out⟩
  by_cases g8 : (100 : Int) < (n8 : Int)
  · go_wp2_with fail
    refine (known_any _).mono ?_
    rintro e w2 ⟨rfl, hb2⟩
    have B2 : Aside (Below w.heap.size w w2) := BB.out.trans (hb2.mono BB.out.size)
    clear hb2
    go_wp2
    go_ret
    exact ⟨rfl, B2.out⟩
  have B1 : Aside (Below w.heap.size w w1) := BB
  have I1_1 : Aside (Ints w1 a1 l1) := H1.out.keep BB.out
  have I2_1 : Aside (Ints w1 a2 l2) := H2.out.keep BB.out
  have I3_1 : Aside (Ints w1 a3 l3) := H3.out.keep BB.out
  have I4_1 : Aside (Ints w1 a4 l4) := H4.out.keep BB.out
  have I5_1 : Aside (Nums .u8 w1 a5 n5 c5 l5) := H5.out.keep BB.out
  have I6_1 : Aside (Nums .u8 w1 a6 n6 c6 l6) := H6.out.keep BB.out
  have I7_1 : Aside (Nums .u8 w1 a7 n7 c7 l7) := H7.out.keep BB.out
  have I8_1 : Aside (Nums .u8 w1 a8 n8 c8 l8) := H8.out.keep BB.out
  clear BB H1 H2 H3 H4 H5 H6 H7 H8
  go_wp2_with fail
  refine (known_any _).mono ?_
  rintro e w2 ⟨rfl, hbx⟩
  have hb2 : Below w1.heap.size w1 w2 := hbx
  have I1_2 : Aside (Ints w2 a1 l1) := I1_1.out.keep hb2
  have I2_2 : Aside (Ints w2 a2 l2) := I2_1.out.keep hb2
  have I3_2 : Aside (Ints w2 a3 l3) := I3_1.out.keep hb2
  have I4_2 : Aside (Ints w2 a4 l4) := I4_1.out.keep hb2
  have I5_2 : Aside (Nums .u8 w2 a5 n5 c5 l5) := I5_1.out.keep hb2
  have I6_2 : Aside (Nums .u8 w2 a6 n6 c6 l6) := I6_1.out.keep hb2
  have I7_2 : Aside (Nums .u8 w2 a7 n7 c7 l7) := I7_1.out.keep hb2
  have I8_2 : Aside (Nums .u8 w2 a8 n8 c8 l8) := I8_1.out.keep hb2
  have B2 : Aside (Below w.heap.size w w2) := B1.out.trans (hb2.mono B1.out.size)
  clear hb2 I1_1 I2_1 I3_1 I4_1 I5_1 I6_1 I7_1 I8_1 B1
  go_wp2_with fail
  refine (meet_out _ _ _ _ n1 n2 n3 n4 c1 c2 c3 c4 nx rx l1 l2 l3 l4 X Y w2 I1_2.out E.out.1.1 I2_2.out E.out.1.2.1 I3_2.out E.out.1.2.2.1 I4_2.out E.out.1.2.2.2 (by omega) MX.out.1 MX.out.2.1 MX.out.2.2.1 MX.out.2.2.2.1 MX.out.2.2.2.2.1).mono ?_
  rintro e w3 ⟨t, rfl, hres⟩
  obtain ⟨⟨pa1, qpa1, pa2, qpa2, rfl, i1, i2⟩, hbx⟩ := hres
  have hb3 : Below w2.heap.size w2 w3 := hbx
  have I1_3 : Aside (Ints w3 a1 l1) := I1_2.out.keep hb3
  have I2_3 : Aside (Ints w3 a2 l2) := I2_2.out.keep hb3
  have I3_3 : Aside (Ints w3 a3 l3) := I3_2.out.keep hb3
  have I4_3 : Aside (Ints w3 a4 l4) := I4_2.out.keep hb3
  have I5_3 : Aside (Nums .u8 w3 a5 n5 c5 l5) := I5_2.out.keep hb3
  have I6_3 : Aside (Nums .u8 w3 a6 n6 c6 l6) := I6_2.out.keep hb3
  have I7_3 : Aside (Nums .u8 w3 a7 n7 c7 l7) := I7_2.out.keep hb3
  have I8_3 : Aside (Nums .u8 w3 a8 n8 c8 l8) := I8_2.out.keep hb3
  have B3 : Aside (Below w.heap.size w w3) := B2.out.trans (hb3.mono B2.out.size)
  clear hb3 I1_2 I2_2 I3_2 I4_2 I5_2 I6_2 I7_2 I8_2 B2
  have XA1_3 : Aside (Ints w3 pa1 X) := i1
  have XA2_3 : Aside (Ints w3 pa2 Y) := i2
  clear i1 i2
  go_wp2_with fail
  refine (refMeet_out _ _ _ _ n1 n2 n3 n4 c1 c2 c3 c4 nx rx l1 l2 l3 l4 X Y w3 I1_3.out E.out.1.1 I2_3.out E.out.1.2.1 I3_3.out E.out.1.2.2.1 I4_3.out E.out.1.2.2.2 (by omega) MX.out.1 MX.out.2.1 MX.out.2.2.1 MX.out.2.2.2.1 MX.out.2.2.2.2.1).mono ?_
  rintro e w4 ⟨t, rfl, hres⟩
  obtain ⟨⟨pb1, qpb1, pb2, qpb2, rfl, i1, i2⟩, hbx⟩ := hres
  have hb4 : Below w3.heap.size w3 w4 := hbx
  have I1_4 : Aside (Ints w4 a1 l1) := I1_3.out.keep hb4
  have I2_4 : Aside (Ints w4 a2 l2) := I2_3.out.keep hb4
  have I3_4 : Aside (Ints w4 a3 l3) := I3_3.out.keep hb4
  have I4_4 : Aside (Ints w4 a4 l4) := I4_3.out.keep hb4
  have I5_4 : Aside (Nums .u8 w4 a5 n5 c5 l5) := I5_3.out.keep hb4
  have I6_4 : Aside (Nums .u8 w4 a6 n6 c6 l6) := I6_3.out.keep hb4
  have I7_4 : Aside (Nums .u8 w4 a7 n7 c7 l7) := I7_3.out.keep hb4
  have I8_4 : Aside (Nums .u8 w4 a8 n8 c8 l8) := I8_3.out.keep hb4
  have B4 : Aside (Below w.heap.size w w4) := B3.out.trans (hb4.mono B3.out.size)
  have XA1_4 : Aside (Ints w4 pa1 X) := XA1_3.out.keep hb4
  have XA2_4 : Aside (Ints w4 pa2 Y) := XA2_3.out.keep hb4
  clear hb4 I1_3 I2_3 I3_3 I4_3 I5_3 I6_3 I7_3 I8_3 B3 XA1_3 XA2_3
  have XB1_4 : Aside (Ints w4 pb1 X) := i1
  have XB2_4 : Aside (Ints w4 pb2 Y) := i2
  clear i1 i2
  clear I1_4 I2_4 I3_4 I4_4
  go_wp2_with fail
  refine (ints_out a5 n5 c5 l5 w4 I5_4.out (by omega)).mono ?_
  rintro e w5 ⟨v, rfl, hres⟩
  obtain ⟨⟨g5_0, h5_0, rfl, i1, -⟩, hbx⟩ := hres
  have hb5 : Below w4.heap.size w4 w5 := hbx
  have I5_5 : Aside (Nums .u8 w5 a5 n5 c5 l5) := I5_4.out.keep hb5
  have I6_5 : Aside (Nums .u8 w5 a6 n6 c6 l6) := I6_4.out.keep hb5
  have I7_5 : Aside (Nums .u8 w5 a7 n7 c7 l7) := I7_4.out.keep hb5
  have I8_5 : Aside (Nums .u8 w5 a8 n8 c8 l8) := I8_4.out.keep hb5
  have B5 : Aside (Below w.heap.size w w5) := B4.out.trans (hb5.mono B4.out.size)
  have XA1_5 : Aside (Ints w5 pa1 X) := XA1_4.out.keep hb5
  have XA2_5 : Aside (Ints w5 pa2 Y) := XA2_4.out.keep hb5
  have XB1_5 : Aside (Ints w5 pb1 X) := XB1_4.out.keep hb5
  have XB2_5 : Aside (Ints w5 pb2 Y) := XB2_4.out.keep hb5
  clear hb5 I5_4 I6_4 I7_4 I8_4 B4 XA1_4 XA2_4 XB1_4 XB2_4
  have G5_5 : Aside (Ints w5 g5_0 l5) := i1
  clear i1
  go_wp2_with fail
  refine (ints_out a6 n6 c6 l6 w5 I6_5.out (by omega)).mono ?_
  rintro e w6 ⟨v, rfl, hres⟩
  obtain ⟨⟨g6_0, h6_0, rfl, i1, -⟩, hbx⟩ := hres
  have hb6 : Below w5.heap.size w5 w6 := hbx
  have I5_6 : Aside (Nums .u8 w6 a5 n5 c5 l5) := I5_5.out.keep hb6
  have I6_6 : Aside (Nums .u8 w6 a6 n6 c6 l6) := I6_5.out.keep hb6
  have I7_6 : Aside (Nums .u8 w6 a7 n7 c7 l7) := I7_5.out.keep hb6
  have I8_6 : Aside (Nums .u8 w6 a8 n8 c8 l8) := I8_5.out.keep hb6
  have B6 : Aside (Below w.heap.size w w6) := B5.out.trans (hb6.mono B5.out.size)
  have XA1_6 : Aside (Ints w6 pa1 X) := XA1_5.out.keep hb6
  have XA2_6 : Aside (Ints w6 pa2 Y) := XA2_5.out.keep hb6
  have XB1_6 : Aside (Ints w6 pb1 X) := XB1_5.out.keep hb6
  have XB2_6 : Aside (Ints w6 pb2 Y) := XB2_5.out.keep hb6
  have G5_6 : Aside (Ints w6 g5_0 l5) := G5_5.out.keep hb6
  clear hb6 I5_5 I6_5 I7_5 I8_5 B5 XA1_5 XA2_5 XB1_5 XB2_5 G5_5
  have G6_6 : Aside (Ints w6 g6_0 l6) := i1
  clear i1
  go_wp2_with fail
  refine (ints_out a7 n7 c7 l7 w6 I7_6.out (by omega)).mono ?_
  rintro e w7 ⟨v, rfl, hres⟩
  obtain ⟨⟨g7_0, h7_0, rfl, i1, -⟩, hbx⟩ := hres
  have hb7 : Below w6.heap.size w6 w7 := hbx
  have I5_7 : Aside (Nums .u8 w7 a5 n5 c5 l5) := I5_6.out.keep hb7
  have I6_7 : Aside (Nums .u8 w7 a6 n6 c6 l6) := I6_6.out.keep hb7
  have I7_7 : Aside (Nums .u8 w7 a7 n7 c7 l7) := I7_6.out.keep hb7
  have I8_7 : Aside (Nums .u8 w7 a8 n8 c8 l8) := I8_6.out.keep hb7
  have B7 : Aside (Below w.heap.size w w7) := B6.out.trans (hb7.mono B6.out.size)
  have XA1_7 : Aside (Ints w7 pa1 X) := XA1_6.out.keep hb7
  have XA2_7 : Aside (Ints w7 pa2 Y) := XA2_6.out.keep hb7
  have XB1_7 : Aside (Ints w7 pb1 X) := XB1_6.out.keep hb7
  have XB2_7 : Aside (Ints w7 pb2 Y) := XB2_6.out.keep hb7
  have G5_7 : Aside (Ints w7 g5_0 l5) := G5_6.out.keep hb7
  have G6_7 : Aside (Ints w7 g6_0 l6) := G6_6.out.keep hb7
  clear hb7 I5_6 I6_6 I7_6 I8_6 B6 XA1_6 XA2_6 XB1_6 XB2_6 G5_6 G6_6
  have G7_7 : Aside (Ints w7 g7_0 l7) := i1
  clear i1
  go_wp2_with fail
  refine (ints_out a8 n8 c8 l8 w7 I8_7.out (by omega)).mono ?_
  rintro e w8 ⟨v, rfl, hres⟩
  obtain ⟨⟨g8_0, h8_0, rfl, i1, -⟩, hbx⟩ := hres
  have hb8 : Below w7.heap.size w7 w8 := hbx
  have I5_8 : Aside (Nums .u8 w8 a5 n5 c5 l5) := I5_7.out.keep hb8
  have I6_8 : Aside (Nums .u8 w8 a6 n6 c6 l6) := I6_7.out.keep hb8
  have I7_8 : Aside (Nums .u8 w8 a7 n7 c7 l7) := I7_7.out.keep hb8
  have I8_8 : Aside (Nums .u8 w8 a8 n8 c8 l8) := I8_7.out.keep hb8
  have B8 : Aside (Below w.heap.size w w8) := B7.out.trans (hb8.mono B7.out.size)
  have XA1_8 : Aside (Ints w8 pa1 X) := XA1_7.out.keep hb8
  have XA2_8 : Aside (Ints w8 pa2 Y) := XA2_7.out.keep hb8
  have XB1_8 : Aside (Ints w8 pb1 X) := XB1_7.out.keep hb8
  have XB2_8 : Aside (Ints w8 pb2 Y) := XB2_7.out.keep hb8
  have G5_8 : Aside (Ints w8 g5_0 l5) := G5_7.out.keep hb8
  have G6_8 : Aside (Ints w8 g6_0 l6) := G6_7.out.keep hb8
  have G7_8 : Aside (Ints w8 g7_0 l7) := G7_7.out.keep hb8
  clear hb8 I5_7 I6_7 I7_7 I8_7 B7 XA1_7 XA2_7 XB1_7 XB2_7 G5_7 G6_7 G7_7
  have G8_8 : Aside (Ints w8 g8_0 l8) := i1
  clear i1
  go_wp2_with fail
  refine (meet_out _ _ _ _ n5 n6 n7 n8 h5_0 h6_0 h7_0 h8_0 ny ry l5 l6 l7 l8 P Q w8 G5_8.out E.out.2.1 G6_8.out E.out.2.2.1 G7_8.out E.out.2.2.2.1 G8_8.out E.out.2.2.2.2 (by omega) MY.out.1 MY.out.2.1 MY.out.2.2.1 MY.out.2.2.2.1 MY.out.2.2.2.2.1).mono ?_
  rintro e w9 ⟨t, rfl, hres⟩
  obtain ⟨⟨pc1, qpc1, pc2, qpc2, rfl, i1, i2⟩, hbx⟩ := hres
  have hb9 : Below w8.heap.size w8 w9 := hbx
  have I5_9 : Aside (Nums .u8 w9 a5 n5 c5 l5) := I5_8.out.keep hb9
  have I6_9 : Aside (Nums .u8 w9 a6 n6 c6 l6) := I6_8.out.keep hb9
  have I7_9 : Aside (Nums .u8 w9 a7 n7 c7 l7) := I7_8.out.keep hb9
  have I8_9 : Aside (Nums .u8 w9 a8 n8 c8 l8) := I8_8.out.keep hb9
  have B9 : Aside (Below w.heap.size w w9) := B8.out.trans (hb9.mono B8.out.size)
  have XA1_9 : Aside (Ints w9 pa1 X) := XA1_8.out.keep hb9
  have XA2_9 : Aside (Ints w9 pa2 Y) := XA2_8.out.keep hb9
  have XB1_9 : Aside (Ints w9 pb1 X) := XB1_8.out.keep hb9
  have XB2_9 : Aside (Ints w9 pb2 Y) := XB2_8.out.keep hb9
  have G5_9 : Aside (Ints w9 g5_0 l5) := G5_8.out.keep hb9
  have G6_9 : Aside (Ints w9 g6_0 l6) := G6_8.out.keep hb9
  have G7_9 : Aside (Ints w9 g7_0 l7) := G7_8.out.keep hb9
  have G8_9 : Aside (Ints w9 g8_0 l8) := G8_8.out.keep hb9
  clear hb9 I5_8 I6_8 I7_8 I8_8 B8 XA1_8 XA2_8 XB1_8 XB2_8 G5_8 G6_8 G7_8 G8_8
  have XC1_9 : Aside (Ints w9 pc1 P) := i1
  have XC2_9 : Aside (Ints w9 pc2 Q) := i2
  clear i1 i2
  clear G5_9 G6_9 G7_9 G8_9
  go_wp2_with fail
  refine (ints_out a5 n5 c5 l5 w9 I5_9.out (by omega)).mono ?_
  rintro e w10 ⟨v, rfl, hres⟩
  obtain ⟨⟨g5_1, h5_1, rfl, i1, -⟩, hbx⟩ := hres
  have hb10 : Below w9.heap.size w9 w10 := hbx
  have I5_10 : Aside (Nums .u8 w10 a5 n5 c5 l5) := I5_9.out.keep hb10
  have I6_10 : Aside (Nums .u8 w10 a6 n6 c6 l6) := I6_9.out.keep hb10
  have I7_10 : Aside (Nums .u8 w10 a7 n7 c7 l7) := I7_9.out.keep hb10
  have I8_10 : Aside (Nums .u8 w10 a8 n8 c8 l8) := I8_9.out.keep hb10
  have B10 : Aside (Below w.heap.size w w10) := B9.out.trans (hb10.mono B9.out.size)
  have XA1_10 : Aside (Ints w10 pa1 X) := XA1_9.out.keep hb10
  have XA2_10 : Aside (Ints w10 pa2 Y) := XA2_9.out.keep hb10
  have XB1_10 : Aside (Ints w10 pb1 X) := XB1_9.out.keep hb10
  have XB2_10 : Aside (Ints w10 pb2 Y) := XB2_9.out.keep hb10
  have XC1_10 : Aside (Ints w10 pc1 P) := XC1_9.out.keep hb10
  have XC2_10 : Aside (Ints w10 pc2 Q) := XC2_9.out.keep hb10
  clear hb10 I5_9 I6_9 I7_9 I8_9 B9 XA1_9 XA2_9 XB1_9 XB2_9 XC1_9 XC2_9
  have G5_10 : Aside (Ints w10 g5_1 l5) := i1
  clear i1
  go_wp2_with fail
  refine (ints_out a6 n6 c6 l6 w10 I6_10.out (by omega)).mono ?_
  rintro e w11 ⟨v, rfl, hres⟩
  obtain ⟨⟨g6_1, h6_1, rfl, i1, -⟩, hbx⟩ := hres
  have hb11 : Below w10.heap.size w10 w11 := hbx
  have I5_11 : Aside (Nums .u8 w11 a5 n5 c5 l5) := I5_10.out.keep hb11
  have I6_11 : Aside (Nums .u8 w11 a6 n6 c6 l6) := I6_10.out.keep hb11
  have I7_11 : Aside (Nums .u8 w11 a7 n7 c7 l7) := I7_10.out.keep hb11
  have I8_11 : Aside (Nums .u8 w11 a8 n8 c8 l8) := I8_10.out.keep hb11
  have B11 : Aside (Below w.heap.size w w11) := B10.out.trans (hb11.mono B10.out.size)
  have XA1_11 : Aside (Ints w11 pa1 X) := XA1_10.out.keep hb11
  have XA2_11 : Aside (Ints w11 pa2 Y) := XA2_10.out.keep hb11
  have XB1_11 : Aside (Ints w11 pb1 X) := XB1_10.out.keep hb11
  have XB2_11 : Aside (Ints w11 pb2 Y) := XB2_10.out.keep hb11
  have XC1_11 : Aside (Ints w11 pc1 P) := XC1_10.out.keep hb11
  have XC2_11 : Aside (Ints w11 pc2 Q) := XC2_10.out.keep hb11
  have G5_11 : Aside (Ints w11 g5_1 l5) := G5_10.out.keep hb11
  clear hb11 I5_10 I6_10 I7_10 I8_10 B10 XA1_10 XA2_10 XB1_10 XB2_10 XC1_10 XC2_10 G5_10
  have G6_11 : Aside (Ints w11 g6_1 l6) := i1
  clear i1
  go_wp2_with fail
  refine (ints_out a7 n7 c7 l7 w11 I7_11.out (by omega)).mono ?_
  rintro e w12 ⟨v, rfl, hres⟩
  obtain ⟨⟨g7_1, h7_1, rfl, i1, -⟩, hbx⟩ := hres
  have hb12 : Below w11.heap.size w11 w12 := hbx
  have I5_12 : Aside (Nums .u8 w12 a5 n5 c5 l5) := I5_11.out.keep hb12
  have I6_12 : Aside (Nums .u8 w12 a6 n6 c6 l6) := I6_11.out.keep hb12
  have I7_12 : Aside (Nums .u8 w12 a7 n7 c7 l7) := I7_11.out.keep hb12
  have I8_12 : Aside (Nums .u8 w12 a8 n8 c8 l8) := I8_11.out.keep hb12
  have B12 : Aside (Below w.heap.size w w12) := B11.out.trans (hb12.mono B11.out.size)
  have XA1_12 : Aside (Ints w12 pa1 X) := XA1_11.out.keep hb12
  have XA2_12 : Aside (Ints w12 pa2 Y) := XA2_11.out.keep hb12
  have XB1_12 : Aside (Ints w12 pb1 X) := XB1_11.out.keep hb12
  have XB2_12 : Aside (Ints w12 pb2 Y) := XB2_11.out.keep hb12
  have XC1_12 : Aside (Ints w12 pc1 P) := XC1_11.out.keep hb12
  have XC2_12 : Aside (Ints w12 pc2 Q) := XC2_11.out.keep hb12
  have G5_12 : Aside (Ints w12 g5_1 l5) := G5_11.out.keep hb12
  have G6_12 : Aside (Ints w12 g6_1 l6) := G6_11.out.keep hb12
  clear hb12 I5_11 I6_11 I7_11 I8_11 B11 XA1_11 XA2_11 XB1_11 XB2_11 XC1_11 XC2_11 G5_11 G6_11
  have G7_12 : Aside (Ints w12 g7_1 l7) := i1
  clear i1
  go_wp2_with fail
  refine (ints_out a8 n8 c8 l8 w12 I8_12.out (by omega)).mono ?_
  rintro e w13 ⟨v, rfl, hres⟩
  obtain ⟨⟨g8_1, h8_1, rfl, i1, -⟩, hbx⟩ := hres
  have hb13 : Below w12.heap.size w12 w13 := hbx
  have I5_13 : Aside (Nums .u8 w13 a5 n5 c5 l5) := I5_12.out.keep hb13
  have I6_13 : Aside (Nums .u8 w13 a6 n6 c6 l6) := I6_12.out.keep hb13
  have I7_13 : Aside (Nums .u8 w13 a7 n7 c7 l7) := I7_12.out.keep hb13
  have I8_13 : Aside (Nums .u8 w13 a8 n8 c8 l8) := I8_12.out.keep hb13
  have B13 : Aside (Below w.heap.size w w13) := B12.out.trans (hb13.mono B12.out.size)
  have XA1_13 : Aside (Ints w13 pa1 X) := XA1_12.out.keep hb13
  have XA2_13 : Aside (Ints w13 pa2 Y) := XA2_12.out.keep hb13
  have XB1_13 : Aside (Ints w13 pb1 X) := XB1_12.out.keep hb13
  have XB2_13 : Aside (Ints w13 pb2 Y) := XB2_12.out.keep hb13
  have XC1_13 : Aside (Ints w13 pc1 P) := XC1_12.out.keep hb13
  have XC2_13 : Aside (Ints w13 pc2 Q) := XC2_12.out.keep hb13
  have G5_13 : Aside (Ints w13 g5_1 l5) := G5_12.out.keep hb13
  have G6_13 : Aside (Ints w13 g6_1 l6) := G6_12.out.keep hb13
  have G7_13 : Aside (Ints w13 g7_1 l7) := G7_12.out.keep hb13
  clear hb13 I5_12 I6_12 I7_12 I8_12 B12 XA1_12 XA2_12 XB1_12 XB2_12 XC1_12 XC2_12 G5_12 G6_12 G7_12
  have G8_13 : Aside (Ints w13 g8_1 l8) := i1
  clear i1
  go_wp2_with fail
  refine (refMeet_out _ _ _ _ n5 n6 n7 n8 h5_1 h6_1 h7_1 h8_1 ny ry l5 l6 l7 l8 P Q w13 G5_13.out E.out.2.1 G6_13.out E.out.2.2.1 G7_13.out E.out.2.2.2.1 G8_13.out E.out.2.2.2.2 (by omega) MY.out.1 MY.out.2.1 MY.out.2.2.1 MY.out.2.2.2.1 MY.out.2.2.2.2.1).mono ?_
  rintro e w14 ⟨t, rfl, hres⟩
  obtain ⟨⟨pd1, qpd1, pd2, qpd2, rfl, i1, i2⟩, hbx⟩ := hres
  have hb14 : Below w13.heap.size w13 w14 := hbx
  have I5_14 : Aside (Nums .u8 w14 a5 n5 c5 l5) := I5_13.out.keep hb14
  have I6_14 : Aside (Nums .u8 w14 a6 n6 c6 l6) := I6_13.out.keep hb14
  have I7_14 : Aside (Nums .u8 w14 a7 n7 c7 l7) := I7_13.out.keep hb14
  have I8_14 : Aside (Nums .u8 w14 a8 n8 c8 l8) := I8_13.out.keep hb14
  have B14 : Aside (Below w.heap.size w w14) := B13.out.trans (hb14.mono B13.out.size)
  have XA1_14 : Aside (Ints w14 pa1 X) := XA1_13.out.keep hb14
  have XA2_14 : Aside (Ints w14 pa2 Y) := XA2_13.out.keep hb14
  have XB1_14 : Aside (Ints w14 pb1 X) := XB1_13.out.keep hb14
  have XB2_14 : Aside (Ints w14 pb2 Y) := XB2_13.out.keep hb14
  have XC1_14 : Aside (Ints w14 pc1 P) := XC1_13.out.keep hb14
  have XC2_14 : Aside (Ints w14 pc2 Q) := XC2_13.out.keep hb14
  have G5_14 : Aside (Ints w14 g5_1 l5) := G5_13.out.keep hb14
  have G6_14 : Aside (Ints w14 g6_1 l6) := G6_13.out.keep hb14
  have G7_14 : Aside (Ints w14 g7_1 l7) := G7_13.out.keep hb14
  have G8_14 : Aside (Ints w14 g8_1 l8) := G8_13.out.keep hb14
  clear hb14 I5_13 I6_13 I7_13 I8_13 B13 XA1_13 XA2_13 XB1_13 XB2_13 XC1_13 XC2_13 G5_13 G6_13 G7_13 G8_13
  have XD1_14 : Aside (Ints w14 pd1 P) := i1
  have XD2_14 : Aside (Ints w14 pd2 Q) := i2
  clear i1 i2
  clear G5_14 G6_14 G7_14 G8_14
  have hnx : nx ≤ 9223372036854775807 := by have h := MX.out.2.2.2.2.2; rw [E.out.1.1] at h; omega
  have hny : ny ≤ 9223372036854775807 := by have h := MY.out.2.2.2.2.2; rw [E.out.2.1] at h; omega
  go_wp2_with fail
  refine (lawSame_any _ _ nx nx qpa1 qpb1 X X true w14 XA1_14.out MX.out.2.2.2.1 XB1_14.out MX.out.2.2.2.1 hnx (decide_eq_true rfl)).mono ?_
  rintro e w15 ⟨rfl, hbx⟩
  have hb15 : Below w14.heap.size w14 w15 := hbx
  have I5_15 : Aside (Nums .u8 w15 a5 n5 c5 l5) := I5_14.out.keep hb15
  have I6_15 : Aside (Nums .u8 w15 a6 n6 c6 l6) := I6_14.out.keep hb15
  have I7_15 : Aside (Nums .u8 w15 a7 n7 c7 l7) := I7_14.out.keep hb15
  have I8_15 : Aside (Nums .u8 w15 a8 n8 c8 l8) := I8_14.out.keep hb15
  have B15 : Aside (Below w.heap.size w w15) := B14.out.trans (hb15.mono B14.out.size)
  have XA1_15 : Aside (Ints w15 pa1 X) := XA1_14.out.keep hb15
  have XA2_15 : Aside (Ints w15 pa2 Y) := XA2_14.out.keep hb15
  have XB1_15 : Aside (Ints w15 pb1 X) := XB1_14.out.keep hb15
  have XB2_15 : Aside (Ints w15 pb2 Y) := XB2_14.out.keep hb15
  have XC1_15 : Aside (Ints w15 pc1 P) := XC1_14.out.keep hb15
  have XC2_15 : Aside (Ints w15 pc2 Q) := XC2_14.out.keep hb15
  have XD1_15 : Aside (Ints w15 pd1 P) := XD1_14.out.keep hb15
  have XD2_15 : Aside (Ints w15 pd2 Q) := XD2_14.out.keep hb15
  clear hb15 I5_14 I6_14 I7_14 I8_14 B14 XA1_14 XA2_14 XB1_14 XB2_14 XC1_14 XC2_14 XD1_14 XD2_14
  go_wp2_with fail
  refine (lawSame_any _ _ nx nx qpa2 qpb2 Y Y true w15 XA2_15.out MX.out.2.2.2.2.1 XB2_15.out MX.out.2.2.2.2.1 hnx (decide_eq_true rfl)).mono ?_
  rintro e w16 ⟨rfl, hbx⟩
  have hb16 : Below w15.heap.size w15 w16 := hbx
  have I5_16 : Aside (Nums .u8 w16 a5 n5 c5 l5) := I5_15.out.keep hb16
  have I6_16 : Aside (Nums .u8 w16 a6 n6 c6 l6) := I6_15.out.keep hb16
  have I7_16 : Aside (Nums .u8 w16 a7 n7 c7 l7) := I7_15.out.keep hb16
  have I8_16 : Aside (Nums .u8 w16 a8 n8 c8 l8) := I8_15.out.keep hb16
  have B16 : Aside (Below w.heap.size w w16) := B15.out.trans (hb16.mono B15.out.size)
  have XA1_16 : Aside (Ints w16 pa1 X) := XA1_15.out.keep hb16
  have XA2_16 : Aside (Ints w16 pa2 Y) := XA2_15.out.keep hb16
  have XB1_16 : Aside (Ints w16 pb1 X) := XB1_15.out.keep hb16
  have XB2_16 : Aside (Ints w16 pb2 Y) := XB2_15.out.keep hb16
  have XC1_16 : Aside (Ints w16 pc1 P) := XC1_15.out.keep hb16
  have XC2_16 : Aside (Ints w16 pc2 Q) := XC2_15.out.keep hb16
  have XD1_16 : Aside (Ints w16 pd1 P) := XD1_15.out.keep hb16
  have XD2_16 : Aside (Ints w16 pd2 Q) := XD2_15.out.keep hb16
  clear hb16 I5_15 I6_15 I7_15 I8_15 B15 XA1_15 XA2_15 XB1_15 XB2_15 XC1_15 XC2_15 XD1_15 XD2_15
  go_wp2_with fail
  refine (lawSame_any _ _ ny ny qpc1 qpd1 P P true w16 XC1_16.out MY.out.2.2.2.1 XD1_16.out MY.out.2.2.2.1 hny (decide_eq_true rfl)).mono ?_
  rintro e w17 ⟨rfl, hbx⟩
  have hb17 : Below w16.heap.size w16 w17 := hbx
  have I5_17 : Aside (Nums .u8 w17 a5 n5 c5 l5) := I5_16.out.keep hb17
  have I6_17 : Aside (Nums .u8 w17 a6 n6 c6 l6) := I6_16.out.keep hb17
  have I7_17 : Aside (Nums .u8 w17 a7 n7 c7 l7) := I7_16.out.keep hb17
  have I8_17 : Aside (Nums .u8 w17 a8 n8 c8 l8) := I8_16.out.keep hb17
  have B17 : Aside (Below w.heap.size w w17) := B16.out.trans (hb17.mono B16.out.size)
  have XA1_17 : Aside (Ints w17 pa1 X) := XA1_16.out.keep hb17
  have XA2_17 : Aside (Ints w17 pa2 Y) := XA2_16.out.keep hb17
  have XB1_17 : Aside (Ints w17 pb1 X) := XB1_16.out.keep hb17
  have XB2_17 : Aside (Ints w17 pb2 Y) := XB2_16.out.keep hb17
  have XC1_17 : Aside (Ints w17 pc1 P) := XC1_16.out.keep hb17
  have XC2_17 : Aside (Ints w17 pc2 Q) := XC2_16.out.keep hb17
  have XD1_17 : Aside (Ints w17 pd1 P) := XD1_16.out.keep hb17
  have XD2_17 : Aside (Ints w17 pd2 Q) := XD2_16.out.keep hb17
  clear hb17 I5_16 I6_16 I7_16 I8_16 B16 XA1_16 XA2_16 XB1_16 XB2_16 XC1_16 XC2_16 XD1_16 XD2_16
  go_wp2_with fail
  refine (lawSame_any _ _ ny ny qpc2 qpd2 Q Q true w17 XC2_17.out MY.out.2.2.2.2.1 XD2_17.out MY.out.2.2.2.2.1 hny (decide_eq_true rfl)).mono ?_
  rintro e w18 ⟨rfl, hbx⟩
  have hb18 : Below w17.heap.size w17 w18 := hbx
  have I5_18 : Aside (Nums .u8 w18 a5 n5 c5 l5) := I5_17.out.keep hb18
  have I6_18 : Aside (Nums .u8 w18 a6 n6 c6 l6) := I6_17.out.keep hb18
  have I7_18 : Aside (Nums .u8 w18 a7 n7 c7 l7) := I7_17.out.keep hb18
  have I8_18 : Aside (Nums .u8 w18 a8 n8 c8 l8) := I8_17.out.keep hb18
  have B18 : Aside (Below w.heap.size w w18) := B17.out.trans (hb18.mono B17.out.size)
  have XA1_18 : Aside (Ints w18 pa1 X) := XA1_17.out.keep hb18
  have XA2_18 : Aside (Ints w18 pa2 Y) := XA2_17.out.keep hb18
  have XB1_18 : Aside (Ints w18 pb1 X) := XB1_17.out.keep hb18
  have XB2_18 : Aside (Ints w18 pb2 Y) := XB2_17.out.keep hb18
  have XC1_18 : Aside (Ints w18 pc1 P) := XC1_17.out.keep hb18
  have XC2_18 : Aside (Ints w18 pc2 Q) := XC2_17.out.keep hb18
  have XD1_18 : Aside (Ints w18 pd1 P) := XD1_17.out.keep hb18
  have XD2_18 : Aside (Ints w18 pd2 Q) := XD2_17.out.keep hb18
  clear hb18 I5_17 I6_17 I7_17 I8_17 B17 XA1_17 XA2_17 XB1_17 XB2_17 XC1_17 XC2_17 XD1_17 XD2_17
  go_wp2
  go_ret
  exact ⟨rfl, B18.out⟩
end Go.Proofs.Ythbjfbkjbggkbaa.dice
