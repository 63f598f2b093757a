/-
  The walk of DiceBoth: of whatever choices the call answers true.
-/
import Derived.Test.YthbjfbkjbggkbaaDiceOf
namespace Go.Proofs.Ythbjfbkjbggkbaa.dice
open Go.ChangeShapes Go.WideShapes Go.ChangeAt Go.RowKit Go.Deep
open Go.Proofs.Ythbjfbkjbggkbaa.dims
set_option linter.unusedVariables false
set_option maxRecDepth 100000

theorem both_cases {r1 r2 m r3 : Bool} (h : (r1 = true ∧ r2 = true) ↔ (m = true ∧ r3 = true)) : (r1 = false ∧ m = false) ∨ (r1 = false ∧ m = true ∧ r3 = false) ∨ (r1 = true ∧ r2 = false ∧ m = false) ∨ (r1 = true ∧ r2 = false ∧ m = true ∧ r3 = false) ∨ (r1 = true ∧ r2 = true ∧ m = true ∧ r3 = true) := by
  cases r1 <;> cases r2 <;> cases m <;> cases r3 <;> simp_all

set_option maxHeartbeats 16000000 in
theorem both_walk (am a1 a2 a3 a4 a5 : Option Addr) (nm cm n1 c1 n2 c2 n3 c3 n4 c4 n5 c5 : Nat) (cs : List Dm) (l1 l2 l3 l4 l5 : List Int) (w : World) (pM : Pairs .u16 .u8 w am cs) (pm : cs.length = nm ∧ nm ≤ cm ∧ cm ≤ maxLen) (p1 : Nums .u16 w a1 n1 c1 l1) (p2 : Nums .u16 w a2 n2 c2 l2) (p3 : Nums .u16 w a3 n3 c3 l3) (p4 : Nums .u16 w a4 n4 c4 l4) (p5 : Nums .u16 w a5 n5 c5 l5) :
    Calls Try.prog 7 #[.slice am nm cm, .slice a1 n1 c1, .slice a2 n2 c2, .slice a3 n3 c3, .slice a4 n4 c4, .slice a5 n5 c5] w fun e w' => e = .returned (.bool true) ∧ Below w.heap.size w w' := by
  have hm2 : nm ≤ 9223372036854775807 := Nat.le_trans pm.2.1 (Nat.le_trans pm.2.2 maxLen_le)
  have CO := of_made am nm cm cs w pM pm.1 hm2
  have N1_0 : Aside (Nums .u16 w a1 n1 c1 l1) := p1
  have N2_0 : Aside (Nums .u16 w a2 n2 c2 l2) := p2
  have N3_0 : Aside (Nums .u16 w a3 n3 c3 l3) := p3
  have N4_0 : Aside (Nums .u16 w a4 n4 c4 l4) := p4
  have N5_0 : Aside (Nums .u16 w a5 n5 c5 l5) := p5
  clear pM pm p1 p2 p3 p4 p5
  go_enter Try.func7, Try.ntmps7
  go_wp2_with fail
  refine (CO).mono ?_
  rintro e w1 ⟨v1, rfl, hres⟩
  obtain ⟨ds, gx, n, cx, rfl, hn, hX, hx1, hx4, hs, hbx⟩ := hres
  have hb1 : Below w.heap.size w w1 := hbx
  have N1_1 : Aside (Nums .u16 w1 a1 n1 c1 l1) := N1_0.out.keep hb1
  have N2_1 : Aside (Nums .u16 w1 a2 n2 c2 l2) := N2_0.out.keep hb1
  have N3_1 : Aside (Nums .u16 w1 a3 n3 c3 l3) := N3_0.out.keep hb1
  have N4_1 : Aside (Nums .u16 w1 a4 n4 c4 l4) := N4_0.out.keep hb1
  have N5_1 : Aside (Nums .u16 w1 a5 n5 c5 l5) := N5_0.out.keep hb1
  have B1 : Aside (Below w.heap.size w w1) := hb1
  clear hb1 N1_0 N2_0 N3_0 N4_0 N5_0
  have D1 : Aside (DimsIn w1 (some ⟨gx, 0, none⟩) ds) := hX
  have HN : Aside (ds.length = n ∧ ∀ i, i < n → 1 ≤ (dn ds i).sz ∧ (dn ds i).sz ≤ 10000) := ⟨hn, hs⟩
  clear hX hn hs CO
  go_wp2_with fail
  refine (box_out _ a1 a2 n cx n1 c1 n2 c2 ds l1 l2 w1 D1.out HN.out.1 hx1 hx4 N1_1.out N2_1.out HN.out.2).mono ?_
  rintro e w2 ⟨t, rfl, hres⟩
  obtain ⟨⟨px1, qx1, px2, qx2, rfl, ⟨i1, -⟩, i2, -⟩, hbx⟩ := hres
  have hb2 : Below w1.heap.size w1 w2 := hbx
  have N1_2 : Aside (Nums .u16 w2 a1 n1 c1 l1) := N1_1.out.keep hb2
  have N2_2 : Aside (Nums .u16 w2 a2 n2 c2 l2) := N2_1.out.keep hb2
  have N3_2 : Aside (Nums .u16 w2 a3 n3 c3 l3) := N3_1.out.keep hb2
  have N4_2 : Aside (Nums .u16 w2 a4 n4 c4 l4) := N4_1.out.keep hb2
  have N5_2 : Aside (Nums .u16 w2 a5 n5 c5 l5) := N5_1.out.keep hb2
  have B2 : Aside (Below w.heap.size w w2) := B1.out.trans (hb2.mono B1.out.size)
  have D2 : Aside (DimsIn w2 (some ⟨gx, 0, none⟩) ds) := D1.out.keep hb2
  clear hb2 N1_1 N2_1 N3_1 N4_1 N5_1 B1 D1
  have L2 : Aside (Ints w2 px1 (boxL ds l1 l2)) := i1
  have H2 : Aside (Ints w2 px2 (boxH ds l1 l2)) := i2
  clear i1 i2
  go_wp2_with fail
  refine (box_out _ a3 a4 n cx n3 c3 n4 c4 ds l3 l4 w2 D2.out HN.out.1 hx1 hx4 N3_2.out N4_2.out HN.out.2).mono ?_
  rintro e w3 ⟨t, rfl, hres⟩
  obtain ⟨⟨py1, qy1, py2, qy2, rfl, ⟨i1, -⟩, i2, -⟩, hbx⟩ := hres
  have hb3 : Below w2.heap.size w2 w3 := hbx
  have N1_3 : Aside (Nums .u16 w3 a1 n1 c1 l1) := N1_2.out.keep hb3
  have N2_3 : Aside (Nums .u16 w3 a2 n2 c2 l2) := N2_2.out.keep hb3
  have N3_3 : Aside (Nums .u16 w3 a3 n3 c3 l3) := N3_2.out.keep hb3
  have N4_3 : Aside (Nums .u16 w3 a4 n4 c4 l4) := N4_2.out.keep hb3
  have N5_3 : Aside (Nums .u16 w3 a5 n5 c5 l5) := N5_2.out.keep hb3
  have B3 : Aside (Below w.heap.size w w3) := B2.out.trans (hb3.mono B2.out.size)
  have D3 : Aside (DimsIn w3 (some ⟨gx, 0, none⟩) ds) := D2.out.keep hb3
  have L3 : Aside (Ints w3 px1 (boxL ds l1 l2)) := L2.out.keep hb3
  have H3 : Aside (Ints w3 px2 (boxH ds l1 l2)) := H2.out.keep hb3
  clear hb3 N1_2 N2_2 N3_2 N4_2 N5_2 B2 D2 L2 H2
  have F3 : Aside (Ints w3 py1 (boxL ds l3 l4)) := i1
  have U3 : Aside (Ints w3 py2 (boxH ds l3 l4)) := i2
  clear i1 i2
  go_wp2_with fail
  refine (key_made _ a5 n cx n5 c5 ds l5 w3 D3.out HN.out.1 hx4 N5_3.out HN.out.2).mono ?_
  rintro e w4 ⟨v, rfl, hres⟩
  obtain ⟨⟨pk, qk, rfl, ik, -⟩, hbx⟩ := hres
  have hb4 : Below w3.heap.size w3 w4 := hbx
  have N1_4 : Aside (Nums .u16 w4 a1 n1 c1 l1) := N1_3.out.keep hb4
  have N2_4 : Aside (Nums .u16 w4 a2 n2 c2 l2) := N2_3.out.keep hb4
  have N3_4 : Aside (Nums .u16 w4 a3 n3 c3 l3) := N3_3.out.keep hb4
  have N4_4 : Aside (Nums .u16 w4 a4 n4 c4 l4) := N4_3.out.keep hb4
  have N5_4 : Aside (Nums .u16 w4 a5 n5 c5 l5) := N5_3.out.keep hb4
  have B4 : Aside (Below w.heap.size w w4) := B3.out.trans (hb4.mono B3.out.size)
  have D4 : Aside (DimsIn w4 (some ⟨gx, 0, none⟩) ds) := D3.out.keep hb4
  have L4 : Aside (Ints w4 px1 (boxL ds l1 l2)) := L3.out.keep hb4
  have H4 : Aside (Ints w4 px2 (boxH ds l1 l2)) := H3.out.keep hb4
  have F4 : Aside (Ints w4 py1 (boxL ds l3 l4)) := F3.out.keep hb4
  have U4 : Aside (Ints w4 py2 (boxH ds l3 l4)) := U3.out.keep hb4
  clear hb4 N1_3 N2_3 N3_3 N4_3 N5_3 B3 D3 L3 H3 F3 U3
  have K4 : Aside (Ints w4 pk (keyL ds l5)) := ik
  have E : Aside ((boxL ds l1 l2).length = n ∧ (boxH ds l1 l2).length = n ∧ (boxL ds l3 l4).length = n ∧ (boxH ds l3 l4).length = n ∧ (keyL ds l5).length = n) := ⟨by rw [boxL_len, HN.out.1], by rw [boxH_len, HN.out.1], by rw [boxL_len, HN.out.1], by rw [boxH_len, HN.out.1], by rw [keyL_len, HN.out.1]⟩
  clear ik D4 HN N1_4 N2_4 N3_4 N4_4 N5_4
  generalize boxL ds l1 l2 = lo at L4 H4 F4 U4 K4 E
  generalize boxH ds l1 l2 = up at L4 H4 F4 U4 K4 E
  generalize boxL ds l3 l4 = fr at L4 H4 F4 U4 K4 E
  generalize boxH ds l3 l4 = un at L4 H4 F4 U4 K4 E
  generalize keyL ds l5 = ky at L4 H4 F4 U4 K4 E
  rcases both_cases (both_meet E.out.1 E.out.2.1 E.out.2.2.1 E.out.2.2.2.1 E.out.2.2.2.2) with ⟨z1, zm⟩ | ⟨z1, zm, z3⟩ | ⟨z1, z2, zm⟩ | ⟨z1, z2, zm, z3⟩ | ⟨z1, z2, zm, z3⟩
  · have Z1 : Hid (wtn lo up ky = false) := z1
    have ZM : Hid (mt lo up fr un = false) := zm
    clear z1 zm
    go_wp2_with fail
    refine (meet_out _ _ _ _ n n n n qx1 qx2 qy1 qy2 0 false lo up fr un [] [] w4 L4.out E.out.1 H4.out E.out.2.1 F4.out E.out.2.2.1 U4.out E.out.2.2.2.1 (by omega) ZM.out (mtL_no ZM.out) (mtH_no ZM.out) rfl rfl).mono ?_
    rintro e w5 ⟨t, rfl, hres⟩
    obtain ⟨⟨pm1, qm1, pm2, qm2, rfl, -, -⟩, hbx⟩ := hres
    have hb5 : Below w4.heap.size w4 w5 := hbx
    have B5 : Aside (Below w.heap.size w w5) := B4.out.trans (hb5.mono B4.out.size)
    have L5 : Aside (Ints w5 px1 lo) := L4.out.keep hb5
    have H5 : Aside (Ints w5 px2 up) := H4.out.keep hb5
    have F5 : Aside (Ints w5 py1 fr) := F4.out.keep hb5
    have U5 : Aside (Ints w5 py2 un) := U4.out.keep hb5
    have K5 : Aside (Ints w5 pk ky) := K4.out.keep hb5
    clear hb5 B4 L4 H4 F4 U4 K4
    go_wp2_with fail
    refine (within_val _ _ _ n n n qx1 qx2 qk lo up ky false w5 L5.out E.out.1 H5.out E.out.2.1 K5.out E.out.2.2.2.2 (by omega) Z1.out).mono ?_
    rintro e w6 ⟨rfl, hbx⟩
    have hb6 : Below w5.heap.size w5 w6 := hbx
    have B6 : Aside (Below w.heap.size w w6) := B5.out.trans (hb6.mono B5.out.size)
    have L6 : Aside (Ints w6 px1 lo) := L5.out.keep hb6
    have H6 : Aside (Ints w6 px2 up) := H5.out.keep hb6
    have F6 : Aside (Ints w6 py1 fr) := F5.out.keep hb6
    have U6 : Aside (Ints w6 py2 un) := U5.out.keep hb6
    have K6 : Aside (Ints w6 pk ky) := K5.out.keep hb6
    clear hb6 B5 L5 H5 F5 U5 K5
    go_wp2_with fail
    refine (known_any _).mono ?_
    rintro e w7 ⟨rfl, hbx⟩
    have hb7 : Below w6.heap.size w6 w7 := hbx
    have B7 : Aside (Below w.heap.size w w7) := B6.out.trans (hb7.mono B6.out.size)
    have L7 : Aside (Ints w7 px1 lo) := L6.out.keep hb7
    have H7 : Aside (Ints w7 px2 up) := H6.out.keep hb7
    have F7 : Aside (Ints w7 py1 fr) := F6.out.keep hb7
    have U7 : Aside (Ints w7 py2 un) := U6.out.keep hb7
    have K7 : Aside (Ints w7 pk ky) := K6.out.keep hb7
    clear hb7 B6 L6 H6 F6 U6 K6
    go_wp2
    go_ret
    exact ⟨rfl, B7.out⟩
  · have Z1 : Hid (wtn lo up ky = false) := z1
    have Z3 : Hid (wtn (mtL lo up fr un) (mtH lo up fr un) ky = false) := z3
    have ZM : Hid (mt lo up fr un = true) := zm
    clear z1 zm z3
    have ZL : Aside ((mtL lo up fr un).length = n ∧ (mtH lo up fr un).length = n) := ⟨by rw [mtL_len ZM.out]; exact E.out.1, by rw [mtH_len ZM.out]; exact E.out.2.1⟩
    go_wp2_with fail
    refine (meet_out _ _ _ _ n n n n qx1 qx2 qy1 qy2 n true lo up fr un (mtL lo up fr un) (mtH lo up fr un) w4 L4.out E.out.1 H4.out E.out.2.1 F4.out E.out.2.2.1 U4.out E.out.2.2.2.1 (by omega) ZM.out rfl rfl ZL.out.1 ZL.out.2).mono ?_
    rintro e w5 ⟨t, rfl, hres⟩
    obtain ⟨⟨pm1, qm1, pm2, qm2, rfl, i1, i2⟩, hbx⟩ := hres
    have hb5 : Below w4.heap.size w4 w5 := hbx
    have B5 : Aside (Below w.heap.size w w5) := B4.out.trans (hb5.mono B4.out.size)
    have L5 : Aside (Ints w5 px1 lo) := L4.out.keep hb5
    have H5 : Aside (Ints w5 px2 up) := H4.out.keep hb5
    have F5 : Aside (Ints w5 py1 fr) := F4.out.keep hb5
    have U5 : Aside (Ints w5 py2 un) := U4.out.keep hb5
    have K5 : Aside (Ints w5 pk ky) := K4.out.keep hb5
    clear hb5 B4 L4 H4 F4 U4 K4
    have X5 : Aside (Ints w5 pm1 (mtL lo up fr un)) := i1
    have Y5 : Aside (Ints w5 pm2 (mtH lo up fr un)) := i2
    clear i1 i2
    go_wp2_with fail
    refine (within_val _ _ _ n n n qx1 qx2 qk lo up ky false w5 L5.out E.out.1 H5.out E.out.2.1 K5.out E.out.2.2.2.2 (by omega) Z1.out).mono ?_
    rintro e w6 ⟨rfl, hbx⟩
    have hb6 : Below w5.heap.size w5 w6 := hbx
    have B6 : Aside (Below w.heap.size w w6) := B5.out.trans (hb6.mono B5.out.size)
    have L6 : Aside (Ints w6 px1 lo) := L5.out.keep hb6
    have H6 : Aside (Ints w6 px2 up) := H5.out.keep hb6
    have F6 : Aside (Ints w6 py1 fr) := F5.out.keep hb6
    have U6 : Aside (Ints w6 py2 un) := U5.out.keep hb6
    have K6 : Aside (Ints w6 pk ky) := K5.out.keep hb6
    have X6 : Aside (Ints w6 pm1 (mtL lo up fr un)) := X5.out.keep hb6
    have Y6 : Aside (Ints w6 pm2 (mtH lo up fr un)) := Y5.out.keep hb6
    clear hb6 B5 L5 H5 F5 U5 K5 X5 Y5
    go_wp2_with fail
    refine (known_any _).mono ?_
    rintro e w7 ⟨rfl, hbx⟩
    have hb7 : Below w6.heap.size w6 w7 := hbx
    have B7 : Aside (Below w.heap.size w w7) := B6.out.trans (hb7.mono B6.out.size)
    have L7 : Aside (Ints w7 px1 lo) := L6.out.keep hb7
    have H7 : Aside (Ints w7 px2 up) := H6.out.keep hb7
    have F7 : Aside (Ints w7 py1 fr) := F6.out.keep hb7
    have U7 : Aside (Ints w7 py2 un) := U6.out.keep hb7
    have K7 : Aside (Ints w7 pk ky) := K6.out.keep hb7
    have X7 : Aside (Ints w7 pm1 (mtL lo up fr un)) := X6.out.keep hb7
    have Y7 : Aside (Ints w7 pm2 (mtH lo up fr un)) := Y6.out.keep hb7
    clear hb7 B6 L6 H6 F6 U6 K6 X6 Y6
    go_wp2_with fail
    refine (within_val _ _ _ n n n qm1 qm2 qk (mtL lo up fr un) (mtH lo up fr un) ky false w7 X7.out ZL.out.1 Y7.out ZL.out.2 K7.out E.out.2.2.2.2 (by omega) Z3.out).mono ?_
    rintro e w8 ⟨rfl, hbx⟩
    have hb8 : Below w7.heap.size w7 w8 := hbx
    have B8 : Aside (Below w.heap.size w w8) := B7.out.trans (hb8.mono B7.out.size)
    have L8 : Aside (Ints w8 px1 lo) := L7.out.keep hb8
    have H8 : Aside (Ints w8 px2 up) := H7.out.keep hb8
    have F8 : Aside (Ints w8 py1 fr) := F7.out.keep hb8
    have U8 : Aside (Ints w8 py2 un) := U7.out.keep hb8
    have K8 : Aside (Ints w8 pk ky) := K7.out.keep hb8
    have X8 : Aside (Ints w8 pm1 (mtL lo up fr un)) := X7.out.keep hb8
    have Y8 : Aside (Ints w8 pm2 (mtH lo up fr un)) := Y7.out.keep hb8
    clear hb8 B7 L7 H7 F7 U7 K7 X7 Y7
    go_wp2
    go_ret
    exact ⟨rfl, B8.out⟩
  · have Z1 : Hid (wtn lo up ky = true) := z1
    have Z2 : Hid (wtn fr un ky = false) := z2
    have ZM : Hid (mt lo up fr un = false) := zm
    clear z1 zm z2
    go_wp2_with fail
    refine (meet_out _ _ _ _ n n n n qx1 qx2 qy1 qy2 0 false lo up fr un [] [] w4 L4.out E.out.1 H4.out E.out.2.1 F4.out E.out.2.2.1 U4.out E.out.2.2.2.1 (by omega) ZM.out (mtL_no ZM.out) (mtH_no ZM.out) rfl rfl).mono ?_
    rintro e w5 ⟨t, rfl, hres⟩
    obtain ⟨⟨pm1, qm1, pm2, qm2, rfl, -, -⟩, hbx⟩ := hres
    have hb5 : Below w4.heap.size w4 w5 := hbx
    have B5 : Aside (Below w.heap.size w w5) := B4.out.trans (hb5.mono B4.out.size)
    have L5 : Aside (Ints w5 px1 lo) := L4.out.keep hb5
    have H5 : Aside (Ints w5 px2 up) := H4.out.keep hb5
    have F5 : Aside (Ints w5 py1 fr) := F4.out.keep hb5
    have U5 : Aside (Ints w5 py2 un) := U4.out.keep hb5
    have K5 : Aside (Ints w5 pk ky) := K4.out.keep hb5
    clear hb5 B4 L4 H4 F4 U4 K4
    go_wp2_with fail
    refine (within_val _ _ _ n n n qx1 qx2 qk lo up ky true w5 L5.out E.out.1 H5.out E.out.2.1 K5.out E.out.2.2.2.2 (by omega) Z1.out).mono ?_
    rintro e w6 ⟨rfl, hbx⟩
    have hb6 : Below w5.heap.size w5 w6 := hbx
    have B6 : Aside (Below w.heap.size w w6) := B5.out.trans (hb6.mono B5.out.size)
    have L6 : Aside (Ints w6 px1 lo) := L5.out.keep hb6
    have H6 : Aside (Ints w6 px2 up) := H5.out.keep hb6
    have F6 : Aside (Ints w6 py1 fr) := F5.out.keep hb6
    have U6 : Aside (Ints w6 py2 un) := U5.out.keep hb6
    have K6 : Aside (Ints w6 pk ky) := K5.out.keep hb6
    clear hb6 B5 L5 H5 F5 U5 K5
    go_wp2_with fail
    refine (within_val _ _ _ n n n qy1 qy2 qk fr un ky false w6 F6.out E.out.2.2.1 U6.out E.out.2.2.2.1 K6.out E.out.2.2.2.2 (by omega) Z2.out).mono ?_
    rintro e w7 ⟨rfl, hbx⟩
    have hb7 : Below w6.heap.size w6 w7 := hbx
    have B7 : Aside (Below w.heap.size w w7) := B6.out.trans (hb7.mono B6.out.size)
    have L7 : Aside (Ints w7 px1 lo) := L6.out.keep hb7
    have H7 : Aside (Ints w7 px2 up) := H6.out.keep hb7
    have F7 : Aside (Ints w7 py1 fr) := F6.out.keep hb7
    have U7 : Aside (Ints w7 py2 un) := U6.out.keep hb7
    have K7 : Aside (Ints w7 pk ky) := K6.out.keep hb7
    clear hb7 B6 L6 H6 F6 U6 K6
    go_wp2_with fail
    refine (known_any _).mono ?_
    rintro e w8 ⟨rfl, hbx⟩
    have hb8 : Below w7.heap.size w7 w8 := hbx
    have B8 : Aside (Below w.heap.size w w8) := B7.out.trans (hb8.mono B7.out.size)
    have L8 : Aside (Ints w8 px1 lo) := L7.out.keep hb8
    have H8 : Aside (Ints w8 px2 up) := H7.out.keep hb8
    have F8 : Aside (Ints w8 py1 fr) := F7.out.keep hb8
    have U8 : Aside (Ints w8 py2 un) := U7.out.keep hb8
    have K8 : Aside (Ints w8 pk ky) := K7.out.keep hb8
    clear hb8 B7 L7 H7 F7 U7 K7
    go_wp2
    go_ret
    exact ⟨rfl, B8.out⟩
  · have Z1 : Hid (wtn lo up ky = true) := z1
    have Z2 : Hid (wtn fr un ky = false) := z2
    have Z3 : Hid (wtn (mtL lo up fr un) (mtH lo up fr un) ky = false) := z3
    have ZM : Hid (mt lo up fr un = true) := zm
    clear z1 zm z2 z3
    have ZL : Aside ((mtL lo up fr un).length = n ∧ (mtH lo up fr un).length = n) := ⟨by rw [mtL_len ZM.out]; exact E.out.1, by rw [mtH_len ZM.out]; exact E.out.2.1⟩
    go_wp2_with fail
    refine (meet_out _ _ _ _ n n n n qx1 qx2 qy1 qy2 n true lo up fr un (mtL lo up fr un) (mtH lo up fr un) w4 L4.out E.out.1 H4.out E.out.2.1 F4.out E.out.2.2.1 U4.out E.out.2.2.2.1 (by omega) ZM.out rfl rfl ZL.out.1 ZL.out.2).mono ?_
    rintro e w5 ⟨t, rfl, hres⟩
    obtain ⟨⟨pm1, qm1, pm2, qm2, rfl, i1, i2⟩, hbx⟩ := hres
    have hb5 : Below w4.heap.size w4 w5 := hbx
    have B5 : Aside (Below w.heap.size w w5) := B4.out.trans (hb5.mono B4.out.size)
    have L5 : Aside (Ints w5 px1 lo) := L4.out.keep hb5
    have H5 : Aside (Ints w5 px2 up) := H4.out.keep hb5
    have F5 : Aside (Ints w5 py1 fr) := F4.out.keep hb5
    have U5 : Aside (Ints w5 py2 un) := U4.out.keep hb5
    have K5 : Aside (Ints w5 pk ky) := K4.out.keep hb5
    clear hb5 B4 L4 H4 F4 U4 K4
    have X5 : Aside (Ints w5 pm1 (mtL lo up fr un)) := i1
    have Y5 : Aside (Ints w5 pm2 (mtH lo up fr un)) := i2
    clear i1 i2
    go_wp2_with fail
    refine (within_val _ _ _ n n n qx1 qx2 qk lo up ky true w5 L5.out E.out.1 H5.out E.out.2.1 K5.out E.out.2.2.2.2 (by omega) Z1.out).mono ?_
    rintro e w6 ⟨rfl, hbx⟩
    have hb6 : Below w5.heap.size w5 w6 := hbx
    have B6 : Aside (Below w.heap.size w w6) := B5.out.trans (hb6.mono B5.out.size)
    have L6 : Aside (Ints w6 px1 lo) := L5.out.keep hb6
    have H6 : Aside (Ints w6 px2 up) := H5.out.keep hb6
    have F6 : Aside (Ints w6 py1 fr) := F5.out.keep hb6
    have U6 : Aside (Ints w6 py2 un) := U5.out.keep hb6
    have K6 : Aside (Ints w6 pk ky) := K5.out.keep hb6
    have X6 : Aside (Ints w6 pm1 (mtL lo up fr un)) := X5.out.keep hb6
    have Y6 : Aside (Ints w6 pm2 (mtH lo up fr un)) := Y5.out.keep hb6
    clear hb6 B5 L5 H5 F5 U5 K5 X5 Y5
    go_wp2_with fail
    refine (within_val _ _ _ n n n qy1 qy2 qk fr un ky false w6 F6.out E.out.2.2.1 U6.out E.out.2.2.2.1 K6.out E.out.2.2.2.2 (by omega) Z2.out).mono ?_
    rintro e w7 ⟨rfl, hbx⟩
    have hb7 : Below w6.heap.size w6 w7 := hbx
    have B7 : Aside (Below w.heap.size w w7) := B6.out.trans (hb7.mono B6.out.size)
    have L7 : Aside (Ints w7 px1 lo) := L6.out.keep hb7
    have H7 : Aside (Ints w7 px2 up) := H6.out.keep hb7
    have F7 : Aside (Ints w7 py1 fr) := F6.out.keep hb7
    have U7 : Aside (Ints w7 py2 un) := U6.out.keep hb7
    have K7 : Aside (Ints w7 pk ky) := K6.out.keep hb7
    have X7 : Aside (Ints w7 pm1 (mtL lo up fr un)) := X6.out.keep hb7
    have Y7 : Aside (Ints w7 pm2 (mtH lo up fr un)) := Y6.out.keep hb7
    clear hb7 B6 L6 H6 F6 U6 K6 X6 Y6
    go_wp2_with fail
    refine (known_any _).mono ?_
    rintro e w8 ⟨rfl, hbx⟩
    have hb8 : Below w7.heap.size w7 w8 := hbx
    have B8 : Aside (Below w.heap.size w w8) := B7.out.trans (hb8.mono B7.out.size)
    have L8 : Aside (Ints w8 px1 lo) := L7.out.keep hb8
    have H8 : Aside (Ints w8 px2 up) := H7.out.keep hb8
    have F8 : Aside (Ints w8 py1 fr) := F7.out.keep hb8
    have U8 : Aside (Ints w8 py2 un) := U7.out.keep hb8
    have K8 : Aside (Ints w8 pk ky) := K7.out.keep hb8
    have X8 : Aside (Ints w8 pm1 (mtL lo up fr un)) := X7.out.keep hb8
    have Y8 : Aside (Ints w8 pm2 (mtH lo up fr un)) := Y7.out.keep hb8
    clear hb8 B7 L7 H7 F7 U7 K7 X7 Y7
    go_wp2_with fail
    refine (within_val _ _ _ n n n qm1 qm2 qk (mtL lo up fr un) (mtH lo up fr un) ky false w8 X8.out ZL.out.1 Y8.out ZL.out.2 K8.out E.out.2.2.2.2 (by omega) Z3.out).mono ?_
    rintro e w9 ⟨rfl, hbx⟩
    have hb9 : Below w8.heap.size w8 w9 := hbx
    have B9 : Aside (Below w.heap.size w w9) := B8.out.trans (hb9.mono B8.out.size)
    have L9 : Aside (Ints w9 px1 lo) := L8.out.keep hb9
    have H9 : Aside (Ints w9 px2 up) := H8.out.keep hb9
    have F9 : Aside (Ints w9 py1 fr) := F8.out.keep hb9
    have U9 : Aside (Ints w9 py2 un) := U8.out.keep hb9
    have K9 : Aside (Ints w9 pk ky) := K8.out.keep hb9
    have X9 : Aside (Ints w9 pm1 (mtL lo up fr un)) := X8.out.keep hb9
    have Y9 : Aside (Ints w9 pm2 (mtH lo up fr un)) := Y8.out.keep hb9
    clear hb9 B8 L8 H8 F8 U8 K8 X8 Y8
    go_wp2
    go_ret
    exact ⟨rfl, B9.out⟩
  · have Z1 : Hid (wtn lo up ky = true) := z1
    have Z2 : Hid (wtn fr un ky = true) := z2
    have Z3 : Hid (wtn (mtL lo up fr un) (mtH lo up fr un) ky = true) := z3
    have ZM : Hid (mt lo up fr un = true) := zm
    clear z1 zm z2 z3
    have ZL : Aside ((mtL lo up fr un).length = n ∧ (mtH lo up fr un).length = n) := ⟨by rw [mtL_len ZM.out]; exact E.out.1, by rw [mtH_len ZM.out]; exact E.out.2.1⟩
    go_wp2_with fail
    refine (meet_out _ _ _ _ n n n n qx1 qx2 qy1 qy2 n true lo up fr un (mtL lo up fr un) (mtH lo up fr un) w4 L4.out E.out.1 H4.out E.out.2.1 F4.out E.out.2.2.1 U4.out E.out.2.2.2.1 (by omega) ZM.out rfl rfl ZL.out.1 ZL.out.2).mono ?_
    rintro e w5 ⟨t, rfl, hres⟩
    obtain ⟨⟨pm1, qm1, pm2, qm2, rfl, i1, i2⟩, hbx⟩ := hres
    have hb5 : Below w4.heap.size w4 w5 := hbx
    have B5 : Aside (Below w.heap.size w w5) := B4.out.trans (hb5.mono B4.out.size)
    have L5 : Aside (Ints w5 px1 lo) := L4.out.keep hb5
    have H5 : Aside (Ints w5 px2 up) := H4.out.keep hb5
    have F5 : Aside (Ints w5 py1 fr) := F4.out.keep hb5
    have U5 : Aside (Ints w5 py2 un) := U4.out.keep hb5
    have K5 : Aside (Ints w5 pk ky) := K4.out.keep hb5
    clear hb5 B4 L4 H4 F4 U4 K4
    have X5 : Aside (Ints w5 pm1 (mtL lo up fr un)) := i1
    have Y5 : Aside (Ints w5 pm2 (mtH lo up fr un)) := i2
    clear i1 i2
    go_wp2_with fail
    refine (within_val _ _ _ n n n qx1 qx2 qk lo up ky true w5 L5.out E.out.1 H5.out E.out.2.1 K5.out E.out.2.2.2.2 (by omega) Z1.out).mono ?_
    rintro e w6 ⟨rfl, hbx⟩
    have hb6 : Below w5.heap.size w5 w6 := hbx
    have B6 : Aside (Below w.heap.size w w6) := B5.out.trans (hb6.mono B5.out.size)
    have L6 : Aside (Ints w6 px1 lo) := L5.out.keep hb6
    have H6 : Aside (Ints w6 px2 up) := H5.out.keep hb6
    have F6 : Aside (Ints w6 py1 fr) := F5.out.keep hb6
    have U6 : Aside (Ints w6 py2 un) := U5.out.keep hb6
    have K6 : Aside (Ints w6 pk ky) := K5.out.keep hb6
    have X6 : Aside (Ints w6 pm1 (mtL lo up fr un)) := X5.out.keep hb6
    have Y6 : Aside (Ints w6 pm2 (mtH lo up fr un)) := Y5.out.keep hb6
    clear hb6 B5 L5 H5 F5 U5 K5 X5 Y5
    go_wp2_with fail
    refine (within_val _ _ _ n n n qy1 qy2 qk fr un ky true w6 F6.out E.out.2.2.1 U6.out E.out.2.2.2.1 K6.out E.out.2.2.2.2 (by omega) Z2.out).mono ?_
    rintro e w7 ⟨rfl, hbx⟩
    have hb7 : Below w6.heap.size w6 w7 := hbx
    have B7 : Aside (Below w.heap.size w w7) := B6.out.trans (hb7.mono B6.out.size)
    have L7 : Aside (Ints w7 px1 lo) := L6.out.keep hb7
    have H7 : Aside (Ints w7 px2 up) := H6.out.keep hb7
    have F7 : Aside (Ints w7 py1 fr) := F6.out.keep hb7
    have U7 : Aside (Ints w7 py2 un) := U6.out.keep hb7
    have K7 : Aside (Ints w7 pk ky) := K6.out.keep hb7
    have X7 : Aside (Ints w7 pm1 (mtL lo up fr un)) := X6.out.keep hb7
    have Y7 : Aside (Ints w7 pm2 (mtH lo up fr un)) := Y6.out.keep hb7
    clear hb7 B6 L6 H6 F6 U6 K6 X6 Y6
    go_wp2_with fail
    refine (known_any _).mono ?_
    rintro e w8 ⟨rfl, hbx⟩
    have hb8 : Below w7.heap.size w7 w8 := hbx
    have B8 : Aside (Below w.heap.size w w8) := B7.out.trans (hb8.mono B7.out.size)
    have L8 : Aside (Ints w8 px1 lo) := L7.out.keep hb8
    have H8 : Aside (Ints w8 px2 up) := H7.out.keep hb8
    have F8 : Aside (Ints w8 py1 fr) := F7.out.keep hb8
    have U8 : Aside (Ints w8 py2 un) := U7.out.keep hb8
    have K8 : Aside (Ints w8 pk ky) := K7.out.keep hb8
    have X8 : Aside (Ints w8 pm1 (mtL lo up fr un)) := X7.out.keep hb8
    have Y8 : Aside (Ints w8 pm2 (mtH lo up fr un)) := Y7.out.keep hb8
    clear hb8 B7 L7 H7 F7 U7 K7 X7 Y7
    go_wp2_with fail
    refine (within_val _ _ _ n n n qm1 qm2 qk (mtL lo up fr un) (mtH lo up fr un) ky true w8 X8.out ZL.out.1 Y8.out ZL.out.2 K8.out E.out.2.2.2.2 (by omega) Z3.out).mono ?_
    rintro e w9 ⟨rfl, hbx⟩
    have hb9 : Below w8.heap.size w8 w9 := hbx
    have B9 : Aside (Below w.heap.size w w9) := B8.out.trans (hb9.mono B8.out.size)
    have L9 : Aside (Ints w9 px1 lo) := L8.out.keep hb9
    have H9 : Aside (Ints w9 px2 up) := H8.out.keep hb9
    have F9 : Aside (Ints w9 py1 fr) := F8.out.keep hb9
    have U9 : Aside (Ints w9 py2 un) := U8.out.keep hb9
    have K9 : Aside (Ints w9 pk ky) := K8.out.keep hb9
    have X9 : Aside (Ints w9 pm1 (mtL lo up fr un)) := X8.out.keep hb9
    have Y9 : Aside (Ints w9 pm2 (mtH lo up fr un)) := Y8.out.keep hb9
    clear hb9 B8 L8 H8 F8 U8 K8 X8 Y8
    go_wp2
    go_ret
    exact ⟨rfl, B9.out⟩
end Go.Proofs.Ythbjfbkjbggkbaa.dice
