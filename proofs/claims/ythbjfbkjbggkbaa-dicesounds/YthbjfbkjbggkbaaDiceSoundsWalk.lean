/-
  The walk of DiceSounds: of whatever dimensions, lists and choices the call answers true.
-/
import Derived.Test.YthbjfbkjbggkbaaDiceOf
namespace Go.Proofs.Ythbjfbkjbggkbaa.dice
open Go.ChangeShapes Go.WideShapes Go.ChangeAt Go.RowKit Go.Deep
open Go.Proofs.Ythbjfbkjbggkbaa.dims
set_option linter.unusedVariables false
set_option maxRecDepth 100000

theorem heavy3 (bb : Nat) (a1 a2 a3 : Option Addr) (n1 n2 n3 c1 c2 c3 : Nat) (w : World) (h0 : w.cell? ⟨bb, 0, none⟩ = some (.slice a1 n1 c1)) (h1 : w.cell? ⟨bb, 1, none⟩ = some (.slice a2 n2 c2)) (h2 : w.cell? ⟨bb, 2, none⟩ = some (.slice a3 n3 c3)) :
    Calls Try.prog 16 #[.slice (some ⟨bb, 0, none⟩) 3 3] w fun e w' => (e = .returned (.bool true) ∨ (e = .returned (.bool false) ∧ n1 ≤ 100 ∧ n2 ≤ 100 ∧ n3 ≤ 100)) ∧ w' = w := by
  refine (heavy_any bb 3 (fun i => if i = 0 then a1 else if i = 1 then a2 else a3) (fun i => if i = 0 then n1 else if i = 1 then n2 else n3) (fun i => if i = 0 then c1 else if i = 1 then c2 else c3) w (by omega) ?_).mono ?_
  · intro i hi
    match i, hi with
    | 0, _ => simpa using h0
    | 1, _ => simpa using h1
    | 2, _ => simpa using h2
  · rintro e w1 ⟨h | ⟨h, hL⟩, rfl⟩
    · exact ⟨.inl h, rfl⟩
    · exact ⟨.inr ⟨h, by simpa using hL 0 (by omega), by simpa using hL 1 (by omega), by simpa using hL 2 (by omega)⟩, rfl⟩

theorem made_box {ds : List Dm} {ch dh : List Int} {n : Nat} (hn : ds.length = n) (h1 : 1 ≤ n) (hs : ∀ i, i < n → 1 ≤ (dn ds i).sz ∧ (dn ds i).sz ≤ 10000) :
    bx ds (boxL ds ch dh) (boxH ds ch dh) = true ∧ wtn (boxL ds ch dh) (boxH ds ch dh) (boxL ds ch dh) = true ∧ wtn (boxL ds ch dh) (boxH ds ch dh) (boxH ds ch dh) = false := by
  refine ⟨bx_true (boxL_len _ _ _) (boxH_len _ _ _) fun i hi => ?_, wtn_iff.2 ⟨rfl, by rw [boxL_len, boxH_len], fun i hi => ?_⟩, ?_⟩
  · obtain ⟨p, q, r⟩ := box_at (ch := ch) (dh := dh) hn hs (i := i) (by omega)
    unfold bxAt
    rw [decide_eq_true p, decide_eq_true (Int.le_of_lt q), decide_eq_true r]; rfl
  · rw [boxL_len] at hi
    obtain ⟨p, q, r⟩ := box_at (ch := ch) (dh := dh) hn hs (i := i) (by omega)
    exact ⟨Int.le_refl _, q⟩
  · refine wtn_at (i := 0) (by rw [boxH_len]; omega) ?_
    unfold inAt
    rw [decide_eq_false (p := nth (boxH ds ch dh) 0 < nth (boxH ds ch dh) 0) (by omega)]
    simp

set_option maxHeartbeats 16000000 in
theorem sounds_walk (a a1 a2 a3 am a4 a5 : Option Addr) (nd cd n1 c1 n2 c2 n3 c3 nm cm n4 c4 n5 c5 : Nat) (xs cs : List Dm) (l1 l2 l3 l4 l5 : List Int) (w : World) (pD : Pairs .i64 .i64 w a xs) (pd : xs.length = nd ∧ nd ≤ cd ∧ cd ≤ maxLen) (p1 : Nums .i64 w a1 n1 c1 l1) (p2 : Nums .i64 w a2 n2 c2 l2) (p3 : Nums .i64 w a3 n3 c3 l3) (pM : Pairs .u16 .u8 w am cs) (pm : cs.length = nm ∧ nm ≤ cm ∧ cm ≤ maxLen) (p4 : Nums .u16 w a4 n4 c4 l4) (p5 : Nums .u16 w a5 n5 c5 l5) :
    Calls Try.prog 4 #[.slice a nd cd, .slice a1 n1 c1, .slice a2 n2 c2, .slice a3 n3 c3, .slice am nm cm, .slice a4 n4 c4, .slice a5 n5 c5] w fun e w' => e = .returned (.bool true) ∧ Below w.heap.size w w' := by
  have hm2 : nm ≤ 9223372036854775807 := Nat.le_trans pm.2.1 (Nat.le_trans pm.2.2 maxLen_le)
  have hd2 : nd ≤ 9223372036854775807 := Nat.le_trans pd.2.1 (Nat.le_trans pd.2.2 maxLen_le)
  have HX : Aside (DimsIn w a xs) := pD.dims
  have HM : Aside (Pairs .u16 .u8 w am cs) := pM
  have E : Aside (xs.length = nd ∧ cs.length = nm ∧ l1.length = n1 ∧ l2.length = n2 ∧ l3.length = n3) := ⟨pd.1, pm.1, p1.eln, p2.eln, p3.eln⟩
  have H1 : Aside (Ints w a1 l1) := p1.ints
  have H2 : Aside (Ints w a2 l2) := p2.ints
  have H3 : Aside (Ints w a3 l3) := p3.ints
  have H4 : Aside (Nums .u16 w a4 n4 c4 l4) := p4
  have H5 : Aside (Nums .u16 w a5 n5 c5 l5) := p5
  clear pD pd pM pm p1 p2 p3 p4 p5
  go_enter Try.func4, Try.ntmps4
  go_wp2_with fail
  refine (heavy3 w.heap.size a1 a2 a3 n1 n2 n3 c1 c2 c3 _ (by simp [go_sem]) (by simp [go_sem]) (by simp [go_sem])).mono ?_
  have BB : Aside (Below w.heap.size w (w.alloc (.cells #[.slice a1 n1 c1, .slice a2 n2 c2, .slice a3 n3 c3] 26))) := (Below.refl _ _).alloc (Nat.le_refl _) _
  generalize w.alloc (.cells #[.slice a1 n1 c1, .slice a2 n2 c2, .slice a3 n3 c3] 26) = wg at BB ⊢
  rintro e w1 ⟨rfl | ⟨rfl, m1, m2, m3⟩, rfl⟩
  · go_wp2_with fail
    refine (known_any _).mono ?_
    rintro e w2 ⟨rfl, hb2⟩
    have B2 : Aside (Below w.heap.size w w2) := BB.out.trans (hb2.mono BB.out.size)
    clear hb2
    go_wp2
    go_ret
    exact ⟨rfl, B2.out⟩
  by_cases g : (100 : Int) < (nd : Int)
  · go_wp2_with fail
    refine (known_any _).mono ?_
    rintro e w2 ⟨rfl, hb2⟩
    have B2 : Aside (Below w.heap.size w w2) := BB.out.trans (hb2.mono BB.out.size)
    clear hb2
    go_wp2
    go_ret
    exact ⟨rfl, B2.out⟩
  have B1 : Aside (Below w.heap.size w w1) := BB
  have X1 : Aside (DimsIn w1 a xs) := HX.out.keep BB.out
  have M1 : Aside (Pairs .u16 .u8 w1 am cs) := HM.out.keep BB.out
  have R1 : Aside (Ints w1 a1 l1) := H1.out.keep BB.out
  have S1 : Aside (Ints w1 a2 l2) := H2.out.keep BB.out
  have T1 : Aside (Ints w1 a3 l3) := H3.out.keep BB.out
  have P1 : Aside (Nums .u16 w1 a4 n4 c4 l4) := H4.out.keep BB.out
  have Q1 : Aside (Nums .u16 w1 a5 n5 c5 l5) := H5.out.keep BB.out
  clear BB HX HM H1 H2 H3 H4 H5
  go_wp2_with fail
  refine (known_any _).mono ?_
  rintro e w2 ⟨rfl, hbx⟩
  have hb2 : Below w1.heap.size w1 w2 := hbx
  have X2 : Aside (DimsIn w2 a xs) := X1.out.keep hb2
  have M2 : Aside (Pairs .u16 .u8 w2 am cs) := M1.out.keep hb2
  have R2 : Aside (Ints w2 a1 l1) := R1.out.keep hb2
  have S2 : Aside (Ints w2 a2 l2) := S1.out.keep hb2
  have T2 : Aside (Ints w2 a3 l3) := T1.out.keep hb2
  have P2 : Aside (Nums .u16 w2 a4 n4 c4 l4) := P1.out.keep hb2
  have Q2 : Aside (Nums .u16 w2 a5 n5 c5 l5) := Q1.out.keep hb2
  have B2 : Aside (Below w.heap.size w w2) := B1.out.trans (hb2.mono B1.out.size)
  clear hb2 X1 M1 R1 S1 T1 P1 Q1 B1
  go_wp2_with fail
  refine (of_made am nm cm cs w2 M2.out E.out.2.1 hm2).mono ?_
  rintro e w3 ⟨v1, rfl, hres⟩
  obtain ⟨ds, gx, n, cx, rfl, hn, hX, hx1, hx4, hs, hbx⟩ := hres
  have hb3 : Below w2.heap.size w2 w3 := hbx
  have X3 : Aside (DimsIn w3 a xs) := X2.out.keep hb3
  have M3 : Aside (Pairs .u16 .u8 w3 am cs) := M2.out.keep hb3
  have R3 : Aside (Ints w3 a1 l1) := R2.out.keep hb3
  have S3 : Aside (Ints w3 a2 l2) := S2.out.keep hb3
  have T3 : Aside (Ints w3 a3 l3) := T2.out.keep hb3
  have P3 : Aside (Nums .u16 w3 a4 n4 c4 l4) := P2.out.keep hb3
  have Q3 : Aside (Nums .u16 w3 a5 n5 c5 l5) := Q2.out.keep hb3
  have B3 : Aside (Below w.heap.size w w3) := B2.out.trans (hb3.mono B2.out.size)
  clear hb3 X2 M2 R2 S2 T2 P2 Q2 B2
  have D3 : Aside (DimsIn w3 (some ⟨gx, 0, none⟩) ds) := hX
  have HN : Aside (ds.length = n ∧ ∀ i, i < n → 1 ≤ (dn ds i).sz ∧ (dn ds i).sz ≤ 10000) := ⟨hn, hs⟩
  clear hX hn hs M3
  go_wp2_with fail
  refine (box_out _ a4 a5 n cx n4 c4 n5 c5 ds l4 l5 w3 D3.out HN.out.1 hx1 hx4 P3.out Q3.out HN.out.2).mono ?_
  rintro e w4 ⟨t, rfl, hres⟩
  obtain ⟨⟨px1, qx1, px2, qx2, rfl, ⟨i1, -⟩, i2, -⟩, hbx⟩ := hres
  have hb4 : Below w3.heap.size w3 w4 := hbx
  have X4 : Aside (DimsIn w4 a xs) := X3.out.keep hb4
  have R4 : Aside (Ints w4 a1 l1) := R3.out.keep hb4
  have S4 : Aside (Ints w4 a2 l2) := S3.out.keep hb4
  have T4 : Aside (Ints w4 a3 l3) := T3.out.keep hb4
  have P4 : Aside (Nums .u16 w4 a4 n4 c4 l4) := P3.out.keep hb4
  have Q4 : Aside (Nums .u16 w4 a5 n5 c5 l5) := Q3.out.keep hb4
  have B4 : Aside (Below w.heap.size w w4) := B3.out.trans (hb4.mono B3.out.size)
  have D4 : Aside (DimsIn w4 (some ⟨gx, 0, none⟩) ds) := D3.out.keep hb4
  clear hb4 X3 R3 S3 T3 P3 Q3 B3 D3
  have L4 : Aside (Ints w4 px1 (boxL ds l4 l5)) := i1
  have H4 : Aside (Ints w4 px2 (boxH ds l4 l5)) := i2
  have ZL : Aside ((boxL ds l4 l5).length = n ∧ (boxH ds l4 l5).length = n) := ⟨by rw [boxL_len, HN.out.1], by rw [boxH_len, HN.out.1]⟩
  have ZB : Aside (bx ds (boxL ds l4 l5) (boxH ds l4 l5) = true ∧ wtn (boxL ds l4 l5) (boxH ds l4 l5) (boxL ds l4 l5) = true ∧ wtn (boxL ds l4 l5) (boxH ds l4 l5) (boxH ds l4 l5) = false) := made_box HN.out.1 hx1 HN.out.2
  clear i1 i2 P4 Q4
  generalize boxL ds l4 l5 = lo at L4 ZL ZB
  generalize boxH ds l4 l5 = up at H4 ZL ZB
  obtain ⟨r, hr⟩ : ∃ r, bx xs l1 l2 = r := ⟨_, rfl⟩
  have HR : Hid (bx xs l1 l2 = r) := hr
  obtain ⟨t, ht⟩ : ∃ t, wtn l1 l2 l3 = t := ⟨_, rfl⟩
  have HT : Hid (wtn l1 l2 l3 = t) := ht
  clear hr ht
  go_wp2_with fail
  refine (box_val a a1 a2 nd cd n1 n2 c1 c2 xs l1 l2 r w4 X4.out E.out.1 R4.out E.out.2.2.1 S4.out E.out.2.2.2.1 hd2 HR.out).mono ?_
  rintro e w5 ⟨rfl, hbx⟩
  have hb5 : Below w4.heap.size w4 w5 := hbx
  have X5 : Aside (DimsIn w5 a xs) := X4.out.keep hb5
  have R5 : Aside (Ints w5 a1 l1) := R4.out.keep hb5
  have S5 : Aside (Ints w5 a2 l2) := S4.out.keep hb5
  have T5 : Aside (Ints w5 a3 l3) := T4.out.keep hb5
  have B5 : Aside (Below w.heap.size w w5) := B4.out.trans (hb5.mono B4.out.size)
  have D5 : Aside (DimsIn w5 (some ⟨gx, 0, none⟩) ds) := D4.out.keep hb5
  have L5 : Aside (Ints w5 px1 lo) := L4.out.keep hb5
  have H5 : Aside (Ints w5 px2 up) := H4.out.keep hb5
  clear hb5 X4 R4 S4 T4 B4 D4 L4 H4
  go_wp2_with fail
  refine (refBox_val a a1 a2 nd cd n1 n2 c1 c2 xs l1 l2 r w5 X5.out E.out.1 R5.out E.out.2.2.1 S5.out E.out.2.2.2.1 hd2 HR.out).mono ?_
  rintro e w6 ⟨rfl, hbx⟩
  have hb6 : Below w5.heap.size w5 w6 := hbx
  have X6 : Aside (DimsIn w6 a xs) := X5.out.keep hb6
  have R6 : Aside (Ints w6 a1 l1) := R5.out.keep hb6
  have S6 : Aside (Ints w6 a2 l2) := S5.out.keep hb6
  have T6 : Aside (Ints w6 a3 l3) := T5.out.keep hb6
  have B6 : Aside (Below w.heap.size w w6) := B5.out.trans (hb6.mono B5.out.size)
  have D6 : Aside (DimsIn w6 (some ⟨gx, 0, none⟩) ds) := D5.out.keep hb6
  have L6 : Aside (Ints w6 px1 lo) := L5.out.keep hb6
  have H6 : Aside (Ints w6 px2 up) := H5.out.keep hb6
  clear hb6 X5 R5 S5 T5 B5 D5 L5 H5
  go_wp2_with fail
  refine (within_val a1 a2 a3 n1 n2 n3 c1 c2 c3 l1 l2 l3 t w6 R6.out E.out.2.2.1 S6.out E.out.2.2.2.1 T6.out E.out.2.2.2.2 (by omega) HT.out).mono ?_
  rintro e w7 ⟨rfl, hbx⟩
  have hb7 : Below w6.heap.size w6 w7 := hbx
  have X7 : Aside (DimsIn w7 a xs) := X6.out.keep hb7
  have R7 : Aside (Ints w7 a1 l1) := R6.out.keep hb7
  have S7 : Aside (Ints w7 a2 l2) := S6.out.keep hb7
  have T7 : Aside (Ints w7 a3 l3) := T6.out.keep hb7
  have B7 : Aside (Below w.heap.size w w7) := B6.out.trans (hb7.mono B6.out.size)
  have D7 : Aside (DimsIn w7 (some ⟨gx, 0, none⟩) ds) := D6.out.keep hb7
  have L7 : Aside (Ints w7 px1 lo) := L6.out.keep hb7
  have H7 : Aside (Ints w7 px2 up) := H6.out.keep hb7
  clear hb7 X6 R6 S6 T6 B6 D6 L6 H6
  go_wp2_with fail
  refine (refWithin_val a1 a2 a3 n1 n2 n3 c1 c2 c3 l1 l2 l3 t w7 R7.out E.out.2.2.1 S7.out E.out.2.2.2.1 T7.out E.out.2.2.2.2 (by omega) HT.out).mono ?_
  rintro e w8 ⟨rfl, hbx⟩
  have hb8 : Below w7.heap.size w7 w8 := hbx
  have X8 : Aside (DimsIn w8 a xs) := X7.out.keep hb8
  have R8 : Aside (Ints w8 a1 l1) := R7.out.keep hb8
  have S8 : Aside (Ints w8 a2 l2) := S7.out.keep hb8
  have T8 : Aside (Ints w8 a3 l3) := T7.out.keep hb8
  have B8 : Aside (Below w.heap.size w w8) := B7.out.trans (hb8.mono B7.out.size)
  have D8 : Aside (DimsIn w8 (some ⟨gx, 0, none⟩) ds) := D7.out.keep hb8
  have L8 : Aside (Ints w8 px1 lo) := L7.out.keep hb8
  have H8 : Aside (Ints w8 px2 up) := H7.out.keep hb8
  clear hb8 X7 R7 S7 T7 B7 D7 L7 H7
  go_wp2_with fail
  refine (box_val _ _ _ n cx n n qx1 qx2 ds lo up true w8 D8.out HN.out.1 L8.out ZL.out.1 H8.out ZL.out.2 (by omega) ZB.out.1).mono ?_
  rintro e w9 ⟨rfl, hbx⟩
  have hb9 : Below w8.heap.size w8 w9 := hbx
  have X9 : Aside (DimsIn w9 a xs) := X8.out.keep hb9
  have R9 : Aside (Ints w9 a1 l1) := R8.out.keep hb9
  have S9 : Aside (Ints w9 a2 l2) := S8.out.keep hb9
  have T9 : Aside (Ints w9 a3 l3) := T8.out.keep hb9
  have B9 : Aside (Below w.heap.size w w9) := B8.out.trans (hb9.mono B8.out.size)
  have D9 : Aside (DimsIn w9 (some ⟨gx, 0, none⟩) ds) := D8.out.keep hb9
  have L9 : Aside (Ints w9 px1 lo) := L8.out.keep hb9
  have H9 : Aside (Ints w9 px2 up) := H8.out.keep hb9
  clear hb9 X8 R8 S8 T8 B8 D8 L8 H8
  go_wp2_with fail
  refine (within_val _ _ _ n n n qx1 qx2 qx1 lo up lo true w9 L9.out ZL.out.1 H9.out ZL.out.2 L9.out ZL.out.1 (by omega) ZB.out.2.1).mono ?_
  rintro e w10 ⟨rfl, hbx⟩
  have hb10 : Below w9.heap.size w9 w10 := hbx
  have X10 : Aside (DimsIn w10 a xs) := X9.out.keep hb10
  have R10 : Aside (Ints w10 a1 l1) := R9.out.keep hb10
  have S10 : Aside (Ints w10 a2 l2) := S9.out.keep hb10
  have T10 : Aside (Ints w10 a3 l3) := T9.out.keep hb10
  have B10 : Aside (Below w.heap.size w w10) := B9.out.trans (hb10.mono B9.out.size)
  have D10 : Aside (DimsIn w10 (some ⟨gx, 0, none⟩) ds) := D9.out.keep hb10
  have L10 : Aside (Ints w10 px1 lo) := L9.out.keep hb10
  have H10 : Aside (Ints w10 px2 up) := H9.out.keep hb10
  clear hb10 X9 R9 S9 T9 B9 D9 L9 H9
  go_wp2_with fail
  refine (within_val _ _ _ n n n qx1 qx2 qx2 lo up up false w10 L10.out ZL.out.1 H10.out ZL.out.2 H10.out ZL.out.2 (by omega) ZB.out.2.2).mono ?_
  rintro e w11 ⟨rfl, hbx⟩
  have hb11 : Below w10.heap.size w10 w11 := hbx
  have X11 : Aside (DimsIn w11 a xs) := X10.out.keep hb11
  have R11 : Aside (Ints w11 a1 l1) := R10.out.keep hb11
  have S11 : Aside (Ints w11 a2 l2) := S10.out.keep hb11
  have T11 : Aside (Ints w11 a3 l3) := T10.out.keep hb11
  have B11 : Aside (Below w.heap.size w w11) := B10.out.trans (hb11.mono B10.out.size)
  have D11 : Aside (DimsIn w11 (some ⟨gx, 0, none⟩) ds) := D10.out.keep hb11
  have L11 : Aside (Ints w11 px1 lo) := L10.out.keep hb11
  have H11 : Aside (Ints w11 px2 up) := H10.out.keep hb11
  clear hb11 X10 R10 S10 T10 B10 D10 L10 H10
  go_wp2
  go_ret
  exact ⟨rfl, B11.out⟩
end Go.Proofs.Ythbjfbkjbggkbaa.dice
