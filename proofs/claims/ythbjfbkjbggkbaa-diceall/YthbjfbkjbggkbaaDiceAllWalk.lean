/-
  The walk of DiceAll: of whatever choices the call answers true.
-/
import Derived.Test.YthbjfbkjbggkbaaDiceOf
namespace Go.Proofs.Ythbjfbkjbggkbaa.dice
open Go.ChangeShapes Go.WideShapes Go.ChangeAt Go.RowKit Go.Deep
open Go.Proofs.Ythbjfbkjbggkbaa.dims
set_option linter.unusedVariables false
set_option maxRecDepth 100000

def szL (ds : List Dm) : List Int := (List.range ds.length).map fun i => (dn ds i).sz
theorem szL_len (ds : List Dm) : (szL ds).length = ds.length := by simp [szL]
theorem szL_nth (ds : List Dm) {i : Nat} (hi : i < ds.length) : nth (szL ds) i = (dn ds i).sz := by simp [szL, nth, hi]
theorem zero_nth (n i : Nat) : nth (List.replicate n 0) i = 0 := by
  unfold nth
  rw [List.getD_eq_getElem?_getD, List.getElem?_replicate]
  split <;> rfl
theorem made_ints (w : World) (n : Nat) : Ints (w.alloc (.cells (madeCells #[.int .i64 0] n) 3)) (some ⟨w.heap.size, 0, none⟩) (List.replicate n 0) := by
  refine .inr ⟨_, _, rfl, fun i hi => ?_⟩
  have hi2 : i < n := by simpa using hi
  have e : (madeCells #[Value.int .i64 0] n)[i]? = some (.int .i64 0) := by
    rw [← Array.getElem?_toList, toList_madeCells_one, List.getElem?_replicate, if_pos hi2]
  rw [zero_nth, Nat.zero_add]
  simp [go_sem, e]
theorem szL_take {ds : List Dm} {k : Nat} (hk : k < ds.length) : vals ((szL ds).take (k + 1)) = vals ((szL ds).take k) ++ [.int .i64 (dn ds k).sz] := by
  have h : k < (szL ds).length := by rw [szL_len]; exact hk
  rw [List.take_succ_eq_append_getElem h, vals_app]
  have := szL_nth ds hk
  simp [nth, h] at this
  rw [this]; rfl

theorem all_facts {ds : List Dm} {ch a b : List Int} {n : Nat} (hn : ds.length = n) (h1 : 1 ≤ n) (hs : ∀ i, i < n → 1 ≤ (dn ds i).sz ∧ (dn ds i).sz ≤ 10000) :
    wtn (List.replicate n 0) (szL ds) (keyL ds ch) = true ∧ wtn (List.replicate n 0) (List.replicate n 0) (keyL ds ch) = false ∧
    (mt (boxL ds a b) (boxH ds a b) (boxL ds a b) (boxH ds a b) = true ∧ mtL (boxL ds a b) (boxH ds a b) (boxL ds a b) (boxH ds a b) = boxL ds a b ∧ mtH (boxL ds a b) (boxH ds a b) (boxL ds a b) (boxH ds a b) = boxH ds a b) ∧
    (mt (boxL ds a b) (boxH ds a b) (List.replicate n 0) (szL ds) = true ∧ mtL (boxL ds a b) (boxH ds a b) (List.replicate n 0) (szL ds) = boxL ds a b ∧ mtH (boxL ds a b) (boxH ds a b) (List.replicate n 0) (szL ds) = boxH ds a b) := by
  have lk : (keyL ds ch).length = n := by rw [keyL_len, hn]
  have l1 : (boxL ds a b).length = n := by rw [boxL_len, hn]
  have l2 : (boxH ds a b).length = n := by rw [boxH_len, hn]
  have l3 : (List.replicate n (0 : Int)).length = n := by simp
  have l4 : (szL ds).length = n := by rw [szL_len, hn]
  have key : ∀ i, i < n → 0 ≤ nth (keyL ds ch) i ∧ nth (keyL ds ch) i < (dn ds i).sz := fun i hi => by
    rw [keyL_nth _ _ (by omega)]
    unfold keyV
    have h1 := hs i hi
    exact ⟨Int.emod_nonneg _ (by omega), Int.emod_lt_of_pos _ (by omega)⟩
  refine ⟨wtn_iff.2 ⟨by omega, by omega, fun i hi => ?_⟩, wtn_at (i := 0) (by omega) ?_, meet_in l1 l2 l1 l2 fun i hi => ?_, meet_in l1 l2 l3 l4 fun i hi => ?_⟩
  · rw [zero_nth, szL_nth _ (by omega)]; exact key i (by omega)
  · unfold inAt
    rw [zero_nth]
    have := (key 0 (by omega)).1
    rw [decide_eq_false (p := nth (keyL ds ch) 0 < 0) (by omega)]
    simp
  · have := box_at (ch := a) (dh := b) hn hs hi
    exact ⟨Int.le_refl _, this.2.1, Int.le_refl _⟩
  · have := box_at (ch := a) (dh := b) hn hs hi
    rw [zero_nth, szL_nth _ (by omega)]
    exact this

set_option maxHeartbeats 16000000 in
theorem all_walk (am a1 a2 a3 : Option Addr) (nm cm n1 c1 n2 c2 n3 c3 : Nat) (cs : List Dm) (l1 l2 l3 : List Int) (w : World) (pM : Pairs .u16 .u8 w am cs) (pm : cs.length = nm ∧ nm ≤ cm ∧ cm ≤ maxLen) (p1 : Nums .u16 w a1 n1 c1 l1) (p2 : Nums .u16 w a2 n2 c2 l2) (p3 : Nums .u16 w a3 n3 c3 l3) :
    Calls Try.prog 3 #[.slice am nm cm, .slice a1 n1 c1, .slice a2 n2 c2, .slice a3 n3 c3] w fun e w' => e = .returned (.bool true) ∧ Below w.heap.size w w' := by
  obtain ⟨i0, hi, hz0, hz1, hz2⟩ := info_parts info_int
  have hm2 : nm ≤ 9223372036854775807 := Nat.le_trans pm.2.1 (Nat.le_trans pm.2.2 maxLen_le)
  have CO := of_made am nm cm cs w pM pm.1 hm2
  have N1_0 : Aside (Nums .u16 w a1 n1 c1 l1) := p1
  have N2_0 : Aside (Nums .u16 w a2 n2 c2 l2) := p2
  have N3_0 : Aside (Nums .u16 w a3 n3 c3 l3) := p3
  clear pM pm p1 p2 p3
  go_enter Try.func3, Try.ntmps3
  go_wp2_with fail
  refine (CO).mono ?_
  rintro e w1 ⟨v1, rfl, hres⟩
  obtain ⟨ds, gx, n, cx, rfl, hn, hX, hx1, hx4, hs, hbx⟩ := hres
  have hb1 : Below w.heap.size w w1 := hbx
  have N1_1 : Aside (Nums .u16 w1 a1 n1 c1 l1) := N1_0.out.keep hb1
  have N2_1 : Aside (Nums .u16 w1 a2 n2 c2 l2) := N2_0.out.keep hb1
  have N3_1 : Aside (Nums .u16 w1 a3 n3 c3 l3) := N3_0.out.keep hb1
  have B1 : Aside (Below w.heap.size w w1) := hb1
  clear hb1 N1_0 N2_0 N3_0
  have D1 : Aside (DimsIn w1 (some ⟨gx, 0, none⟩) ds) := hX
  have HN : Aside (ds.length = n ∧ ∀ i, i < n → 1 ≤ (dn ds i).sz ∧ (dn ds i).sz ≤ 10000) := ⟨hn, hs⟩
  clear hX hn hs CO
  go_wp2_with fail
  refine (key_made _ a1 n cx n1 c1 ds l1 w1 D1.out HN.out.1 hx4 N1_1.out HN.out.2).mono ?_
  rintro e w2 ⟨v, rfl, hres⟩
  obtain ⟨⟨pk, qk, rfl, ik, -⟩, hbx⟩ := hres
  have hb2 : Below w1.heap.size w1 w2 := hbx
  have N1_2 : Aside (Nums .u16 w2 a1 n1 c1 l1) := N1_1.out.keep hb2
  have N2_2 : Aside (Nums .u16 w2 a2 n2 c2 l2) := N2_1.out.keep hb2
  have N3_2 : Aside (Nums .u16 w2 a3 n3 c3 l3) := N3_1.out.keep hb2
  have B2 : Aside (Below w.heap.size w w2) := B1.out.trans (hb2.mono B1.out.size)
  have D2 : Aside (DimsIn w2 (some ⟨gx, 0, none⟩) ds) := D1.out.keep hb2
  clear hb2 N1_1 N2_1 N3_1 B1 D1
  have K2 : Aside (Ints w2 pk (keyL ds l1)) := ik
  clear ik N1_2
  have hmk := run_make_row' (P := Try.prog) 26 3 (.int .i64 0) 8 Try.underlying26 info_int rfl .i64 .i64 n (by omega) (by omega)
  have hbm : Below w2.heap.size w2 (w2.alloc (.cells (madeCells #[.int .i64 0] n) 3)) := (Below.refl _ _).alloc (Nat.le_refl _) _
  have Z3 : Aside (Ints (w2.alloc (.cells (madeCells #[.int .i64 0] n) 3)) (some ⟨w2.heap.size, 0, none⟩) (List.replicate n 0)) := made_ints w2 n
  have B3 : Aside (Below w.heap.size w (w2.alloc (.cells (madeCells #[.int .i64 0] n) 3))) := B2.out.trans (hbm.mono B2.out.size)
  have N2_3 : Aside (Nums .u16 (w2.alloc (.cells (madeCells #[.int .i64 0] n) 3)) a2 n2 c2 l2) := N2_2.out.keep hbm
  have N3_3 : Aside (Nums .u16 (w2.alloc (.cells (madeCells #[.int .i64 0] n) 3)) a3 n3 c3 l3) := N3_2.out.keep hbm
  have D3 : Aside (DimsIn (w2.alloc (.cells (madeCells #[.int .i64 0] n) 3)) (some ⟨gx, 0, none⟩) ds) := D2.out.keep hbm
  have K3 : Aside (Ints (w2.alloc (.cells (madeCells #[.int .i64 0] n) 3)) pk (keyL ds l1)) := K2.out.keep hbm
  go_wp2_with fail
  generalize (w2.alloc (.cells (madeCells #[.int .i64 0] n) 3)) = w3 at Z3 B3 N2_3 N3_3 D3 K3 ⊢
  generalize w2.heap.size = gz at Z3 ⊢
  clear hbm hmk B2 N2_2 N3_2 D2 K2
  go_wp2_with fail
  go_loopg [12, 13] n (fun g1 v vi wr => ∃ (j : Nat), vi = .int .i64 j ∧ j ≤ n ∧ n - j ≤ g1 ∧ Aside (wr.ownsRow w3.heap.size 3 1 v j (vals ((szL ds).take j)) ∧ Below w3.heap.size w3 wr))
  case atStart => exact ⟨0, rfl, Nat.zero_le _, Nat.le_refl _, World.ownsRow_nil _ _ _ _, Below.refl _ _⟩
  case round =>
    obtain ⟨j, rfl, hj, hg1, SK⟩ := hrel
    by_cases hlt : j < n
    · have hltz : (j : Int) < (n : Int) := by omega
      have hbl := SK.out.2
      have hjd : j < ds.length := by rw [HN.out.1]; exact hlt
      obtain ⟨b, off, ha, hc⟩ := (D3.out.keep hbl).get (k := j) hjd
      simp only [Option.some.injEq, Addr.mk.injEq, and_true] at ha
      obtain ⟨e1, e2⟩ := ha
      subst e1
      subst e2
      obtain ⟨r0, -, -, -⟩ := hc j hjd
      rw [Nat.zero_add] at r0
      have HT : Hid (vals ((szL ds).take (j + 1)) = vals ((szL ds).take j) ++ [.int .i64 (dn ds j).sz]) := szL_take hjd
      clear hc
      generalize (dn ds j).sz = x at r0 HT
      have hown := SK.out.1
      have hsz := hbl.size
      clear hbl
      go_wp2_with (first | (at_builtin; refine wpList_append_lies _ rfl (.tmp 36) (.tmp 42) 26 rfl w3.heap.size 3 i0 _ 1 8 Try.underlying26 hi hz0 hz1 hz2 rfl (by decide) _ _ _ rfl (hown.alloc _) ⟨wr.heap.size, 0, none⟩ 1 1 [.int .i64 x] rfl rfl (cell_one_new _ _ _) (by intro u hu; simp at hu; subst hu; rfl) (by decide) (by unfold maxLen; omega) (by omega) (by simp; omega) _ rfl ?_) | go_in)
      intro g cap3 w4 hown3 hgrow hat hglt
      have S3 : Aside (w4.ownsRow w3.heap.size 3 1 (.slice (some ⟨g, 0, none⟩) (j + 1) cap3) (j + 1) (vals ((szL ds).take (j + 1))) ∧ Below w3.heap.size w3 w4) :=
        ⟨by rw [HT.out]; exact hown3, (SK.out.2.alloc hsz _).grown hgrow (by simp; omega) fun q hq => (SK.out.1.lt q hq).1⟩
      clear hown3 hgrow hat hglt hown SK
      go_wp2
      go_roundg (n - (j + 1))
      case measure => omega
      case rel => exact ⟨j + 1, by go_num, by omega, by omega, S3⟩
    · have hltz : ¬ (j : Int) < (n : Int) := by omega
      have hown := SK.out.1
      have hb4 := SK.out.2
      rw [List.take_of_length_le (by rw [szL_len, HN.out.1]; omega), show j = n by omega] at hown
      obtain ⟨pt, qt, rfl, it, -⟩ := row_len (own_out hown).1 (by rw [szL_len, HN.out.1])
      clear SK
      generalize wr = w4 at hown hb4 it ⊢
      have N2_4 : Aside (Nums .u16 w4 a2 n2 c2 l2) := N2_3.out.keep hb4
      have N3_4 : Aside (Nums .u16 w4 a3 n3 c3 l3) := N3_3.out.keep hb4
      have B4 : Aside (Below w.heap.size w w4) := B3.out.trans (hb4.mono B3.out.size)
      have D4 : Aside (DimsIn w4 (some ⟨gx, 0, none⟩) ds) := D3.out.keep hb4
      have K4 : Aside (Ints w4 pk (keyL ds l1)) := K3.out.keep hb4
      have Z4 : Aside (Ints w4 (some ⟨gz, 0, none⟩) (List.replicate n 0)) := Z3.out.keep hb4
      have T4 : Aside (Ints w4 pt (szL ds)) := it
      clear hb4 hown it B3 N2_3 N3_3 D3 K3 Z3
      go_wp2_with fail
      refine (box_out _ a2 a3 n cx n2 c2 n3 c3 ds l2 l3 w4 D4.out HN.out.1 hx1 hx4 N2_4.out N3_4.out HN.out.2).mono ?_
      rintro e w5 ⟨t, rfl, hres⟩
      obtain ⟨⟨px1, qx1, px2, qx2, rfl, ⟨i1, -⟩, i2, -⟩, hbx⟩ := hres
      have hb5 : Below w4.heap.size w4 w5 := hbx
      have N2_5 : Aside (Nums .u16 w5 a2 n2 c2 l2) := N2_4.out.keep hb5
      have N3_5 : Aside (Nums .u16 w5 a3 n3 c3 l3) := N3_4.out.keep hb5
      have B5 : Aside (Below w.heap.size w w5) := B4.out.trans (hb5.mono B4.out.size)
      have D5 : Aside (DimsIn w5 (some ⟨gx, 0, none⟩) ds) := D4.out.keep hb5
      have K5 : Aside (Ints w5 pk (keyL ds l1)) := K4.out.keep hb5
      have Z5 : Aside (Ints w5 (some ⟨gz, 0, none⟩) (List.replicate n 0)) := Z4.out.keep hb5
      have T5 : Aside (Ints w5 pt (szL ds)) := T4.out.keep hb5
      clear hb5 N2_4 N3_4 B4 D4 K4 Z4 T4
      have L5 : Aside (Ints w5 px1 (boxL ds l2 l3)) := i1
      have H5 : Aside (Ints w5 px2 (boxH ds l2 l3)) := i2
      have AF : Aside _ := all_facts (ch := l1) (a := l2) (b := l3) HN.out.1 hx1 HN.out.2
      have ZL : Aside ((boxL ds l2 l3).length = n ∧ (boxH ds l2 l3).length = n ∧ (List.replicate n (0 : Int)).length = n ∧ (szL ds).length = n ∧ (keyL ds l1).length = n) := ⟨by rw [boxL_len, HN.out.1], by rw [boxH_len, HN.out.1], by simp, by rw [szL_len, HN.out.1], by rw [keyL_len, HN.out.1]⟩
      clear i1 i2 N2_5 N3_5 D5 HN
      generalize boxL ds l2 l3 = lo at L5 ZL AF
      generalize boxH ds l2 l3 = up at H5 ZL AF
      generalize List.replicate n (0 : Int) = ze at Z5 ZL AF
      generalize szL ds = tp at T5 ZL AF
      generalize keyL ds l1 = ky at K5 ZL AF
      go_wp2_with fail
      refine (meet_out _ _ _ _ n n n n qx1 qx2 qx1 qx2 n true lo up lo up lo up w5 L5.out ZL.out.1 H5.out ZL.out.2.1 L5.out ZL.out.1 H5.out ZL.out.2.1 (by omega) AF.out.2.2.1.1 AF.out.2.2.1.2.1 AF.out.2.2.1.2.2 ZL.out.1 ZL.out.2.1).mono ?_
      rintro e w6 ⟨t, rfl, hres⟩
      obtain ⟨⟨pa1, qpa1, pa2, qpa2, rfl, i1, i2⟩, hbx⟩ := hres
      have hb6 : Below w5.heap.size w5 w6 := hbx
      have B6 : Aside (Below w.heap.size w w6) := B5.out.trans (hb6.mono B5.out.size)
      have L6 : Aside (Ints w6 px1 lo) := L5.out.keep hb6
      have H6 : Aside (Ints w6 px2 up) := H5.out.keep hb6
      have Z6 : Aside (Ints w6 (some ⟨gz, 0, none⟩) ze) := Z5.out.keep hb6
      have T6 : Aside (Ints w6 pt tp) := T5.out.keep hb6
      have K6 : Aside (Ints w6 pk ky) := K5.out.keep hb6
      clear hb6 B5 L5 H5 Z5 T5 K5
      have PA1_6 : Aside (Ints w6 pa1 lo) := i1
      have PA2_6 : Aside (Ints w6 pa2 up) := i2
      clear i1 i2
      go_wp2_with fail
      refine (meet_out _ _ _ _ n n n n qx1 qx2 n qt n true lo up ze tp lo up w6 L6.out ZL.out.1 H6.out ZL.out.2.1 Z6.out ZL.out.2.2.1 T6.out ZL.out.2.2.2.1 (by omega) AF.out.2.2.2.1 AF.out.2.2.2.2.1 AF.out.2.2.2.2.2 ZL.out.1 ZL.out.2.1).mono ?_
      rintro e w7 ⟨t, rfl, hres⟩
      obtain ⟨⟨pb1, qpb1, pb2, qpb2, rfl, i1, i2⟩, hbx⟩ := hres
      have hb7 : Below w6.heap.size w6 w7 := hbx
      have B7 : Aside (Below w.heap.size w w7) := B6.out.trans (hb7.mono B6.out.size)
      have L7 : Aside (Ints w7 px1 lo) := L6.out.keep hb7
      have H7 : Aside (Ints w7 px2 up) := H6.out.keep hb7
      have Z7 : Aside (Ints w7 (some ⟨gz, 0, none⟩) ze) := Z6.out.keep hb7
      have T7 : Aside (Ints w7 pt tp) := T6.out.keep hb7
      have K7 : Aside (Ints w7 pk ky) := K6.out.keep hb7
      have PA1_7 : Aside (Ints w7 pa1 lo) := PA1_6.out.keep hb7
      have PA2_7 : Aside (Ints w7 pa2 up) := PA2_6.out.keep hb7
      clear hb7 B6 L6 H6 Z6 T6 K6 PA1_6 PA2_6
      have PB1_7 : Aside (Ints w7 pb1 lo) := i1
      have PB2_7 : Aside (Ints w7 pb2 up) := i2
      clear i1 i2
      go_wp2_with fail
      refine (known_any _).mono ?_
      rintro e w8 ⟨rfl, hbx⟩
      have hb8 : Below w7.heap.size w7 w8 := hbx
      have B8 : Aside (Below w.heap.size w w8) := B7.out.trans (hb8.mono B7.out.size)
      have L8 : Aside (Ints w8 px1 lo) := L7.out.keep hb8
      have H8 : Aside (Ints w8 px2 up) := H7.out.keep hb8
      have Z8 : Aside (Ints w8 (some ⟨gz, 0, none⟩) ze) := Z7.out.keep hb8
      have T8 : Aside (Ints w8 pt tp) := T7.out.keep hb8
      have K8 : Aside (Ints w8 pk ky) := K7.out.keep hb8
      have PA1_8 : Aside (Ints w8 pa1 lo) := PA1_7.out.keep hb8
      have PA2_8 : Aside (Ints w8 pa2 up) := PA2_7.out.keep hb8
      have PB1_8 : Aside (Ints w8 pb1 lo) := PB1_7.out.keep hb8
      have PB2_8 : Aside (Ints w8 pb2 up) := PB2_7.out.keep hb8
      clear hb8 B7 L7 H7 Z7 T7 K7 PA1_7 PA2_7 PB1_7 PB2_7
      go_wp2_with fail
      refine (within_val _ _ _ n n n n qt qk ze tp ky true w8 Z8.out ZL.out.2.2.1 T8.out ZL.out.2.2.2.1 K8.out ZL.out.2.2.2.2 (by omega) AF.out.1).mono ?_
      rintro e w9 ⟨rfl, hbx⟩
      have hb9 : Below w8.heap.size w8 w9 := hbx
      have B9 : Aside (Below w.heap.size w w9) := B8.out.trans (hb9.mono B8.out.size)
      have L9 : Aside (Ints w9 px1 lo) := L8.out.keep hb9
      have H9 : Aside (Ints w9 px2 up) := H8.out.keep hb9
      have Z9 : Aside (Ints w9 (some ⟨gz, 0, none⟩) ze) := Z8.out.keep hb9
      have T9 : Aside (Ints w9 pt tp) := T8.out.keep hb9
      have K9 : Aside (Ints w9 pk ky) := K8.out.keep hb9
      have PA1_9 : Aside (Ints w9 pa1 lo) := PA1_8.out.keep hb9
      have PA2_9 : Aside (Ints w9 pa2 up) := PA2_8.out.keep hb9
      have PB1_9 : Aside (Ints w9 pb1 lo) := PB1_8.out.keep hb9
      have PB2_9 : Aside (Ints w9 pb2 up) := PB2_8.out.keep hb9
      clear hb9 B8 L8 H8 Z8 T8 K8 PA1_8 PA2_8 PB1_8 PB2_8
      go_wp2_with fail
      refine (within_val _ _ _ n n n n n qk ze ze ky false w9 Z9.out ZL.out.2.2.1 Z9.out ZL.out.2.2.1 K9.out ZL.out.2.2.2.2 (by omega) AF.out.2.1).mono ?_
      rintro e w10 ⟨rfl, hbx⟩
      have hb10 : Below w9.heap.size w9 w10 := hbx
      have B10 : Aside (Below w.heap.size w w10) := B9.out.trans (hb10.mono B9.out.size)
      have L10 : Aside (Ints w10 px1 lo) := L9.out.keep hb10
      have H10 : Aside (Ints w10 px2 up) := H9.out.keep hb10
      have Z10 : Aside (Ints w10 (some ⟨gz, 0, none⟩) ze) := Z9.out.keep hb10
      have T10 : Aside (Ints w10 pt tp) := T9.out.keep hb10
      have K10 : Aside (Ints w10 pk ky) := K9.out.keep hb10
      have PA1_10 : Aside (Ints w10 pa1 lo) := PA1_9.out.keep hb10
      have PA2_10 : Aside (Ints w10 pa2 up) := PA2_9.out.keep hb10
      have PB1_10 : Aside (Ints w10 pb1 lo) := PB1_9.out.keep hb10
      have PB2_10 : Aside (Ints w10 pb2 up) := PB2_9.out.keep hb10
      clear hb10 B9 L9 H9 Z9 T9 K9 PA1_9 PA2_9 PB1_9 PB2_9
      go_wp2_with fail
      refine (lawSame_any _ _ n n qpa1 qx1 lo lo true w10 PA1_10.out ZL.out.1 L10.out ZL.out.1 (by omega) (decide_eq_true rfl)).mono ?_
      rintro e w11 ⟨rfl, hbx⟩
      have hb11 : Below w10.heap.size w10 w11 := hbx
      have B11 : Aside (Below w.heap.size w w11) := B10.out.trans (hb11.mono B10.out.size)
      have L11 : Aside (Ints w11 px1 lo) := L10.out.keep hb11
      have H11 : Aside (Ints w11 px2 up) := H10.out.keep hb11
      have Z11 : Aside (Ints w11 (some ⟨gz, 0, none⟩) ze) := Z10.out.keep hb11
      have T11 : Aside (Ints w11 pt tp) := T10.out.keep hb11
      have K11 : Aside (Ints w11 pk ky) := K10.out.keep hb11
      have PA1_11 : Aside (Ints w11 pa1 lo) := PA1_10.out.keep hb11
      have PA2_11 : Aside (Ints w11 pa2 up) := PA2_10.out.keep hb11
      have PB1_11 : Aside (Ints w11 pb1 lo) := PB1_10.out.keep hb11
      have PB2_11 : Aside (Ints w11 pb2 up) := PB2_10.out.keep hb11
      clear hb11 B10 L10 H10 Z10 T10 K10 PA1_10 PA2_10 PB1_10 PB2_10
      go_wp2_with fail
      refine (lawSame_any _ _ n n qpa2 qx2 up up true w11 PA2_11.out ZL.out.2.1 H11.out ZL.out.2.1 (by omega) (decide_eq_true rfl)).mono ?_
      rintro e w12 ⟨rfl, hbx⟩
      have hb12 : Below w11.heap.size w11 w12 := hbx
      have B12 : Aside (Below w.heap.size w w12) := B11.out.trans (hb12.mono B11.out.size)
      have L12 : Aside (Ints w12 px1 lo) := L11.out.keep hb12
      have H12 : Aside (Ints w12 px2 up) := H11.out.keep hb12
      have Z12 : Aside (Ints w12 (some ⟨gz, 0, none⟩) ze) := Z11.out.keep hb12
      have T12 : Aside (Ints w12 pt tp) := T11.out.keep hb12
      have K12 : Aside (Ints w12 pk ky) := K11.out.keep hb12
      have PA1_12 : Aside (Ints w12 pa1 lo) := PA1_11.out.keep hb12
      have PA2_12 : Aside (Ints w12 pa2 up) := PA2_11.out.keep hb12
      have PB1_12 : Aside (Ints w12 pb1 lo) := PB1_11.out.keep hb12
      have PB2_12 : Aside (Ints w12 pb2 up) := PB2_11.out.keep hb12
      clear hb12 B11 L11 H11 Z11 T11 K11 PA1_11 PA2_11 PB1_11 PB2_11
      go_wp2_with fail
      refine (lawSame_any _ _ n n qpb1 qx1 lo lo true w12 PB1_12.out ZL.out.1 L12.out ZL.out.1 (by omega) (decide_eq_true rfl)).mono ?_
      rintro e w13 ⟨rfl, hbx⟩
      have hb13 : Below w12.heap.size w12 w13 := hbx
      have B13 : Aside (Below w.heap.size w w13) := B12.out.trans (hb13.mono B12.out.size)
      have L13 : Aside (Ints w13 px1 lo) := L12.out.keep hb13
      have H13 : Aside (Ints w13 px2 up) := H12.out.keep hb13
      have Z13 : Aside (Ints w13 (some ⟨gz, 0, none⟩) ze) := Z12.out.keep hb13
      have T13 : Aside (Ints w13 pt tp) := T12.out.keep hb13
      have K13 : Aside (Ints w13 pk ky) := K12.out.keep hb13
      have PA1_13 : Aside (Ints w13 pa1 lo) := PA1_12.out.keep hb13
      have PA2_13 : Aside (Ints w13 pa2 up) := PA2_12.out.keep hb13
      have PB1_13 : Aside (Ints w13 pb1 lo) := PB1_12.out.keep hb13
      have PB2_13 : Aside (Ints w13 pb2 up) := PB2_12.out.keep hb13
      clear hb13 B12 L12 H12 Z12 T12 K12 PA1_12 PA2_12 PB1_12 PB2_12
      go_wp2_with fail
      refine (lawSame_any _ _ n n qpb2 qx2 up up true w13 PB2_13.out ZL.out.2.1 H13.out ZL.out.2.1 (by omega) (decide_eq_true rfl)).mono ?_
      rintro e w14 ⟨rfl, hbx⟩
      have hb14 : Below w13.heap.size w13 w14 := hbx
      have B14 : Aside (Below w.heap.size w w14) := B13.out.trans (hb14.mono B13.out.size)
      have L14 : Aside (Ints w14 px1 lo) := L13.out.keep hb14
      have H14 : Aside (Ints w14 px2 up) := H13.out.keep hb14
      have Z14 : Aside (Ints w14 (some ⟨gz, 0, none⟩) ze) := Z13.out.keep hb14
      have T14 : Aside (Ints w14 pt tp) := T13.out.keep hb14
      have K14 : Aside (Ints w14 pk ky) := K13.out.keep hb14
      have PA1_14 : Aside (Ints w14 pa1 lo) := PA1_13.out.keep hb14
      have PA2_14 : Aside (Ints w14 pa2 up) := PA2_13.out.keep hb14
      have PB1_14 : Aside (Ints w14 pb1 lo) := PB1_13.out.keep hb14
      have PB2_14 : Aside (Ints w14 pb2 up) := PB2_13.out.keep hb14
      clear hb14 B13 L13 H13 Z13 T13 K13 PA1_13 PA2_13 PB1_13 PB2_13
      go_wp2
      go_ret
      exact ⟨rfl, B14.out⟩
end Go.Proofs.Ythbjfbkjbggkbaa.dice
