/-
  The walk of TableSteps: of whatever choices the call answers true.
-/
import Derived.Test.YtfchpcmiipnbjaaDoorTableWork
namespace Go.Proofs.YtfchpcmiipnbjaaDoor.table
open Go.ChangeShapes Go.WideShapes Go.ChangeAt Go.RowKit Go.Deep
open Go.Proofs.YtfchpcmiipnbjaaDoor.dims
open Go.Proofs.YtfchpcmiipnbjaaDoor.dice (Kr kn)
open Go.Proofs.YtfchpcmiipnbjaaDoor.cell (C4 mrg all one zero In64)
set_option linter.unusedVariables false
set_option maxRecDepth 100000

set_option maxHeartbeats 16000000 in
theorem steps_walk (a0 a1 a2 a3 a4 a5 : Option Addr) (n0 c0 n1 c1 n2 c2 n3 c3 n4 c4 n5 c5 : Nat) (cs : List Dm) (ks js : List Kr) (vs ch dh : List Int) (w : World) (hp : Pow w) (pM : Pairs .u16 .u8 w a0 cs) (pm : cs.length = n0 ∧ n0 ≤ c0 ∧ c0 ≤ maxLen) (pK : dice.KeysIn .u16 w a1 ks) (pk : ks.length = n1 ∧ n1 ≤ c1 ∧ c1 ≤ maxLen) (pJ : dice.KeysIn .u16 w a2 js) (pj : js.length = n2 ∧ n2 ≤ c2 ∧ c2 ≤ maxLen) (pV : Nums .i64 w a3 n3 c3 vs) (pC : Nums .u8 w a4 n4 c4 ch) (pE : Nums .u8 w a5 n5 c5 dh) :
    Calls Tryd.prog 8 #[.slice a0 n0 c0, .slice a1 n1 c1, .slice a2 n2 c2, .slice a3 n3 c3, .slice a4 n4 c4, .slice a5 n5 c5] w fun e w' => e = .returned (.bool true) ∧ Below w.heap.size w w' := by
  have hmc : n0 ≤ 9223372036854775807 := Nat.le_trans pm.2.1 (Nat.le_trans pm.2.2 maxLen_le2)
  have HE : Aside (cs.length = n0) := pm.1
  have hkl : Aside (ks.length = n1 ∧ js.length = n2) := ⟨pk.1, pj.1⟩
  have P0 : Aside (Pow w) := hp
  have M0 : Aside (Pairs .u16 .u8 w a0 cs) := pM
  have K0 : Aside (dice.KeysIn .u16 w a1 ks) := pK
  have J0 : Aside (dice.KeysIn .u16 w a2 js) := pJ
  have V0 : Aside (Nums .i64 w a3 n3 c3 vs) := pV
  have C0 : Aside (Nums .u8 w a4 n4 c4 ch) := pC
  have E0 : Aside (Nums .u8 w a5 n5 c5 dh) := pE
  clear hp pM pm pK pk pJ pj pV pC pE
  by_cases h200 : (200 : Int) < (n1 : Int)
  · go_enter Tryd.func8, Tryd.ntmps8
    have CK := known_any w P0.out
    go_wp2_with (go_at_call 12; refine CK.mono ?_; rintro e wx ⟨rfl, hbx⟩)
    go_ret
    exact ⟨rfl, hbx⟩
  by_cases g200 : (200 : Int) < (n2 : Int)
  · go_enter Tryd.func8, Tryd.ntmps8
    have CK := known_any w P0.out
    go_wp2_with (go_at_call 12; refine CK.mono ?_; rintro e wx ⟨rfl, hbx⟩)
    go_ret
    exact ⟨rfl, hbx⟩
  have hka1 : Hid (ks.length = n1 ∧ n1 ≤ 200) := ⟨hkl.out.1, by omega⟩
  have hka2 : Hid (js.length = n2 ∧ n2 ≤ 200) := ⟨hkl.out.2, by omega⟩
  go_enter Tryd.func8, Tryd.ntmps8
  have CK := known_any w P0.out
  go_wp2_with (go_at_call 12; refine CK.mono ?_; rintro e w1 ⟨rfl, hbx⟩; refine Hid.out ?_)
  refine Lib.hid ?_
  have hb1 : Below w.heap.size w w1 := hbx
  have B1 : Aside (Below w.heap.size w w1) := hb1
  have P1 : Aside (Pow w1) := P0.out.keep hb1
  have M1 : Aside (Pairs .u16 .u8 w1 a0 cs) := M0.out.keep hb1
  have K1 : Aside (dice.KeysIn .u16 w1 a1 ks) := K0.out.keep hb1
  have J1 : Aside (dice.KeysIn .u16 w1 a2 js) := J0.out.keep hb1
  have V1 : Aside (Nums .i64 w1 a3 n3 c3 vs) := V0.out.keep hb1
  have C1 : Aside (Nums .u8 w1 a4 n4 c4 ch) := C0.out.keep hb1
  have E1 : Aside (Nums .u8 w1 a5 n5 c5 dh) := E0.out.keep hb1
  clear hb1  P0 M0 K0 J0 V0 C0 E0
  clear CK hbx
  clear h200 g200
  go_wp2_with fail
  refine (of_made a0 n0 c0 cs w1 M1.out HE.out hmc).mono ?_
  rintro e w2 ⟨v1, rfl, hres⟩
  obtain ⟨ds, gx, n, cx, rfl, hX, hDD, hbx⟩ := hres
  have hb2 : Below w1.heap.size w1 w2 := hbx
  have B2 : Aside (Below w.heap.size w w2) := B1.out.trans (hb2.mono B1.out.size)
  have P2 : Aside (Pow w2) := P1.out.keep hb2
  have M2 : Aside (Pairs .u16 .u8 w2 a0 cs) := M1.out.keep hb2
  have K2 : Aside (dice.KeysIn .u16 w2 a1 ks) := K1.out.keep hb2
  have J2 : Aside (dice.KeysIn .u16 w2 a2 js) := J1.out.keep hb2
  have V2 : Aside (Nums .i64 w2 a3 n3 c3 vs) := V1.out.keep hb2
  have C2 : Aside (Nums .u8 w2 a4 n4 c4 ch) := C1.out.keep hb2
  have E2 : Aside (Nums .u8 w2 a5 n5 c5 dh) := E1.out.keep hb2
  clear hb2 B1 P1 M1 K1 J1 V1 C1 E1
  have HD : Aside (Dims ds n) := hDD
  have hn4 := hDD.few
  have hn1 := hDD.one
  have D2 : Aside (DimsIn w2 (some ⟨gx, 0, none⟩) ds) := hX
  clear hX hDD hbx
  clear M2
  have hmk := run_make_row' (P := Tryd.prog) 38 3 (.int .i64 0) 8 Tryd.underlying38 info_int rfl .i64 .i64 n (by omega) (by omega)
  have hbm : Below w2.heap.size w2 (w2.alloc (.cells (madeCells #[.int .i64 0] n) 3)) := (Below.refl _ _).alloc (Nat.le_refl _) _
  have hzz : Ints (w2.alloc (.cells (madeCells #[.int .i64 0] n) 3)) (some ⟨w2.heap.size, 0, none⟩) (zeros n) := zeros_ints w2 n
  go_wp2_with fail
  generalize (w2.alloc (.cells (madeCells #[.int .i64 0] n) 3)) = w3 at hbm hzz ⊢
  obtain ⟨gz, hgz⟩ : ∃ g, w2.heap.size = g := ⟨_, rfl⟩
  have hbm2 := hbm
  rw [hgz] at hzz ⊢
  have hb3 : Below w2.heap.size w2 w3 := hbm2
  have B3 : Aside (Below w.heap.size w w3) := B2.out.trans (hb3.mono B2.out.size)
  have P3 : Aside (Pow w3) := P2.out.keep hb3
  have K3 : Aside (dice.KeysIn .u16 w3 a1 ks) := K2.out.keep hb3
  have J3 : Aside (dice.KeysIn .u16 w3 a2 js) := J2.out.keep hb3
  have V3 : Aside (Nums .i64 w3 a3 n3 c3 vs) := V2.out.keep hb3
  have C3 : Aside (Nums .u8 w3 a4 n4 c4 ch) := C2.out.keep hb3
  have E3 : Aside (Nums .u8 w3 a5 n5 c5 dh) := E2.out.keep hb3
  have D3 : Aside (DimsIn w3 (some ⟨gx, 0, none⟩) ds) := D2.out.keep hb3
  clear hb3 B2 P2 K2 J2 V2 C2 E2 D2
  have Z3 : Aside (Ints w3 (some ⟨gz, 0, none⟩) (zeros n)) := hzz
  clear hmk hbm hzz hbm2 hgz
  go_wp2_with fail
  refine (lev0_made _ a4 n cx n4 c4 ds ch w3 D3.out HD.out C3.out).mono ?_
  rintro e w4 ⟨v1, rfl, hres⟩
  obtain ⟨⟨pA, qA, rfl, hX⟩, hbx⟩ := hres
  have hb4 : Below w3.heap.size w3 w4 := hbx
  have B4 : Aside (Below w.heap.size w w4) := B3.out.trans (hb4.mono B3.out.size)
  have P4 : Aside (Pow w4) := P3.out.keep hb4
  have K4 : Aside (dice.KeysIn .u16 w4 a1 ks) := K3.out.keep hb4
  have J4 : Aside (dice.KeysIn .u16 w4 a2 js) := J3.out.keep hb4
  have V4 : Aside (Nums .i64 w4 a3 n3 c3 vs) := V3.out.keep hb4
  have C4 : Aside (Nums .u8 w4 a4 n4 c4 ch) := C3.out.keep hb4
  have E4 : Aside (Nums .u8 w4 a5 n5 c5 dh) := E3.out.keep hb4
  have D4 : Aside (DimsIn w4 (some ⟨gx, 0, none⟩) ds) := D3.out.keep hb4
  have Z4 : Aside (Ints w4 (some ⟨gz, 0, none⟩) (zeros n)) := Z3.out.keep hb4
  clear hb4 B3 P3 K3 J3 V3 C3 E3 D3 Z3
  have LA : Aside (Lev ds n (zeros n) (levL ds ch [])) := lev_zero HD.out.len ch
  have IA4 : Aside (Ints w4 pA (levL ds ch [])) := hX
  clear hX hbx
  clear C4
  generalize levL ds ch [] = lA at LA IA4
  go_wp2_with fail
  refine (lev_made _ a5 _ n cx n5 c5 qA ds dh (zeros n) lA w4 D4.out HD.out E4.out IA4.out LA.out).mono ?_
  rintro e w5 ⟨v1, rfl, hres⟩
  obtain ⟨⟨pT, qT, rfl, hX⟩, hbx⟩ := hres
  have hb5 : Below w4.heap.size w4 w5 := hbx
  have B5 : Aside (Below w.heap.size w w5) := B4.out.trans (hb5.mono B4.out.size)
  have P5 : Aside (Pow w5) := P4.out.keep hb5
  have K5 : Aside (dice.KeysIn .u16 w5 a1 ks) := K4.out.keep hb5
  have J5 : Aside (dice.KeysIn .u16 w5 a2 js) := J4.out.keep hb5
  have V5 : Aside (Nums .i64 w5 a3 n3 c3 vs) := V4.out.keep hb5
  have E5 : Aside (Nums .u8 w5 a5 n5 c5 dh) := E4.out.keep hb5
  have D5 : Aside (DimsIn w5 (some ⟨gx, 0, none⟩) ds) := D4.out.keep hb5
  have Z5 : Aside (Ints w5 (some ⟨gz, 0, none⟩) (zeros n)) := Z4.out.keep hb5
  have IA5 : Aside (Ints w5 pA lA) := IA4.out.keep hb5
  clear hb5 B4 P4 K4 J4 V4 E4 D4 Z4 IA4
  have LAT : Aside (Lev ds n lA (levL ds dh lA)) := lev_up LA.out HD.out.len dh
  have IT5 : Aside (Ints w5 pT (levL ds dh lA)) := hX
  clear hX hbx
  clear E5
  generalize levL ds dh lA = lT at LAT IT5
  have LT : Aside (Lev ds n (zeros n) lT) := LA.out.trans LAT.out
  go_wp2_with fail
  refine (facts_made _ a1 a3 n cx n1 c1 n3 c3 ds ks vs w5 D5.out HD.out K5.out hka1.out.1 hka1.out.2 V5.out).mono ?_
  rintro e w6 ⟨v1, rfl, hres⟩
  obtain ⟨⟨pF, qF, rfl, hX, -⟩, hbx⟩ := hres
  have hb6 : Below w5.heap.size w5 w6 := hbx
  have B6 : Aside (Below w.heap.size w w6) := B5.out.trans (hb6.mono B5.out.size)
  have P6 : Aside (Pow w6) := P5.out.keep hb6
  have K6 : Aside (dice.KeysIn .u16 w6 a1 ks) := K5.out.keep hb6
  have J6 : Aside (dice.KeysIn .u16 w6 a2 js) := J5.out.keep hb6
  have V6 : Aside (Nums .i64 w6 a3 n3 c3 vs) := V5.out.keep hb6
  have D6 : Aside (DimsIn w6 (some ⟨gx, 0, none⟩) ds) := D5.out.keep hb6
  have Z6 : Aside (Ints w6 (some ⟨gz, 0, none⟩) (zeros n)) := Z5.out.keep hb6
  have IA6 : Aside (Ints w6 pA lA) := IA5.out.keep hb6
  have IT6 : Aside (Ints w6 pT lT) := IT5.out.keep hb6
  clear hb6 B5 P5 K5 J5 V5 D5 Z5 IA5 IT5
  have HF : Aside (Fine (factL ds ks vs n1) ∧ ∀ f ∈ factL ds ks vs n1, Mem n f.1) := ⟨fact_fine (i64_all V6.out) hka1.out.2, fact_mem ⟨HD.out.len, HD.out.siz⟩ _ _ _⟩
  have GF6 : Aside (FactL w6 pF n1 (factL ds ks vs n1)) := hX
  clear hX hbx
  have hFl0 : Aside ((factL ds ks vs n1).length ≤ 200) := by show _ ≤ _; rw [factL_len]; exact hka1.out.2
  generalize factL ds ks vs n1 = F at HF hFl0 GF6
  clear K6
  go_wp2_with fail
  refine (make_made pF n1 qF n F w6 P6.out GF6.out (by have := hka1.out.2; omega) hn4 HF.out.2).mono ?_
  rintro e w7 ⟨v1, rfl, hres⟩
  obtain ⟨⟨pS, mS, qS, rfl, hX, hmS⟩, hbx⟩ := hres
  have hb7 : Below w6.heap.size w6 w7 := hbx
  have B7 : Aside (Below w.heap.size w w7) := B6.out.trans (hb7.mono B6.out.size)
  have P7 : Aside (Pow w7) := P6.out.keep hb7
  have J7 : Aside (dice.KeysIn .u16 w7 a2 js) := J6.out.keep hb7
  have V7 : Aside (Nums .i64 w7 a3 n3 c3 vs) := V6.out.keep hb7
  have D7 : Aside (DimsIn w7 (some ⟨gx, 0, none⟩) ds) := D6.out.keep hb7
  have Z7 : Aside (Ints w7 (some ⟨gz, 0, none⟩) (zeros n)) := Z6.out.keep hb7
  have IA7 : Aside (Ints w7 pA lA) := IA6.out.keep hb7
  have IT7 : Aside (Ints w7 pT lT) := IT6.out.keep hb7
  have GF7 : Aside (FactL w7 pF n1 F) := GF6.out.keep hb7
  clear hb7 B6 P6 J6 V6 D6 Z6 IA6 IT6 GF6
  have MS : Aside (MT n (tab (rowsOf F)) F) := MT.make HF.out.1 HF.out.2
  have TS7 : Aside (TabL w7 pS mS qS (tab (rowsOf F))) := hX
  have hmS2 : mS ≤ 1000 := by have := hka1.out.2; omega
  clear hX hbx
  generalize tab (rowsOf F) = tS at MS TS7
  clear GF7
  go_wp2_with fail
  refine (facts_made _ a2 a3 n cx n2 c2 n3 c3 ds js vs w7 D7.out HD.out J7.out hka2.out.1 hka2.out.2 V7.out).mono ?_
  rintro e w8 ⟨v1, rfl, hres⟩
  obtain ⟨⟨pH, qH, rfl, hX, -⟩, hbx⟩ := hres
  have hb8 : Below w7.heap.size w7 w8 := hbx
  have B8 : Aside (Below w.heap.size w w8) := B7.out.trans (hb8.mono B7.out.size)
  have P8 : Aside (Pow w8) := P7.out.keep hb8
  have J8 : Aside (dice.KeysIn .u16 w8 a2 js) := J7.out.keep hb8
  have V8 : Aside (Nums .i64 w8 a3 n3 c3 vs) := V7.out.keep hb8
  have D8 : Aside (DimsIn w8 (some ⟨gx, 0, none⟩) ds) := D7.out.keep hb8
  have Z8 : Aside (Ints w8 (some ⟨gz, 0, none⟩) (zeros n)) := Z7.out.keep hb8
  have IA8 : Aside (Ints w8 pA lA) := IA7.out.keep hb8
  have IT8 : Aside (Ints w8 pT lT) := IT7.out.keep hb8
  have TS8 : Aside (TabL w8 pS mS qS tS) := TS7.out.keep hb8
  clear hb8 B7 P7 J7 V7 D7 Z7 IA7 IT7 TS7
  have HH : Aside (Fine (factL ds js vs n2) ∧ ∀ f ∈ factL ds js vs n2, Mem n f.1) := ⟨fact_fine (i64_all V8.out) hka2.out.2, fact_mem ⟨HD.out.len, HD.out.siz⟩ _ _ _⟩
  have GH8 : Aside (FactL w8 pH n2 (factL ds js vs n2)) := hX
  clear hX hbx
  have hFl1 : Aside ((factL ds js vs n2).length ≤ 200) := by show _ ≤ _; rw [factL_len]; exact hka2.out.2
  generalize factL ds js vs n2 = H at HH hFl1 GH8
  clear J8
  clear V8
  go_wp2_with fail
  refine (make_made pH n2 qH n H w8 P8.out GH8.out (by have := hka2.out.2; omega) hn4 HH.out.2).mono ?_
  rintro e w9 ⟨v1, rfl, hres⟩
  obtain ⟨⟨pR, mR, qR, rfl, hX, hmR⟩, hbx⟩ := hres
  have hb9 : Below w8.heap.size w8 w9 := hbx
  have B9 : Aside (Below w.heap.size w w9) := B8.out.trans (hb9.mono B8.out.size)
  have P9 : Aside (Pow w9) := P8.out.keep hb9
  have D9 : Aside (DimsIn w9 (some ⟨gx, 0, none⟩) ds) := D8.out.keep hb9
  have Z9 : Aside (Ints w9 (some ⟨gz, 0, none⟩) (zeros n)) := Z8.out.keep hb9
  have IA9 : Aside (Ints w9 pA lA) := IA8.out.keep hb9
  have IT9 : Aside (Ints w9 pT lT) := IT8.out.keep hb9
  have TS9 : Aside (TabL w9 pS mS qS tS) := TS8.out.keep hb9
  have GH9 : Aside (FactL w9 pH n2 H) := GH8.out.keep hb9
  clear hb9 B8 P8 D8 Z8 IA8 IT8 TS8 GH8
  have MR : Aside (MT n (tab (rowsOf H)) H) := MT.make HH.out.1 HH.out.2
  have TR9 : Aside (TabL w9 pR mR qR (tab (rowsOf H))) := hX
  have hmR2 : mR ≤ 1000 := by have := hka2.out.2; omega
  clear hX hbx
  generalize tab (rowsOf H) = tR at MR TR9
  clear GH9
  go_wp2_with fail
  refine (roll_made _ pS (some ⟨gz, 0, none⟩) pA n cx mS qS n qA ds tS F (zeros n) lA w9 P9.out D9.out HD.out TS9.out MS.out hmS2 Z9.out IA9.out LA.out).mono ?_
  rintro e w10 ⟨v1, rfl, hres⟩
  obtain ⟨⟨pX, mX, qX, rfl, hX, hmX⟩, hbx⟩ := hres
  have hb10 : Below w9.heap.size w9 w10 := hbx
  have B10 : Aside (Below w.heap.size w w10) := B9.out.trans (hb10.mono B9.out.size)
  have P10 : Aside (Pow w10) := P9.out.keep hb10
  have D10 : Aside (DimsIn w10 (some ⟨gx, 0, none⟩) ds) := D9.out.keep hb10
  have Z10 : Aside (Ints w10 (some ⟨gz, 0, none⟩) (zeros n)) := Z9.out.keep hb10
  have IA10 : Aside (Ints w10 pA lA) := IA9.out.keep hb10
  have IT10 : Aside (Ints w10 pT lT) := IT9.out.keep hb10
  have TS10 : Aside (TabL w10 pS mS qS tS) := TS9.out.keep hb10
  have TR10 : Aside (TabL w10 pR mR qR tR) := TR9.out.keep hb10
  clear hb10 B9 P9 D9 Z9 IA9 IT9 TS9 TR9
  have MX : Aside (MT n (tab (remap (atL ds (zeros n) lA) tS)) (remapF (atL ds (zeros n) lA) F)) := MS.out.roll LA.out HD.out.len HD.out.snd
  have TX10 : Aside (TabL w10 pX mX qX (tab (remap (atL ds (zeros n) lA) tS))) := hX
  have hmX2 : mX ≤ 1000 := by omega
  clear hX hbx
  generalize htX : tab (remap (atL ds (zeros n) lA) tS) = tX at MX TX10
  clear htX
  go_wp2_with fail
  refine (roll_made _ pX pA pT n cx mX qX qA qT ds tX (remapF (atL ds (zeros n) lA) F) lA lT w10 P10.out D10.out HD.out TX10.out MX.out hmX2 IA10.out IT10.out LAT.out).mono ?_
  rintro e w11 ⟨v1, rfl, hres⟩
  obtain ⟨⟨pY, mY, qY, rfl, hX, hmY⟩, hbx⟩ := hres
  have hb11 : Below w10.heap.size w10 w11 := hbx
  have B11 : Aside (Below w.heap.size w w11) := B10.out.trans (hb11.mono B10.out.size)
  have P11 : Aside (Pow w11) := P10.out.keep hb11
  have D11 : Aside (DimsIn w11 (some ⟨gx, 0, none⟩) ds) := D10.out.keep hb11
  have Z11 : Aside (Ints w11 (some ⟨gz, 0, none⟩) (zeros n)) := Z10.out.keep hb11
  have IA11 : Aside (Ints w11 pA lA) := IA10.out.keep hb11
  have IT11 : Aside (Ints w11 pT lT) := IT10.out.keep hb11
  have TS11 : Aside (TabL w11 pS mS qS tS) := TS10.out.keep hb11
  have TR11 : Aside (TabL w11 pR mR qR tR) := TR10.out.keep hb11
  have TX11 : Aside (TabL w11 pX mX qX tX) := TX10.out.keep hb11
  clear hb11 B10 P10 D10 Z10 IA10 IT10 TS10 TR10 TX10
  have MY : Aside (MT n (tab (remap (atL ds lA lT) tX)) (remapF (atL ds lA lT) (remapF (atL ds (zeros n) lA) F))) := MX.out.roll LAT.out HD.out.len HD.out.snd
  have TY11 : Aside (TabL w11 pY mY qY (tab (remap (atL ds lA lT) tX))) := hX
  have hmY2 : mY ≤ 1000 := by omega
  clear hX hbx
  generalize htY : tab (remap (atL ds lA lT) tX) = tY at MY TY11
  clear htY
  go_wp2_with fail
  refine (roll_made _ pS (some ⟨gz, 0, none⟩) pT n cx mS qS n qT ds tS F (zeros n) lT w11 P11.out D11.out HD.out TS11.out MS.out hmS2 Z11.out IT11.out LT.out).mono ?_
  rintro e w12 ⟨v1, rfl, hres⟩
  obtain ⟨⟨pV, mV, qV, rfl, hX, hmV⟩, hbx⟩ := hres
  have hb12 : Below w11.heap.size w11 w12 := hbx
  have B12 : Aside (Below w.heap.size w w12) := B11.out.trans (hb12.mono B11.out.size)
  have P12 : Aside (Pow w12) := P11.out.keep hb12
  have D12 : Aside (DimsIn w12 (some ⟨gx, 0, none⟩) ds) := D11.out.keep hb12
  have Z12 : Aside (Ints w12 (some ⟨gz, 0, none⟩) (zeros n)) := Z11.out.keep hb12
  have IA12 : Aside (Ints w12 pA lA) := IA11.out.keep hb12
  have IT12 : Aside (Ints w12 pT lT) := IT11.out.keep hb12
  have TS12 : Aside (TabL w12 pS mS qS tS) := TS11.out.keep hb12
  have TR12 : Aside (TabL w12 pR mR qR tR) := TR11.out.keep hb12
  have TX12 : Aside (TabL w12 pX mX qX tX) := TX11.out.keep hb12
  have TY12 : Aside (TabL w12 pY mY qY tY) := TY11.out.keep hb12
  clear hb12 B11 P11 D11 Z11 IA11 IT11 TS11 TR11 TX11 TY11
  have MV : Aside (MT n (tab (remap (atL ds (zeros n) lT) tS)) (remapF (atL ds (zeros n) lT) F)) := MS.out.roll LT.out HD.out.len HD.out.snd
  have TV12 : Aside (TabL w12 pV mV qV (tab (remap (atL ds (zeros n) lT) tS))) := hX
  have hmV2 : mV ≤ 1000 := by omega
  clear hX hbx
  generalize htV : tab (remap (atL ds (zeros n) lT) tS) = tV at MV TV12
  clear htV
  go_wp2_with fail
  refine (merge_made pS pR mS qS mR qR n tS tR F H w12 P12.out TS12.out TR12.out MS.out MR.out hmS2 hmR2 hn4).mono ?_
  rintro e w13 ⟨v1, rfl, hres⟩
  obtain ⟨⟨pG, mG, qG, rfl, hX, hmG⟩, hbx⟩ := hres
  have hb13 : Below w12.heap.size w12 w13 := hbx
  have B13 : Aside (Below w.heap.size w w13) := B12.out.trans (hb13.mono B12.out.size)
  have P13 : Aside (Pow w13) := P12.out.keep hb13
  have D13 : Aside (DimsIn w13 (some ⟨gx, 0, none⟩) ds) := D12.out.keep hb13
  have Z13 : Aside (Ints w13 (some ⟨gz, 0, none⟩) (zeros n)) := Z12.out.keep hb13
  have IA13 : Aside (Ints w13 pA lA) := IA12.out.keep hb13
  have IT13 : Aside (Ints w13 pT lT) := IT12.out.keep hb13
  have TS13 : Aside (TabL w13 pS mS qS tS) := TS12.out.keep hb13
  have TR13 : Aside (TabL w13 pR mR qR tR) := TR12.out.keep hb13
  have TX13 : Aside (TabL w13 pX mX qX tX) := TX12.out.keep hb13
  have TY13 : Aside (TabL w13 pY mY qY tY) := TY12.out.keep hb13
  have TV13 : Aside (TabL w13 pV mV qV tV) := TV12.out.keep hb13
  clear hb13 B12 P12 D12 Z12 IA12 IT12 TS12 TR12 TX12 TY12 TV12
  have HFH : Aside (Fine (F ++ H)) := ⟨fun f hf => by rcases List.mem_append.1 hf with h | h; exact HF.out.1.1 f h; exact HH.out.1.1 f h, by have h1 := HF.out.1.2; have h2 := HH.out.1.2; have h3 := hFl0.out; have h4 := hFl1.out; rw [List.length_append]; omega⟩
  have MG : Aside (MT n (tab (tS ++ tR)) (F ++ H)) := MS.out.merge MR.out HFH.out
  have TG13 : Aside (TabL w13 pG mG qG (tab (tS ++ tR))) := hX
  have hmG2 : mG ≤ 1000 := by have := hka1.out.2; have := hka2.out.2; omega
  clear hX hbx
  generalize htG : tab (tS ++ tR) = tG at MG TG13
  clear htG
  go_wp2_with fail
  refine (roll_made _ pG (some ⟨gz, 0, none⟩) pT n cx mG qG n qT ds tG (F ++ H) (zeros n) lT w13 P13.out D13.out HD.out TG13.out MG.out hmG2 Z13.out IT13.out LT.out).mono ?_
  rintro e w14 ⟨v1, rfl, hres⟩
  obtain ⟨⟨pQ, mQ, qQ, rfl, hX, hmQ⟩, hbx⟩ := hres
  have hb14 : Below w13.heap.size w13 w14 := hbx
  have B14 : Aside (Below w.heap.size w w14) := B13.out.trans (hb14.mono B13.out.size)
  have P14 : Aside (Pow w14) := P13.out.keep hb14
  have D14 : Aside (DimsIn w14 (some ⟨gx, 0, none⟩) ds) := D13.out.keep hb14
  have Z14 : Aside (Ints w14 (some ⟨gz, 0, none⟩) (zeros n)) := Z13.out.keep hb14
  have IA14 : Aside (Ints w14 pA lA) := IA13.out.keep hb14
  have IT14 : Aside (Ints w14 pT lT) := IT13.out.keep hb14
  have TS14 : Aside (TabL w14 pS mS qS tS) := TS13.out.keep hb14
  have TR14 : Aside (TabL w14 pR mR qR tR) := TR13.out.keep hb14
  have TX14 : Aside (TabL w14 pX mX qX tX) := TX13.out.keep hb14
  have TY14 : Aside (TabL w14 pY mY qY tY) := TY13.out.keep hb14
  have TV14 : Aside (TabL w14 pV mV qV tV) := TV13.out.keep hb14
  have TG14 : Aside (TabL w14 pG mG qG tG) := TG13.out.keep hb14
  clear hb14 B13 P13 D13 Z13 IA13 IT13 TS13 TR13 TX13 TY13 TV13 TG13
  have MQ : Aside (MT n (tab (remap (atL ds (zeros n) lT) tG)) (remapF (atL ds (zeros n) lT) (F ++ H))) := MG.out.roll LT.out HD.out.len HD.out.snd
  have TQ14 : Aside (TabL w14 pQ mQ qQ (tab (remap (atL ds (zeros n) lT) tG))) := hX
  have hmQ2 : mQ ≤ 1000 := by omega
  clear hX hbx
  generalize htQ : tab (remap (atL ds (zeros n) lT) tG) = tQ at MQ TQ14
  clear htQ
  go_wp2_with fail
  refine (roll_made _ pR (some ⟨gz, 0, none⟩) pT n cx mR qR n qT ds tR H (zeros n) lT w14 P14.out D14.out HD.out TR14.out MR.out hmR2 Z14.out IT14.out LT.out).mono ?_
  rintro e w15 ⟨v1, rfl, hres⟩
  obtain ⟨⟨pN, mN, qN, rfl, hX, hmN⟩, hbx⟩ := hres
  have hb15 : Below w14.heap.size w14 w15 := hbx
  have B15 : Aside (Below w.heap.size w w15) := B14.out.trans (hb15.mono B14.out.size)
  have P15 : Aside (Pow w15) := P14.out.keep hb15
  have D15 : Aside (DimsIn w15 (some ⟨gx, 0, none⟩) ds) := D14.out.keep hb15
  have Z15 : Aside (Ints w15 (some ⟨gz, 0, none⟩) (zeros n)) := Z14.out.keep hb15
  have IA15 : Aside (Ints w15 pA lA) := IA14.out.keep hb15
  have IT15 : Aside (Ints w15 pT lT) := IT14.out.keep hb15
  have TS15 : Aside (TabL w15 pS mS qS tS) := TS14.out.keep hb15
  have TR15 : Aside (TabL w15 pR mR qR tR) := TR14.out.keep hb15
  have TX15 : Aside (TabL w15 pX mX qX tX) := TX14.out.keep hb15
  have TY15 : Aside (TabL w15 pY mY qY tY) := TY14.out.keep hb15
  have TV15 : Aside (TabL w15 pV mV qV tV) := TV14.out.keep hb15
  have TG15 : Aside (TabL w15 pG mG qG tG) := TG14.out.keep hb15
  have TQ15 : Aside (TabL w15 pQ mQ qQ tQ) := TQ14.out.keep hb15
  clear hb15 B14 P14 D14 Z14 IA14 IT14 TS14 TR14 TX14 TY14 TV14 TG14 TQ14
  have MN : Aside (MT n (tab (remap (atL ds (zeros n) lT) tR)) (remapF (atL ds (zeros n) lT) H)) := MR.out.roll LT.out HD.out.len HD.out.snd
  have TN15 : Aside (TabL w15 pN mN qN (tab (remap (atL ds (zeros n) lT) tR))) := hX
  have hmN2 : mN ≤ 1000 := by omega
  clear hX hbx
  generalize htN : tab (remap (atL ds (zeros n) lT) tR) = tN at MN TN15
  clear htN
  have EY : Aside (tY = tV) := by have h := MY.out; rw [remap_two LA.out LAT.out HD.out.len HD.out.snd HF.out.2] at h; exact h.unique MV.out
  have MW : Aside (MT n (tab (tV ++ tN)) (remapF (atL ds (zeros n) lT) (F ++ H))) := by have h := MV.out.merge MN.out (by rw [← remap_append]; exact HFH.out.remap _); rw [← remap_append] at h; exact h
  have EQ : Aside (tQ = tab (tV ++ tN)) := MQ.out.unique MW.out
  go_wp2_with fail
  refine (same_made pY pV mY qY mV qV tY tV w15 TY15.out TV15.out EY.out).mono ?_
  rintro e w16 ⟨rfl, hbx⟩
  have hb16 : Below w15.heap.size w15 w16 := hbx
  have B16 : Aside (Below w.heap.size w w16) := B15.out.trans (hb16.mono B15.out.size)
  have P16 : Aside (Pow w16) := P15.out.keep hb16
  have D16 : Aside (DimsIn w16 (some ⟨gx, 0, none⟩) ds) := D15.out.keep hb16
  have Z16 : Aside (Ints w16 (some ⟨gz, 0, none⟩) (zeros n)) := Z15.out.keep hb16
  have IA16 : Aside (Ints w16 pA lA) := IA15.out.keep hb16
  have IT16 : Aside (Ints w16 pT lT) := IT15.out.keep hb16
  have TS16 : Aside (TabL w16 pS mS qS tS) := TS15.out.keep hb16
  have TR16 : Aside (TabL w16 pR mR qR tR) := TR15.out.keep hb16
  have TX16 : Aside (TabL w16 pX mX qX tX) := TX15.out.keep hb16
  have TY16 : Aside (TabL w16 pY mY qY tY) := TY15.out.keep hb16
  have TV16 : Aside (TabL w16 pV mV qV tV) := TV15.out.keep hb16
  have TG16 : Aside (TabL w16 pG mG qG tG) := TG15.out.keep hb16
  have TQ16 : Aside (TabL w16 pQ mQ qQ tQ) := TQ15.out.keep hb16
  have TN16 : Aside (TabL w16 pN mN qN tN) := TN15.out.keep hb16
  clear hb16 B15 P15 D15 Z15 IA15 IT15 TS15 TR15 TX15 TY15 TV15 TG15 TQ15 TN15
  clear hbx
  go_wp2_with fail
  refine (merge_made pV pN mV qV mN qN n tV tN _ _ w16 P16.out TV16.out TN16.out MV.out MN.out hmV2 hmN2 hn4).mono ?_
  rintro e w17 ⟨v1, rfl, hres⟩
  obtain ⟨⟨pW, mW, qW, rfl, hX, -⟩, hbx⟩ := hres
  have hb17 : Below w16.heap.size w16 w17 := hbx
  have B17 : Aside (Below w.heap.size w w17) := B16.out.trans (hb17.mono B16.out.size)
  have P17 : Aside (Pow w17) := P16.out.keep hb17
  have D17 : Aside (DimsIn w17 (some ⟨gx, 0, none⟩) ds) := D16.out.keep hb17
  have Z17 : Aside (Ints w17 (some ⟨gz, 0, none⟩) (zeros n)) := Z16.out.keep hb17
  have IA17 : Aside (Ints w17 pA lA) := IA16.out.keep hb17
  have IT17 : Aside (Ints w17 pT lT) := IT16.out.keep hb17
  have TS17 : Aside (TabL w17 pS mS qS tS) := TS16.out.keep hb17
  have TR17 : Aside (TabL w17 pR mR qR tR) := TR16.out.keep hb17
  have TX17 : Aside (TabL w17 pX mX qX tX) := TX16.out.keep hb17
  have TY17 : Aside (TabL w17 pY mY qY tY) := TY16.out.keep hb17
  have TV17 : Aside (TabL w17 pV mV qV tV) := TV16.out.keep hb17
  have TG17 : Aside (TabL w17 pG mG qG tG) := TG16.out.keep hb17
  have TQ17 : Aside (TabL w17 pQ mQ qQ tQ) := TQ16.out.keep hb17
  have TN17 : Aside (TabL w17 pN mN qN tN) := TN16.out.keep hb17
  clear hb17 B16 P16 D16 Z16 IA16 IT16 TS16 TR16 TX16 TY16 TV16 TG16 TQ16 TN16
  have TW17 : Aside (TabL w17 pW mW qW (tab (tV ++ tN))) := hX
  clear hX hbx
  go_wp2_with fail
  refine (same_made pQ pW mQ qQ mW qW _ _ w17 TQ17.out TW17.out EQ.out).mono ?_
  rintro e w18 ⟨rfl, hbx⟩
  have hb18 : Below w17.heap.size w17 w18 := hbx
  have B18 : Aside (Below w.heap.size w w18) := B17.out.trans (hb18.mono B17.out.size)
  have P18 : Aside (Pow w18) := P17.out.keep hb18
  have D18 : Aside (DimsIn w18 (some ⟨gx, 0, none⟩) ds) := D17.out.keep hb18
  have Z18 : Aside (Ints w18 (some ⟨gz, 0, none⟩) (zeros n)) := Z17.out.keep hb18
  have IA18 : Aside (Ints w18 pA lA) := IA17.out.keep hb18
  have IT18 : Aside (Ints w18 pT lT) := IT17.out.keep hb18
  have TS18 : Aside (TabL w18 pS mS qS tS) := TS17.out.keep hb18
  have TR18 : Aside (TabL w18 pR mR qR tR) := TR17.out.keep hb18
  have TX18 : Aside (TabL w18 pX mX qX tX) := TX17.out.keep hb18
  have TY18 : Aside (TabL w18 pY mY qY tY) := TY17.out.keep hb18
  have TV18 : Aside (TabL w18 pV mV qV tV) := TV17.out.keep hb18
  have TG18 : Aside (TabL w18 pG mG qG tG) := TG17.out.keep hb18
  have TQ18 : Aside (TabL w18 pQ mQ qQ tQ) := TQ17.out.keep hb18
  have TN18 : Aside (TabL w18 pN mN qN tN) := TN17.out.keep hb18
  have TW18 : Aside (TabL w18 pW mW qW (tab (tV ++ tN))) := TW17.out.keep hb18
  clear hb18 B17 P17 D17 Z17 IA17 IT17 TS17 TR17 TX17 TY17 TV17 TG17 TQ17 TN17 TW17
  clear hbx
  go_wp2
  go_ret
  exact ⟨rfl, B18.out⟩
end Go.Proofs.YtfchpcmiipnbjaaDoor.table
