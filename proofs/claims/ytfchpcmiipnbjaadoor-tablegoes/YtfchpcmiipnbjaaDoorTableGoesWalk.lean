/-
  The walk of TableGoes: of whatever choices the call answers true.
-/
import Derived.Test.YtfchpcmiipnbjaaDoorTableWork
namespace Go.Proofs.YtfchpcmiipnbjaaDoor.table
open Go.ChangeShapes Go.WideShapes Go.ChangeAt Go.RowKit Go.Deep
open Go.Proofs.YtfchpcmiipnbjaaDoor.dims
open Go.Proofs.YtfchpcmiipnbjaaDoor.dice (Kr kn)
open Go.Proofs.YtfchpcmiipnbjaaDoor.cell (C4 mrg all one zero In64)
set_option linter.unusedVariables false
set_option maxRecDepth 100000

set_option maxHeartbeats 8000000 in
theorem goes_walk (a0 a1 a2 a3 : Option Addr) (n0 c0 n1 c1 n2 c2 n3 c3 : Nat) (cs : List Dm) (ks : List Kr) (vs ch : List Int) (w : World) (hp : Pow w) (pM : Pairs .u16 .u8 w a0 cs) (pm : cs.length = n0 ∧ n0 ≤ c0 ∧ c0 ≤ maxLen) (pK : dice.KeysIn .u16 w a1 ks) (pk : ks.length = n1 ∧ n1 ≤ c1 ∧ c1 ≤ maxLen) (pV : Nums .i64 w a2 n2 c2 vs) (pC : Nums .u8 w a3 n3 c3 ch) :
    Calls Tryd.prog 7 #[.slice a0 n0 c0, .slice a1 n1 c1, .slice a2 n2 c2, .slice a3 n3 c3] w fun e w' => e = .returned (.bool true) ∧ Below w.heap.size w w' := by
  have hmc : n0 ≤ 9223372036854775807 := Nat.le_trans pm.2.1 (Nat.le_trans pm.2.2 maxLen_le2)
  have HE : Aside (cs.length = n0) := pm.1
  have hkl : Aside (ks.length = n1) := pk.1
  have P0 : Aside (Pow w) := hp
  have M0 : Aside (Pairs .u16 .u8 w a0 cs) := pM
  have K0 : Aside (dice.KeysIn .u16 w a1 ks) := pK
  have V0 : Aside (Nums .i64 w a2 n2 c2 vs) := pV
  have C0 : Aside (Nums .u8 w a3 n3 c3 ch) := pC
  clear hp pM pm pK pk pV pC
  by_cases h200 : (200 : Int) < (n1 : Int)
  · go_enter Tryd.func7, Tryd.ntmps7
    have CK := known_any w P0.out
    go_wp2_with (go_at_call 12; refine CK.mono ?_; rintro e wx ⟨rfl, hbx⟩)
    go_ret
    exact ⟨rfl, hbx⟩
  have hka1 : Hid (ks.length = n1 ∧ n1 ≤ 200) := ⟨hkl.out, by omega⟩
  go_enter Tryd.func7, Tryd.ntmps7
  have CK := known_any w P0.out
  go_wp2_with (go_at_call 12; refine CK.mono ?_; rintro e w1 ⟨rfl, hbx⟩; refine Hid.out ?_)
  refine Lib.hid ?_
  have hb1 : Below w.heap.size w w1 := hbx
  have B1 : Aside (Below w.heap.size w w1) := hb1
  have P1 : Aside (Pow w1) := P0.out.keep hb1
  have M1 : Aside (Pairs .u16 .u8 w1 a0 cs) := M0.out.keep hb1
  have K1 : Aside (dice.KeysIn .u16 w1 a1 ks) := K0.out.keep hb1
  have V1 : Aside (Nums .i64 w1 a2 n2 c2 vs) := V0.out.keep hb1
  have C1 : Aside (Nums .u8 w1 a3 n3 c3 ch) := C0.out.keep hb1
  clear hb1  P0 M0 K0 V0 C0
  clear CK hbx
  clear h200
  go_wp2_with fail
  refine (of_made a0 n0 c0 cs w1 M1.out HE.out hmc).mono ?_
  rintro e w2 ⟨v1, rfl, hres⟩
  obtain ⟨ds, gx, n, cx, rfl, hX, hDD, hbx⟩ := hres
  have hb2 : Below w1.heap.size w1 w2 := hbx
  have B2 : Aside (Below w.heap.size w w2) := B1.out.trans (hb2.mono B1.out.size)
  have P2 : Aside (Pow w2) := P1.out.keep hb2
  have M2 : Aside (Pairs .u16 .u8 w2 a0 cs) := M1.out.keep hb2
  have K2 : Aside (dice.KeysIn .u16 w2 a1 ks) := K1.out.keep hb2
  have V2 : Aside (Nums .i64 w2 a2 n2 c2 vs) := V1.out.keep hb2
  have C2 : Aside (Nums .u8 w2 a3 n3 c3 ch) := C1.out.keep hb2
  clear hb2 B1 P1 M1 K1 V1 C1
  have HD : Aside (Dims ds n) := hDD
  have hn4 := hDD.few
  have hn1 := hDD.one
  have D2 : Aside (DimsIn w2 (some ⟨gx, 0, none⟩) ds) := hX
  clear hX hDD hbx
  clear M2
  go_wp2_with fail
  refine (facts_made _ a1 a2 n cx n1 c1 n2 c2 ds ks vs w2 D2.out HD.out K2.out hka1.out.1 hka1.out.2 V2.out).mono ?_
  rintro e w3 ⟨v1, rfl, hres⟩
  obtain ⟨⟨pF, qF, rfl, hX, -⟩, hbx⟩ := hres
  have hb3 : Below w2.heap.size w2 w3 := hbx
  have B3 : Aside (Below w.heap.size w w3) := B2.out.trans (hb3.mono B2.out.size)
  have P3 : Aside (Pow w3) := P2.out.keep hb3
  have K3 : Aside (dice.KeysIn .u16 w3 a1 ks) := K2.out.keep hb3
  have V3 : Aside (Nums .i64 w3 a2 n2 c2 vs) := V2.out.keep hb3
  have C3 : Aside (Nums .u8 w3 a3 n3 c3 ch) := C2.out.keep hb3
  have D3 : Aside (DimsIn w3 (some ⟨gx, 0, none⟩) ds) := D2.out.keep hb3
  clear hb3 B2 P2 K2 V2 C2 D2
  have HF : Aside (Fine (factL ds ks vs n1) ∧ ∀ f ∈ factL ds ks vs n1, Mem n f.1) := ⟨fact_fine (i64_all V3.out) hka1.out.2, fact_mem ⟨HD.out.len, HD.out.siz⟩ _ _ _⟩
  have GF3 : Aside (FactL w3 pF n1 (factL ds ks vs n1)) := hX
  clear hX hbx
  generalize factL ds ks vs n1 = F at HF GF3
  clear K3
  clear V3
  go_wp2_with fail
  refine (refMake_made pF n1 qF n F w3  GF3.out (by have := hka1.out.2; omega) hn4 HF.out.2).mono ?_
  rintro e w4 ⟨v1, rfl, hres⟩
  obtain ⟨⟨pX, mX, qX, rfl, hX, hmX⟩, hbx⟩ := hres
  have hb4 : Below w3.heap.size w3 w4 := hbx
  have B4 : Aside (Below w.heap.size w w4) := B3.out.trans (hb4.mono B3.out.size)
  have P4 : Aside (Pow w4) := P3.out.keep hb4
  have C4 : Aside (Nums .u8 w4 a3 n3 c3 ch) := C3.out.keep hb4
  have D4 : Aside (DimsIn w4 (some ⟨gx, 0, none⟩) ds) := D3.out.keep hb4
  have GF4 : Aside (FactL w4 pF n1 F) := GF3.out.keep hb4
  clear hb4 B3 P3 C3 D3 GF3
  have MX : Aside (MT n (tab (rowsOf F)) F) := MT.make HF.out.1 HF.out.2
  have TX4 : Aside (TabL w4 pX mX qX (tab (rowsOf F))) := hX
  have hmX2 : mX ≤ 1000 := by have := hka1.out.2; omega
  clear hX hbx
  generalize tab (rowsOf F) = tX at MX TX4
  clear GF4
  have hmk := run_make_row' (P := Tryd.prog) 38 3 (.int .i64 0) 8 Tryd.underlying38 info_int rfl .i64 .i64 n (by omega) (by omega)
  have hbm : Below w4.heap.size w4 (w4.alloc (.cells (madeCells #[.int .i64 0] n) 3)) := (Below.refl _ _).alloc (Nat.le_refl _) _
  have hzz : Ints (w4.alloc (.cells (madeCells #[.int .i64 0] n) 3)) (some ⟨w4.heap.size, 0, none⟩) (zeros n) := zeros_ints w4 n
  go_wp2_with fail
  generalize (w4.alloc (.cells (madeCells #[.int .i64 0] n) 3)) = w5 at hbm hzz ⊢
  obtain ⟨gz, hgz⟩ : ∃ g, w4.heap.size = g := ⟨_, rfl⟩
  have hbm2 := hbm
  rw [hgz] at hzz ⊢
  have hb5 : Below w4.heap.size w4 w5 := hbm2
  have B5 : Aside (Below w.heap.size w w5) := B4.out.trans (hb5.mono B4.out.size)
  have P5 : Aside (Pow w5) := P4.out.keep hb5
  have C5 : Aside (Nums .u8 w5 a3 n3 c3 ch) := C4.out.keep hb5
  have D5 : Aside (DimsIn w5 (some ⟨gx, 0, none⟩) ds) := D4.out.keep hb5
  have TX5 : Aside (TabL w5 pX mX qX tX) := TX4.out.keep hb5
  clear hb5 B4 P4 C4 D4 TX4
  have Z5 : Aside (Ints w5 (some ⟨gz, 0, none⟩) (zeros n)) := hzz
  clear hmk hbm hzz hbm2 hgz
  go_wp2_with fail
  refine (lev0_made _ a3 n cx n3 c3 ds ch w5 D5.out HD.out C5.out).mono ?_
  rintro e w6 ⟨v1, rfl, hres⟩
  obtain ⟨⟨pA, qA, rfl, hX⟩, hbx⟩ := hres
  have hb6 : Below w5.heap.size w5 w6 := hbx
  have B6 : Aside (Below w.heap.size w w6) := B5.out.trans (hb6.mono B5.out.size)
  have P6 : Aside (Pow w6) := P5.out.keep hb6
  have C6 : Aside (Nums .u8 w6 a3 n3 c3 ch) := C5.out.keep hb6
  have D6 : Aside (DimsIn w6 (some ⟨gx, 0, none⟩) ds) := D5.out.keep hb6
  have TX6 : Aside (TabL w6 pX mX qX tX) := TX5.out.keep hb6
  have Z6 : Aside (Ints w6 (some ⟨gz, 0, none⟩) (zeros n)) := Z5.out.keep hb6
  clear hb6 B5 P5 C5 D5 TX5 Z5
  have LA : Aside (Lev ds n (zeros n) (levL ds ch [])) := lev_zero HD.out.len ch
  have IA6 : Aside (Ints w6 pA (levL ds ch [])) := hX
  clear hX hbx
  clear C6
  generalize levL ds ch [] = lA at LA IA6
  go_wp2_with fail
  refine (roll_made _ pX (some ⟨gz, 0, none⟩) pA n cx mX qX n qA ds tX F (zeros n) lA w6 P6.out D6.out HD.out TX6.out MX.out hmX2 Z6.out IA6.out LA.out).mono ?_
  rintro e w7 ⟨v1, rfl, hres⟩
  obtain ⟨⟨pY, mY, qY, rfl, hX, hmY⟩, hbx⟩ := hres
  have hb7 : Below w6.heap.size w6 w7 := hbx
  have B7 : Aside (Below w.heap.size w w7) := B6.out.trans (hb7.mono B6.out.size)
  have P7 : Aside (Pow w7) := P6.out.keep hb7
  have D7 : Aside (DimsIn w7 (some ⟨gx, 0, none⟩) ds) := D6.out.keep hb7
  have TX7 : Aside (TabL w7 pX mX qX tX) := TX6.out.keep hb7
  have Z7 : Aside (Ints w7 (some ⟨gz, 0, none⟩) (zeros n)) := Z6.out.keep hb7
  have IA7 : Aside (Ints w7 pA lA) := IA6.out.keep hb7
  clear hb7 B6 P6 D6 TX6 Z6 IA6
  have MY : Aside (MT n (tab (remap (atL ds (zeros n) lA) tX)) (remapF (atL ds (zeros n) lA) F)) := MX.out.roll LA.out HD.out.len HD.out.snd
  have TY7 : Aside (TabL w7 pY mY qY (tab (remap (atL ds (zeros n) lA) tX))) := hX
  have hmY2 : mY ≤ 1000 := by omega
  clear hX hbx
  go_wp2_with fail
  refine (refRoll_made _ pX (some ⟨gz, 0, none⟩) pA n cx mX qX n qA ds tX F (zeros n) lA w7  D7.out HD.out TX7.out MX.out hmX2 Z7.out IA7.out LA.out).mono ?_
  rintro e w8 ⟨v1, rfl, hres⟩
  obtain ⟨⟨pU, mU, qU, rfl, hX, hmU⟩, hbx⟩ := hres
  have hb8 : Below w7.heap.size w7 w8 := hbx
  have B8 : Aside (Below w.heap.size w w8) := B7.out.trans (hb8.mono B7.out.size)
  have P8 : Aside (Pow w8) := P7.out.keep hb8
  have D8 : Aside (DimsIn w8 (some ⟨gx, 0, none⟩) ds) := D7.out.keep hb8
  have TX8 : Aside (TabL w8 pX mX qX tX) := TX7.out.keep hb8
  have Z8 : Aside (Ints w8 (some ⟨gz, 0, none⟩) (zeros n)) := Z7.out.keep hb8
  have IA8 : Aside (Ints w8 pA lA) := IA7.out.keep hb8
  have TY8 : Aside (TabL w8 pY mY qY (tab (remap (atL ds (zeros n) lA) tX))) := TY7.out.keep hb8
  clear hb8 B7 P7 D7 TX7 Z7 IA7 TY7
  have MU : Aside (MT n (tab (remap (atL ds (zeros n) lA) tX)) (remapF (atL ds (zeros n) lA) F)) := MX.out.roll LA.out HD.out.len HD.out.snd
  have TU8 : Aside (TabL w8 pU mU qU (tab (remap (atL ds (zeros n) lA) tX))) := hX
  have hmU2 : mU ≤ 1000 := by omega
  clear hX hbx
  go_wp2_with fail
  refine (same_made pY pU mY qY mU qU _ _ w8 TY8.out TU8.out rfl).mono ?_
  rintro e w9 ⟨rfl, hbx⟩
  have hb9 : Below w8.heap.size w8 w9 := hbx
  have B9 : Aside (Below w.heap.size w w9) := B8.out.trans (hb9.mono B8.out.size)
  have P9 : Aside (Pow w9) := P8.out.keep hb9
  have D9 : Aside (DimsIn w9 (some ⟨gx, 0, none⟩) ds) := D8.out.keep hb9
  have TX9 : Aside (TabL w9 pX mX qX tX) := TX8.out.keep hb9
  have Z9 : Aside (Ints w9 (some ⟨gz, 0, none⟩) (zeros n)) := Z8.out.keep hb9
  have IA9 : Aside (Ints w9 pA lA) := IA8.out.keep hb9
  have TY9 : Aside (TabL w9 pY mY qY (tab (remap (atL ds (zeros n) lA) tX))) := TY8.out.keep hb9
  have TU9 : Aside (TabL w9 pU mU qU (tab (remap (atL ds (zeros n) lA) tX))) := TU8.out.keep hb9
  clear hb9 B8 P8 D8 TX8 Z8 IA8 TY8 TU8
  clear hbx
  go_wp2_with fail
  refine (refSound_made pY mY qY n _ _ w9 TY9.out MY.out).mono ?_
  rintro e w10 ⟨rfl, hbx⟩
  have hb10 : Below w9.heap.size w9 w10 := hbx
  have B10 : Aside (Below w.heap.size w w10) := B9.out.trans (hb10.mono B9.out.size)
  have P10 : Aside (Pow w10) := P9.out.keep hb10
  have D10 : Aside (DimsIn w10 (some ⟨gx, 0, none⟩) ds) := D9.out.keep hb10
  have TX10 : Aside (TabL w10 pX mX qX tX) := TX9.out.keep hb10
  have Z10 : Aside (Ints w10 (some ⟨gz, 0, none⟩) (zeros n)) := Z9.out.keep hb10
  have IA10 : Aside (Ints w10 pA lA) := IA9.out.keep hb10
  have TY10 : Aside (TabL w10 pY mY qY (tab (remap (atL ds (zeros n) lA) tX))) := TY9.out.keep hb10
  have TU10 : Aside (TabL w10 pU mU qU (tab (remap (atL ds (zeros n) lA) tX))) := TU9.out.keep hb10
  clear hb10 B9 P9 D9 TX9 Z9 IA9 TY9 TU9
  clear hbx
  go_wp2
  go_ret
  exact ⟨rfl, B10.out⟩
end Go.Proofs.YtfchpcmiipnbjaaDoor.table
