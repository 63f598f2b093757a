/-
  The walk of QueryRuns: of whatever choices the call answers true.
-/
import Derived.Test.YtgimknplckkiaaaGreatDoorQueryWork
import Derived.Test.YtgimknplckkiaaaGreatDoorQueryKnown
import Derived.Test.YtgimknplckkiaaaGreatDoorQueryRefRun
namespace Go.Proofs.YtgimknplckkiaaaGreatDoor.query
open Go.ChangeShapes Go.WideShapes Go.ChangeAt Go.RowKit Go.Deep
open Go.Proofs.YtgimknplckkiaaaGreatDoor.dims
open Go.Proofs.YtgimknplckkiaaaGreatDoor.table
open Go.Proofs.YtgimknplckkiaaaGreatDoor.dice (Kr kn wtn bx)
open Go.Proofs.YtgimknplckkiaaaGreatDoor.cell (C4 mrg all one zero In64)
set_option linter.unusedVariables false
set_option maxRecDepth 100000

set_option maxHeartbeats 16000000 in
theorem runs_walk (a0 a1 a2 a3 a4 a5 : Option Addr) (n0 c0 n1 c1 n2 c2 n3 c3 n4 c4 n5 c5 : Nat) (cs : List Dm) (ks : List Kr) (vs ch la lb : List Int) (w : World) (hp : Pow w) (pM : Pairs .u16 .u8 w a0 cs) (pm : cs.length = n0 ∧ n0 ≤ c0 ∧ c0 ≤ maxLen) (pK : dice.KeysIn .u16 w a1 ks) (pk : ks.length = n1 ∧ n1 ≤ c1 ∧ c1 ≤ maxLen) (pV : Nums .i64 w a2 n2 c2 vs) (pC : Nums .u8 w a3 n3 c3 ch) (pA : Nums .u16 w a4 n4 c4 la) (pB : Nums .u16 w a5 n5 c5 lb) :
    Calls Tryz.prog 3 #[.slice a0 n0 c0, .slice a1 n1 c1, .slice a2 n2 c2, .slice a3 n3 c3, .slice a4 n4 c4, .slice a5 n5 c5] w fun e w' => e = .returned (.bool true) ∧ Below w.heap.size w w' := by
  have hmc : n0 ≤ 9223372036854775807 := Nat.le_trans pm.2.1 (Nat.le_trans pm.2.2 maxLen_le2)
  have HE : Aside (cs.length = n0) := pm.1
  have hkl : Aside (ks.length = n1) := pk.1
  have P0 : Aside (Pow w) := hp
  have M0 : Aside (Pairs .u16 .u8 w a0 cs) := pM
  have K0 : Aside (dice.KeysIn .u16 w a1 ks) := pK
  have V0 : Aside (Nums .i64 w a2 n2 c2 vs) := pV
  have C0 : Aside (Nums .u8 w a3 n3 c3 ch) := pC
  have A0 : Aside (Nums .u16 w a4 n4 c4 la) := pA
  have Bb0 : Aside (Nums .u16 w a5 n5 c5 lb) := pB
  clear hp pM pm pK pk pV pC pA pB
  by_cases h200 : (200 : Int) < (n1 : Int)
  · go_enter Tryz.func3, Tryz.ntmps3
    have CK := known_q w P0.out
    go_wp2_with (go_at_call 4; refine CK.mono ?_; rintro e wx ⟨rfl, hbx⟩)
    go_ret
    exact ⟨rfl, hbx⟩
  have hka1 : Hid (ks.length = n1 ∧ n1 ≤ 200) := ⟨hkl.out, by omega⟩
  go_enter Tryz.func3, Tryz.ntmps3
  have CK := known_q w P0.out
  go_wp2_with (go_at_call 4; refine CK.mono ?_; rintro e w1 ⟨rfl, hbx⟩; refine Hid.out ?_)
  refine Lib.hid ?_
  have hb1 : Below w.heap.size w w1 := hbx
  have B1 : Aside (Below w.heap.size w w1) := hb1
  have P1 : Aside (Pow w1) := P0.out.keep hb1
  have M1 : Aside (Pairs .u16 .u8 w1 a0 cs) := M0.out.keep hb1
  have K1 : Aside (dice.KeysIn .u16 w1 a1 ks) := K0.out.keep hb1
  have V1 : Aside (Nums .i64 w1 a2 n2 c2 vs) := V0.out.keep hb1
  have C1 : Aside (Nums .u8 w1 a3 n3 c3 ch) := C0.out.keep hb1
  have A1 : Aside (Nums .u16 w1 a4 n4 c4 la) := A0.out.keep hb1
  have Bb1 : Aside (Nums .u16 w1 a5 n5 c5 lb) := Bb0.out.keep hb1
  clear hb1  P0 M0 K0 V0 C0 A0 Bb0
  clear CK hbx
  clear h200
  go_wp2_with fail
  refine (of_made a0 n0 c0 cs w1 M1.out HE.out hmc).mono ?_
  rintro e w2 ⟨v1, rfl, hres⟩
  obtain ⟨ds, gx, n, cx, rfl, hX, hDD, hbx⟩ := hres
  have hb2 : Below w1.heap.size w1 w2 := hbx
  have B2 : Aside (Below w.heap.size w w2) := B1.out.trans (hb2.mono B1.out.size)
  have P2 : Aside (Pow w2) := P1.out.keep hb2
  have M2 : Aside (Pairs .u16 .u8 w2 a0 cs) := M1.out.keep hb2
  have K2 : Aside (dice.KeysIn .u16 w2 a1 ks) := K1.out.keep hb2
  have V2 : Aside (Nums .i64 w2 a2 n2 c2 vs) := V1.out.keep hb2
  have C2 : Aside (Nums .u8 w2 a3 n3 c3 ch) := C1.out.keep hb2
  have A2 : Aside (Nums .u16 w2 a4 n4 c4 la) := A1.out.keep hb2
  have Bb2 : Aside (Nums .u16 w2 a5 n5 c5 lb) := Bb1.out.keep hb2
  clear hb2 B1 P1 M1 K1 V1 C1 A1 Bb1
  have HD : Aside (Dims ds n) := hDD
  have hn4 := hDD.few
  have hn1 := hDD.one
  have D2 : Aside (DimsIn w2 (some ⟨gx, 0, none⟩) ds) := hX
  clear hX hDD hbx
  clear M2
  go_wp2_with fail
  refine (facts_made _ a1 a2 n cx n1 c1 n2 c2 ds ks vs w2 D2.out HD.out K2.out hka1.out.1 hka1.out.2 V2.out).mono ?_
  rintro e w3 ⟨v1, rfl, hres⟩
  obtain ⟨⟨pF, qF, rfl, hX, -⟩, hbx⟩ := hres
  have hb3 : Below w2.heap.size w2 w3 := hbx
  have B3 : Aside (Below w.heap.size w w3) := B2.out.trans (hb3.mono B2.out.size)
  have P3 : Aside (Pow w3) := P2.out.keep hb3
  have K3 : Aside (dice.KeysIn .u16 w3 a1 ks) := K2.out.keep hb3
  have V3 : Aside (Nums .i64 w3 a2 n2 c2 vs) := V2.out.keep hb3
  have C3 : Aside (Nums .u8 w3 a3 n3 c3 ch) := C2.out.keep hb3
  have A3 : Aside (Nums .u16 w3 a4 n4 c4 la) := A2.out.keep hb3
  have Bb3 : Aside (Nums .u16 w3 a5 n5 c5 lb) := Bb2.out.keep hb3
  have D3 : Aside (DimsIn w3 (some ⟨gx, 0, none⟩) ds) := D2.out.keep hb3
  clear hb3 B2 P2 K2 V2 C2 A2 Bb2 D2
  have HF : Aside (Fine (factL ds ks vs n1) ∧ ∀ f ∈ factL ds ks vs n1, Mem n f.1) := ⟨fact_fine (i64_all V3.out) hka1.out.2, fact_mem ⟨HD.out.len, HD.out.siz⟩ _ _ _⟩
  have GF3 : Aside (FactL w3 pF n1 (factL ds ks vs n1)) := hX
  clear hX hbx
  have hF5' : Aside ((factL ds ks vs n1).length ≤ 200) := by show _ ≤ _; rw [factL_len]; exact hka1.out.2
  generalize factL ds ks vs n1 = F at HF hF5' GF3
  clear K3
  clear V3
  go_wp2_with fail
  refine (refMake_made pF n1 qF n F w3  GF3.out (by have := hka1.out.2; omega) hn4 HF.out.2).mono ?_
  rintro e w4 ⟨v1, rfl, hres⟩
  obtain ⟨⟨pX, mX, qX, rfl, hX, hmX⟩, hbx⟩ := hres
  have hb4 : Below w3.heap.size w3 w4 := hbx
  have B4 : Aside (Below w.heap.size w w4) := B3.out.trans (hb4.mono B3.out.size)
  have P4 : Aside (Pow w4) := P3.out.keep hb4
  have C4 : Aside (Nums .u8 w4 a3 n3 c3 ch) := C3.out.keep hb4
  have A4 : Aside (Nums .u16 w4 a4 n4 c4 la) := A3.out.keep hb4
  have Bb4 : Aside (Nums .u16 w4 a5 n5 c5 lb) := Bb3.out.keep hb4
  have D4 : Aside (DimsIn w4 (some ⟨gx, 0, none⟩) ds) := D3.out.keep hb4
  have GF4 : Aside (FactL w4 pF n1 F) := GF3.out.keep hb4
  clear hb4 B3 P3 C3 A3 Bb3 D3 GF3
  have MX : Aside (MT n (tab (rowsOf F)) F) := MT.make HF.out.1 HF.out.2
  have TX4 : Aside (TabL w4 pX mX qX (tab (rowsOf F))) := hX
  have hmX2 : mX ≤ 1000 := by have := hka1.out.2; omega
  clear hX hbx
  generalize tab (rowsOf F) = tX at MX TX4
  clear GF4
  go_wp2_with fail
  refine (ask_made _ a3 a4 a5 n cx n3 c3 n4 c4 n5 c5 ds ch la lb w4 D4.out HD.out C4.out A4.out Bb4.out).mono ?_
  rintro e w5 ⟨v1, rfl, hres⟩
  obtain ⟨base, gL, p1, p2, qL, q1, q2, L, lo, hi, rfl, hQ, hAP⟩ := hres
  have hbx := hQ.bel
  have hb5 : Below w4.heap.size w4 w5 := hbx
  have B5 : Aside (Below w.heap.size w w5) := B4.out.trans (hb5.mono B4.out.size)
  have P5 : Aside (Pow w5) := P4.out.keep hb5
  have C5 : Aside (Nums .u8 w5 a3 n3 c3 ch) := C4.out.keep hb5
  have A5 : Aside (Nums .u16 w5 a4 n4 c4 la) := A4.out.keep hb5
  have Bb5 : Aside (Nums .u16 w5 a5 n5 c5 lb) := Bb4.out.keep hb5
  have D5 : Aside (DimsIn w5 (some ⟨gx, 0, none⟩) ds) := D4.out.keep hb5
  have TX5 : Aside (TabL w5 pX mX qX tX) := TX4.out.keep hb5
  clear hb5 B4 P4 C4 A4 Bb4 D4 TX4
  have HA : Aside (AskP ds n L lo hi) := hAP
  have Q5 : Aside (AskQ w4 base ds n gL p1 p2 qL q1 q2 L lo hi w5) := hQ
  clear hQ hAP hbx
  clear C5
  clear A5
  clear Bb5
  have hXU : QB w5 w5.heap.size (.slice (some ⟨gL, 0, none⟩) n qL) (.slice p1 n q1) (.slice p2 n q2) (w5.alloc (.cells #[.slice (some ⟨gL, 0, none⟩) n qL, .slice p1 n q1, .slice p2 n q2] 36)) := QB.start _ _ _ _ _
  go_wp2_with fail
  generalize (w5.alloc (.cells #[.slice (some ⟨gL, 0, none⟩) n qL, .slice p1 n q1, .slice p2 n q2] 36)) = w6 at hXU ⊢
  obtain ⟨gU, hgU⟩ : ∃ g, w5.heap.size = g := ⟨_, rfl⟩
  have hbU := hXU.bel
  rw [hgU] at hXU ⊢
  have hcU := (⟨hXU.c1, hXU.c2, hXU.c3⟩ : Cel3 gU (.slice (some ⟨gL, 0, none⟩) n qL) (.slice p1 n q1) (.slice p2 n q2) w6)
  have hb6 : Below w5.heap.size w5 w6 := hbU
  have B6 : Aside (Below w.heap.size w w6) := B5.out.trans (hb6.mono B5.out.size)
  have P6 : Aside (Pow w6) := P5.out.keep hb6
  have D6 : Aside (DimsIn w6 (some ⟨gx, 0, none⟩) ds) := D5.out.keep hb6
  have TX6 : Aside (TabL w6 pX mX qX tX) := TX5.out.keep hb6
  have Q6 : Aside (AskQ w4 base ds n gL p1 p2 qL q1 q2 L lo hi w6) := Q5.out.keep hb6
  clear hb6 B5 P5 D5 TX5 Q5
  have U6 : Aside (Cel3 gU (.slice (some ⟨gL, 0, none⟩) n qL) (.slice p1 n q1) (.slice p2 n q2) w6) := hcU
  clear hXU hbU hcU hgU
  have hF5 : Aside (F.length ≤ 500) := by have := hF5'.out; show _ ≤ _; omega
  have Uk1 := U6.out.c1
  have Uk2 := U6.out.c2
  have Uk3 := U6.out.c3
  
  clear Uk1 Uk2 Uk3
  refine (run_made _ pX _ p1 p2 n cx mX qX qL q1 q2 ds tX F L lo hi w6 P6.out D6.out HD.out TX6.out MX.out hmX2 hF5.out Q6.out.lev HA.out.lev Q6.out.low Q6.out.high HA.out.box).mono ?_
  rintro e w7 ⟨v1, rfl, hres⟩
  obtain ⟨⟨pY, mY, qY, rfl, hX, hmY⟩, hbx⟩ := hres
  have hb7 : Below w6.heap.size w6 w7 := hbx
  have B7 : Aside (Below w.heap.size w w7) := B6.out.trans (hb7.mono B6.out.size)
  have P7 : Aside (Pow w7) := P6.out.keep hb7
  have D7 : Aside (DimsIn w7 (some ⟨gx, 0, none⟩) ds) := D6.out.keep hb7
  have TX7 : Aside (TabL w7 pX mX qX tX) := TX6.out.keep hb7
  have Q7 : Aside (AskQ w4 base ds n gL p1 p2 qL q1 q2 L lo hi w7) := Q6.out.keep hb7
  have U7 : Aside (Cel3 gU (.slice (some ⟨gL, 0, none⟩) n qL) (.slice p1 n q1) (.slice p2 n q2) w7) := U6.out.keep hb7
  clear hb7 B6 P6 D6 TX6 Q6 U6
  have MY : Aside (MT n (runT ds tX L lo hi) (runF ds L lo hi F)) := MT.run MX.out HA.out.lev HD.out.len HD.out.snd
  have TY7 : Aside (TabL w7 pY mY qY (runT ds tX L lo hi)) := hX
  have hmYF : Aside (mY ≤ (runF ds L lo hi F).length) := hmY
  clear hX hbx hmY
  have Uk1 := U7.out.c1
  have Uk2 := U7.out.c2
  have Uk3 := U7.out.c3
  go_wp2_with fail
  clear Uk1 Uk2 Uk3
  refine (refRun_made _ pX _ p1 p2 n cx mX qX qL q1 q2 ds tX F L lo hi w7  D7.out HD.out TX7.out MX.out hmX2 hF5.out Q7.out.lev HA.out.lev Q7.out.low Q7.out.high HA.out.box).mono ?_
  rintro e w8 ⟨v1, rfl, hres⟩
  obtain ⟨⟨pR, mR, qR, rfl, hX, hmR⟩, hbx⟩ := hres
  have hb8 : Below w7.heap.size w7 w8 := hbx
  have B8 : Aside (Below w.heap.size w w8) := B7.out.trans (hb8.mono B7.out.size)
  have P8 : Aside (Pow w8) := P7.out.keep hb8
  have D8 : Aside (DimsIn w8 (some ⟨gx, 0, none⟩) ds) := D7.out.keep hb8
  have TX8 : Aside (TabL w8 pX mX qX tX) := TX7.out.keep hb8
  have Q8 : Aside (AskQ w4 base ds n gL p1 p2 qL q1 q2 L lo hi w8) := Q7.out.keep hb8
  have U8 : Aside (Cel3 gU (.slice (some ⟨gL, 0, none⟩) n qL) (.slice p1 n q1) (.slice p2 n q2) w8) := U7.out.keep hb8
  have TY8 : Aside (TabL w8 pY mY qY (runT ds tX L lo hi)) := TY7.out.keep hb8
  clear hb8 B7 P7 D7 TX7 Q7 U7 TY7
  have MR : Aside (MT n (runT ds tX L lo hi) (runF ds L lo hi F)) := MT.run MX.out HA.out.lev HD.out.len HD.out.snd
  have TR8 : Aside (TabL w8 pR mR qR (runT ds tX L lo hi)) := hX
  have hmRF : Aside (mR ≤ (runF ds L lo hi F).length) := hmR
  clear hX hbx hmR
  go_wp2_with fail
  refine (same_made pY pR mY qY mR qR _ _ w8 TY8.out TR8.out rfl).mono ?_
  rintro e w9 ⟨rfl, hbx⟩
  have hb9 : Below w8.heap.size w8 w9 := hbx
  have B9 : Aside (Below w.heap.size w w9) := B8.out.trans (hb9.mono B8.out.size)
  have P9 : Aside (Pow w9) := P8.out.keep hb9
  have D9 : Aside (DimsIn w9 (some ⟨gx, 0, none⟩) ds) := D8.out.keep hb9
  have TX9 : Aside (TabL w9 pX mX qX tX) := TX8.out.keep hb9
  have Q9 : Aside (AskQ w4 base ds n gL p1 p2 qL q1 q2 L lo hi w9) := Q8.out.keep hb9
  have U9 : Aside (Cel3 gU (.slice (some ⟨gL, 0, none⟩) n qL) (.slice p1 n q1) (.slice p2 n q2) w9) := U8.out.keep hb9
  have TY9 : Aside (TabL w9 pY mY qY (runT ds tX L lo hi)) := TY8.out.keep hb9
  have TR9 : Aside (TabL w9 pR mR qR (runT ds tX L lo hi)) := TR8.out.keep hb9
  clear hb9 B8 P8 D8 TX8 Q8 U8 TY8 TR8
  clear hbx
  go_wp2
  go_ret
  exact ⟨rfl, B9.out⟩
end Go.Proofs.YtgimknplckkiaaaGreatDoor.query
