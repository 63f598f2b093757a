/-
  The walk of QueryParts: of whatever choices the call answers true.
-/
import Derived.Test.YtgimknplckkiaaaDoorQueryWork
import Derived.Test.YtgimknplckkiaaaDoorQueryKnown
import Derived.Test.YtgimknplckkiaaaDoorQueryJoinMade
namespace Go.Proofs.YtgimknplckkiaaaDoor.query
open Go.ChangeShapes Go.WideShapes Go.ChangeAt Go.RowKit Go.Deep
open Go.Proofs.YtgimknplckkiaaaDoor.dims
open Go.Proofs.YtgimknplckkiaaaDoor.table
open Go.Proofs.YtgimknplckkiaaaDoor.dice (Kr kn wtn bx)
open Go.Proofs.YtgimknplckkiaaaDoor.cell (C4 mrg all one zero In64)
set_option linter.unusedVariables false
set_option maxRecDepth 100000

set_option maxHeartbeats 16000000 in
theorem parts_walk (a0 a1 a2 a3 a4 a5 a6 : Option Addr) (n0 c0 n1 c1 n2 c2 n3 c3 n4 c4 n5 c5 n6 c6 : Nat) (cs : List Dm) (ks js : List Kr) (vs ch la lb : List Int) (w : World) (hp : Pow w) (pM : Pairs .u16 .u8 w a0 cs) (pm : cs.length = n0 ∧ n0 ≤ c0 ∧ c0 ≤ maxLen) (pK : dice.KeysIn .u16 w a1 ks) (pk : ks.length = n1 ∧ n1 ≤ c1 ∧ c1 ≤ maxLen) (pJ : dice.KeysIn .u16 w a2 js) (pj : js.length = n2 ∧ n2 ≤ c2 ∧ c2 ≤ maxLen) (pV : Nums .i64 w a3 n3 c3 vs) (pC : Nums .u8 w a4 n4 c4 ch) (pA : Nums .u16 w a5 n5 c5 la) (pB : Nums .u16 w a6 n6 c6 lb) :
    Calls Tryd.prog 5 #[.slice a0 n0 c0, .slice a1 n1 c1, .slice a2 n2 c2, .slice a3 n3 c3, .slice a4 n4 c4, .slice a5 n5 c5, .slice a6 n6 c6] w fun e w' => e = .returned (.bool true) ∧ Below w.heap.size w w' := by
  have hmc : n0 ≤ 9223372036854775807 := Nat.le_trans pm.2.1 (Nat.le_trans pm.2.2 maxLen_le2)
  have HE : Aside (cs.length = n0) := pm.1
  have hkl : Aside (ks.length = n1 ∧ js.length = n2) := ⟨pk.1, pj.1⟩
  have P0 : Aside (Pow w) := hp
  have M0 : Aside (Pairs .u16 .u8 w a0 cs) := pM
  have K0 : Aside (dice.KeysIn .u16 w a1 ks) := pK
  have J0 : Aside (dice.KeysIn .u16 w a2 js) := pJ
  have V0 : Aside (Nums .i64 w a3 n3 c3 vs) := pV
  have C0 : Aside (Nums .u8 w a4 n4 c4 ch) := pC
  have A0 : Aside (Nums .u16 w a5 n5 c5 la) := pA
  have Bb0 : Aside (Nums .u16 w a6 n6 c6 lb) := pB
  clear hp pM pm pK pk pJ pj pV pC pA pB
  by_cases h200 : (150 : Int) < (n1 : Int)
  · go_enter Tryd.func5, Tryd.ntmps5
    have CK := known_q w P0.out
    go_wp2_with (go_at_call 10; refine CK.mono ?_; rintro e wx ⟨rfl, hbx⟩)
    go_ret
    exact ⟨rfl, hbx⟩
  by_cases g200 : (150 : Int) < (n2 : Int)
  · go_enter Tryd.func5, Tryd.ntmps5
    have CK := known_q w P0.out
    go_wp2_with (go_at_call 10; refine CK.mono ?_; rintro e wx ⟨rfl, hbx⟩)
    go_ret
    exact ⟨rfl, hbx⟩
  have hka1 : Hid (ks.length = n1 ∧ n1 ≤ 200) := ⟨hkl.out.1, by omega⟩
  have hka2 : Hid (js.length = n2 ∧ n2 ≤ 200) := ⟨hkl.out.2, by omega⟩
  have hN : Aside (n1 ≤ 150 ∧ n2 ≤ 150) := ⟨by omega, by omega⟩
  go_enter Tryd.func5, Tryd.ntmps5
  have CK := known_q w P0.out
  go_wp2_with (go_at_call 10; refine CK.mono ?_; rintro e w1 ⟨rfl, hbx⟩; refine Hid.out ?_)
  refine Lib.hid ?_
  have hb1 : Below w.heap.size w w1 := hbx
  have B1 : Aside (Below w.heap.size w w1) := hb1
  have P1 : Aside (Pow w1) := P0.out.keep hb1
  have M1 : Aside (Pairs .u16 .u8 w1 a0 cs) := M0.out.keep hb1
  have K1 : Aside (dice.KeysIn .u16 w1 a1 ks) := K0.out.keep hb1
  have J1 : Aside (dice.KeysIn .u16 w1 a2 js) := J0.out.keep hb1
  have V1 : Aside (Nums .i64 w1 a3 n3 c3 vs) := V0.out.keep hb1
  have C1 : Aside (Nums .u8 w1 a4 n4 c4 ch) := C0.out.keep hb1
  have A1 : Aside (Nums .u16 w1 a5 n5 c5 la) := A0.out.keep hb1
  have Bb1 : Aside (Nums .u16 w1 a6 n6 c6 lb) := Bb0.out.keep hb1
  clear hb1  P0 M0 K0 J0 V0 C0 A0 Bb0
  clear CK hbx
  clear h200 g200
  go_wp2_with fail
  refine (of_made a0 n0 c0 cs w1 M1.out HE.out hmc).mono ?_
  rintro e w2 ⟨v1, rfl, hres⟩
  obtain ⟨ds, gx, n, cx, rfl, hX, hDD, hbx⟩ := hres
  have hb2 : Below w1.heap.size w1 w2 := hbx
  have B2 : Aside (Below w.heap.size w w2) := B1.out.trans (hb2.mono B1.out.size)
  have P2 : Aside (Pow w2) := P1.out.keep hb2
  have M2 : Aside (Pairs .u16 .u8 w2 a0 cs) := M1.out.keep hb2
  have K2 : Aside (dice.KeysIn .u16 w2 a1 ks) := K1.out.keep hb2
  have J2 : Aside (dice.KeysIn .u16 w2 a2 js) := J1.out.keep hb2
  have V2 : Aside (Nums .i64 w2 a3 n3 c3 vs) := V1.out.keep hb2
  have C2 : Aside (Nums .u8 w2 a4 n4 c4 ch) := C1.out.keep hb2
  have A2 : Aside (Nums .u16 w2 a5 n5 c5 la) := A1.out.keep hb2
  have Bb2 : Aside (Nums .u16 w2 a6 n6 c6 lb) := Bb1.out.keep hb2
  clear hb2 B1 P1 M1 K1 J1 V1 C1 A1 Bb1
  have HD : Aside (Dims ds n) := hDD
  have hn4 := hDD.few
  have hn1 := hDD.one
  have D2 : Aside (DimsIn w2 (some ⟨gx, 0, none⟩) ds) := hX
  clear hX hDD hbx
  clear M2
  go_wp2_with fail
  refine (facts_made _ a1 a3 n cx n1 c1 n3 c3 ds ks vs w2 D2.out HD.out K2.out hka1.out.1 hka1.out.2 V2.out).mono ?_
  rintro e w3 ⟨v1, rfl, hres⟩
  obtain ⟨⟨pF, qF, rfl, hX, -⟩, hbx⟩ := hres
  have hb3 : Below w2.heap.size w2 w3 := hbx
  have B3 : Aside (Below w.heap.size w w3) := B2.out.trans (hb3.mono B2.out.size)
  have P3 : Aside (Pow w3) := P2.out.keep hb3
  have K3 : Aside (dice.KeysIn .u16 w3 a1 ks) := K2.out.keep hb3
  have J3 : Aside (dice.KeysIn .u16 w3 a2 js) := J2.out.keep hb3
  have V3 : Aside (Nums .i64 w3 a3 n3 c3 vs) := V2.out.keep hb3
  have C3 : Aside (Nums .u8 w3 a4 n4 c4 ch) := C2.out.keep hb3
  have A3 : Aside (Nums .u16 w3 a5 n5 c5 la) := A2.out.keep hb3
  have Bb3 : Aside (Nums .u16 w3 a6 n6 c6 lb) := Bb2.out.keep hb3
  have D3 : Aside (DimsIn w3 (some ⟨gx, 0, none⟩) ds) := D2.out.keep hb3
  clear hb3 B2 P2 K2 J2 V2 C2 A2 Bb2 D2
  have HF : Aside (Fine (factL ds ks vs n1) ∧ ∀ f ∈ factL ds ks vs n1, Mem n f.1) := ⟨fact_fine (i64_all V3.out) hka1.out.2, fact_mem ⟨HD.out.len, HD.out.siz⟩ _ _ _⟩
  have GF3 : Aside (FactL w3 pF n1 (factL ds ks vs n1)) := hX
  clear hX hbx
  have hF5' : Aside ((factL ds ks vs n1).length ≤ 150) := by show _ ≤ _; rw [factL_len]; exact hN.out.1
  generalize factL ds ks vs n1 = F at HF hF5' GF3
  clear K3
  go_wp2_with fail
  refine (refMake_made pF n1 qF n F w3  GF3.out (by have := hka1.out.2; omega) hn4 HF.out.2).mono ?_
  rintro e w4 ⟨v1, rfl, hres⟩
  obtain ⟨⟨pS, mS, qS, rfl, hX, hmS⟩, hbx⟩ := hres
  have hb4 : Below w3.heap.size w3 w4 := hbx
  have B4 : Aside (Below w.heap.size w w4) := B3.out.trans (hb4.mono B3.out.size)
  have P4 : Aside (Pow w4) := P3.out.keep hb4
  have J4 : Aside (dice.KeysIn .u16 w4 a2 js) := J3.out.keep hb4
  have V4 : Aside (Nums .i64 w4 a3 n3 c3 vs) := V3.out.keep hb4
  have C4 : Aside (Nums .u8 w4 a4 n4 c4 ch) := C3.out.keep hb4
  have A4 : Aside (Nums .u16 w4 a5 n5 c5 la) := A3.out.keep hb4
  have Bb4 : Aside (Nums .u16 w4 a6 n6 c6 lb) := Bb3.out.keep hb4
  have D4 : Aside (DimsIn w4 (some ⟨gx, 0, none⟩) ds) := D3.out.keep hb4
  have GF4 : Aside (FactL w4 pF n1 F) := GF3.out.keep hb4
  clear hb4 B3 P3 J3 V3 C3 A3 Bb3 D3 GF3
  have MS : Aside (MT n (tab (rowsOf F)) F) := MT.make HF.out.1 HF.out.2
  have TS4 : Aside (TabL w4 pS mS qS (tab (rowsOf F))) := hX
  have hmS2 : mS ≤ 1000 := by have := hka1.out.2; omega
  clear hX hbx
  generalize tab (rowsOf F) = tS at MS TS4
  clear GF4
  go_wp2_with fail
  refine (facts_made _ a2 a3 n cx n2 c2 n3 c3 ds js vs w4 D4.out HD.out J4.out hka2.out.1 hka2.out.2 V4.out).mono ?_
  rintro e w5 ⟨v1, rfl, hres⟩
  obtain ⟨⟨pH, qH, rfl, hX, -⟩, hbx⟩ := hres
  have hb5 : Below w4.heap.size w4 w5 := hbx
  have B5 : Aside (Below w.heap.size w w5) := B4.out.trans (hb5.mono B4.out.size)
  have P5 : Aside (Pow w5) := P4.out.keep hb5
  have J5 : Aside (dice.KeysIn .u16 w5 a2 js) := J4.out.keep hb5
  have V5 : Aside (Nums .i64 w5 a3 n3 c3 vs) := V4.out.keep hb5
  have C5 : Aside (Nums .u8 w5 a4 n4 c4 ch) := C4.out.keep hb5
  have A5 : Aside (Nums .u16 w5 a5 n5 c5 la) := A4.out.keep hb5
  have Bb5 : Aside (Nums .u16 w5 a6 n6 c6 lb) := Bb4.out.keep hb5
  have D5 : Aside (DimsIn w5 (some ⟨gx, 0, none⟩) ds) := D4.out.keep hb5
  have TS5 : Aside (TabL w5 pS mS qS tS) := TS4.out.keep hb5
  clear hb5 B4 P4 J4 V4 C4 A4 Bb4 D4 TS4
  have HH : Aside (Fine (factL ds js vs n2) ∧ ∀ f ∈ factL ds js vs n2, Mem n f.1) := ⟨fact_fine (i64_all V5.out) hka2.out.2, fact_mem ⟨HD.out.len, HD.out.siz⟩ _ _ _⟩
  have GH5 : Aside (FactL w5 pH n2 (factL ds js vs n2)) := hX
  clear hX hbx
  have hH5' : Aside ((factL ds js vs n2).length ≤ 150) := by show _ ≤ _; rw [factL_len]; exact hN.out.2
  generalize factL ds js vs n2 = H at HH hH5' GH5
  clear J5
  clear V5
  go_wp2_with fail
  refine (refMake_made pH n2 qH n H w5  GH5.out (by have := hka2.out.2; omega) hn4 HH.out.2).mono ?_
  rintro e w6 ⟨v1, rfl, hres⟩
  obtain ⟨⟨pR, mR, qR, rfl, hX, hmR⟩, hbx⟩ := hres
  have hb6 : Below w5.heap.size w5 w6 := hbx
  have B6 : Aside (Below w.heap.size w w6) := B5.out.trans (hb6.mono B5.out.size)
  have P6 : Aside (Pow w6) := P5.out.keep hb6
  have C6 : Aside (Nums .u8 w6 a4 n4 c4 ch) := C5.out.keep hb6
  have A6 : Aside (Nums .u16 w6 a5 n5 c5 la) := A5.out.keep hb6
  have Bb6 : Aside (Nums .u16 w6 a6 n6 c6 lb) := Bb5.out.keep hb6
  have D6 : Aside (DimsIn w6 (some ⟨gx, 0, none⟩) ds) := D5.out.keep hb6
  have TS6 : Aside (TabL w6 pS mS qS tS) := TS5.out.keep hb6
  have GH6 : Aside (FactL w6 pH n2 H) := GH5.out.keep hb6
  clear hb6 B5 P5 C5 A5 Bb5 D5 TS5 GH5
  have MR : Aside (MT n (tab (rowsOf H)) H) := MT.make HH.out.1 HH.out.2
  have TR6 : Aside (TabL w6 pR mR qR (tab (rowsOf H))) := hX
  have hmR2 : mR ≤ 1000 := by have := hka2.out.2; omega
  clear hX hbx
  generalize tab (rowsOf H) = tR at MR TR6
  clear GH6
  go_wp2_with fail
  refine (ask_made _ a4 a5 a6 n cx n4 c4 n5 c5 n6 c6 ds ch la lb w6 D6.out HD.out C6.out A6.out Bb6.out).mono ?_
  rintro e w7 ⟨v1, rfl, hres⟩
  obtain ⟨base, gL, p1, p2, qL, q1, q2, L, lo, hi, rfl, hQ, hAP⟩ := hres
  have hbx := hQ.bel
  have hb7 : Below w6.heap.size w6 w7 := hbx
  have B7 : Aside (Below w.heap.size w w7) := B6.out.trans (hb7.mono B6.out.size)
  have P7 : Aside (Pow w7) := P6.out.keep hb7
  have C7 : Aside (Nums .u8 w7 a4 n4 c4 ch) := C6.out.keep hb7
  have A7 : Aside (Nums .u16 w7 a5 n5 c5 la) := A6.out.keep hb7
  have Bb7 : Aside (Nums .u16 w7 a6 n6 c6 lb) := Bb6.out.keep hb7
  have D7 : Aside (DimsIn w7 (some ⟨gx, 0, none⟩) ds) := D6.out.keep hb7
  have TS7 : Aside (TabL w7 pS mS qS tS) := TS6.out.keep hb7
  have TR7 : Aside (TabL w7 pR mR qR tR) := TR6.out.keep hb7
  clear hb7 B6 P6 C6 A6 Bb6 D6 TS6 TR6
  have HA : Aside (AskP ds n L lo hi) := hAP
  have Q7 : Aside (AskQ w6 base ds n gL p1 p2 qL q1 q2 L lo hi w7) := hQ
  clear hQ hAP hbx
  clear C7
  clear A7
  clear Bb7
  have hXU : QB w7 w7.heap.size (.slice (some ⟨gL, 0, none⟩) n qL) (.slice p1 n q1) (.slice p2 n q2) (w7.alloc (.cells #[.slice (some ⟨gL, 0, none⟩) n qL, .slice p1 n q1, .slice p2 n q2] 26)) := QB.start _ _ _ _ _
  go_wp2_with fail
  generalize (w7.alloc (.cells #[.slice (some ⟨gL, 0, none⟩) n qL, .slice p1 n q1, .slice p2 n q2] 26)) = w8 at hXU ⊢
  obtain ⟨gU, hgU⟩ : ∃ g, w7.heap.size = g := ⟨_, rfl⟩
  have hbU := hXU.bel
  rw [hgU] at hXU ⊢
  have hcU := (⟨hXU.c1, hXU.c2, hXU.c3⟩ : Cel3 gU (.slice (some ⟨gL, 0, none⟩) n qL) (.slice p1 n q1) (.slice p2 n q2) w8)
  have hb8 : Below w7.heap.size w7 w8 := hbU
  have B8 : Aside (Below w.heap.size w w8) := B7.out.trans (hb8.mono B7.out.size)
  have P8 : Aside (Pow w8) := P7.out.keep hb8
  have D8 : Aside (DimsIn w8 (some ⟨gx, 0, none⟩) ds) := D7.out.keep hb8
  have TS8 : Aside (TabL w8 pS mS qS tS) := TS7.out.keep hb8
  have TR8 : Aside (TabL w8 pR mR qR tR) := TR7.out.keep hb8
  have Q8 : Aside (AskQ w6 base ds n gL p1 p2 qL q1 q2 L lo hi w8) := Q7.out.keep hb8
  clear hb8 B7 P7 D7 TS7 TR7 Q7
  have U8 : Aside (Cel3 gU (.slice (some ⟨gL, 0, none⟩) n qL) (.slice p1 n q1) (.slice p2 n q2) w8) := hcU
  clear hXU hbU hcU hgU
  have hF5 : Aside (F.length ≤ 500) := by have := hF5'.out; show _ ≤ _; omega
  have hH5 : Aside (H.length ≤ 500) := by have := hH5'.out; show _ ≤ _; omega
  have HFH : Aside (Fine (F ++ H)) := ⟨fun f hf => by rcases List.mem_append.1 hf with h | h; exact HF.out.1.1 f h; exact HH.out.1.1 f h, by have h1 := hF5'.out; have h2 := hH5'.out; rw [List.length_append]; omega⟩
  have hFH5 : Aside (F.length + H.length ≤ 500) := by have h1 := hF5'.out; have h2 := hH5'.out; show _ ≤ _; omega
  have Uk1 := U8.out.c1
  have Uk2 := U8.out.c2
  have Uk3 := U8.out.c3
  
  clear Uk1 Uk2 Uk3
  refine (run_made _ pS _ p1 p2 n cx mS qS qL q1 q2 ds tS F L lo hi w8 P8.out D8.out HD.out TS8.out MS.out hmS2 hF5.out Q8.out.lev HA.out.lev Q8.out.low Q8.out.high HA.out.box).mono ?_
  rintro e w9 ⟨v1, rfl, hres⟩
  obtain ⟨⟨pX, mX, qX, rfl, hX, hmX⟩, hbx⟩ := hres
  have hb9 : Below w8.heap.size w8 w9 := hbx
  have B9 : Aside (Below w.heap.size w w9) := B8.out.trans (hb9.mono B8.out.size)
  have P9 : Aside (Pow w9) := P8.out.keep hb9
  have D9 : Aside (DimsIn w9 (some ⟨gx, 0, none⟩) ds) := D8.out.keep hb9
  have TS9 : Aside (TabL w9 pS mS qS tS) := TS8.out.keep hb9
  have TR9 : Aside (TabL w9 pR mR qR tR) := TR8.out.keep hb9
  have Q9 : Aside (AskQ w6 base ds n gL p1 p2 qL q1 q2 L lo hi w9) := Q8.out.keep hb9
  have U9 : Aside (Cel3 gU (.slice (some ⟨gL, 0, none⟩) n qL) (.slice p1 n q1) (.slice p2 n q2) w9) := U8.out.keep hb9
  clear hb9 B8 P8 D8 TS8 TR8 Q8 U8
  have MX : Aside (MT n (runT ds tS L lo hi) (runF ds L lo hi F)) := MT.run MS.out HA.out.lev HD.out.len HD.out.snd
  have TX9 : Aside (TabL w9 pX mX qX (runT ds tS L lo hi)) := hX
  have hmXF : Aside (mX ≤ (runF ds L lo hi F).length) := hmX
  clear hX hbx hmX
  have Uk1 := U9.out.c1
  have Uk2 := U9.out.c2
  have Uk3 := U9.out.c3
  go_wp2_with fail
  clear Uk1 Uk2 Uk3
  refine (run_made _ pR _ p1 p2 n cx mR qR qL q1 q2 ds tR H L lo hi w9 P9.out D9.out HD.out TR9.out MR.out hmR2 hH5.out Q9.out.lev HA.out.lev Q9.out.low Q9.out.high HA.out.box).mono ?_
  rintro e w10 ⟨v1, rfl, hres⟩
  obtain ⟨⟨pY, mY, qY, rfl, hX, hmY⟩, hbx⟩ := hres
  have hb10 : Below w9.heap.size w9 w10 := hbx
  have B10 : Aside (Below w.heap.size w w10) := B9.out.trans (hb10.mono B9.out.size)
  have P10 : Aside (Pow w10) := P9.out.keep hb10
  have D10 : Aside (DimsIn w10 (some ⟨gx, 0, none⟩) ds) := D9.out.keep hb10
  have TS10 : Aside (TabL w10 pS mS qS tS) := TS9.out.keep hb10
  have TR10 : Aside (TabL w10 pR mR qR tR) := TR9.out.keep hb10
  have Q10 : Aside (AskQ w6 base ds n gL p1 p2 qL q1 q2 L lo hi w10) := Q9.out.keep hb10
  have U10 : Aside (Cel3 gU (.slice (some ⟨gL, 0, none⟩) n qL) (.slice p1 n q1) (.slice p2 n q2) w10) := U9.out.keep hb10
  have TX10 : Aside (TabL w10 pX mX qX (runT ds tS L lo hi)) := TX9.out.keep hb10
  clear hb10 B9 P9 D9 TS9 TR9 Q9 U9 TX9
  have MY : Aside (MT n (runT ds tR L lo hi) (runF ds L lo hi H)) := MT.run MR.out HA.out.lev HD.out.len HD.out.snd
  have TY10 : Aside (TabL w10 pY mY qY (runT ds tR L lo hi)) := hX
  have hmYF : Aside (mY ≤ (runF ds L lo hi H).length) := hmY
  clear hX hbx hmY
  have Uk1 := U10.out.c1
  have Uk2 := U10.out.c2
  have Uk3 := U10.out.c3
  have hA : ∀ W, Below w10.heap.size w10 W → Calls Tryd.prog 22 #[.slice pS mS qS, .slice pR mR qR] W fun e w' => ∃ p m q, e = .returned (.slice p m q) ∧ (TabL w' p m q (tab (tS ++ tR)) ∧ m ≤ 1000) ∧ Below W.heap.size W w' := fun W hW => refMerge_made pS pR mS qS mR qR n tS tR F H W (TS10.out.keep hW) (TR10.out.keep hW) MS.out MR.out (by have := hmS; have := hN.out; omega) (by have := hmR; have := hN.out; omega) hn4
  have MG : Aside (MT n (tab (tS ++ tR)) (F ++ H)) := MS.out.merge MR.out HFH.out
  have hB : ∀ W p m q, Below w10.heap.size w10 W → (TabL W p m q (tab (tS ++ tR)) ∧ m ≤ 1000) → Calls Tryd.prog 11 #[.slice (some ⟨gx, 0, none⟩) n cx, .slice p m q, .agg #[.slice (some ⟨gL, 0, none⟩) n qL, .slice p1 n q1, .slice p2 n q2]] W fun e w' => ∃ p m q, e = .returned (.tuple #[.slice p m q, .int .u16 0]) ∧ TabL w' p m q (runT ds (tab (tS ++ tR)) L lo hi) ∧ Below W.heap.size W w' := fun W p m q hW hK => by
    refine (run_made _ p _ p1 p2 n cx m q qL q1 q2 ds _ (F ++ H) L lo hi W (P10.out.keep hW) (D10.out.keep hW) HD.out hK.1 MG.out hK.2 (by rw [List.length_append]; exact hFH5.out) (Q10.out.keep hW).lev HA.out.lev (Q10.out.keep hW).low (Q10.out.keep hW).high HA.out.box).mono ?_
    rintro e w1 ⟨v1, rfl, ⟨⟨p', m', q', rfl, hX, -⟩, hbx⟩⟩
    exact ⟨p', m', q', rfl, hX, hbx⟩
  go_wp2_with fail
  go_region_held3 (fun w' => Below w10.heap.size w10 w' ∧ w'.cell? ⟨gU, 0, none⟩ = some (.slice (some ⟨gL, 0, none⟩) n qL) ∧ w'.cell? ⟨gU, 1, none⟩ = some (.slice p1 n q1) ∧ w'.cell? ⟨gU, 2, none⟩ = some (.slice p2 n q2))
    (first | with_reducible assumption | (exact ⟨(Below.refl _ _).drew, Uk1, Uk2, Uk3⟩) | (refine keepQ (W0 := w10) (B := gU) (x1 := .slice (some ⟨gL, 0, none⟩) n qL) (x2 := .slice p1 n q1) (x3 := .slice p2 n q2) hb1' ?_; with_reducible assumption) | (refine keepQ (W0 := w10) (B := gU) (x1 := .slice (some ⟨gL, 0, none⟩) n qL) (x2 := .slice p1 n q1) (x3 := .slice p2 n q2) hb2' ?_; with_reducible assumption))
    (first | (go_at_call 22; refine (hA _ ?_).mono ?_; (focus (apply And.left; assumption)); rintro e wa ⟨pG, mG, qG, rfl, hK1, hb1'⟩) | (go_at_call 11; refine (hB _ pG mG qG ?_ hK1).mono ?_; (focus (apply And.left; assumption)); rintro e wb ⟨pZ, mZ, qZ, rfl, hT2, hb2'⟩))
  have hbR : Below w10.heap.size w10 wb := by apply And.left; assumption
  clear hA hB hK1 hb1' hb2' Uk1 Uk2 Uk3
  obtain ⟨w11, hwb⟩ : ∃ W, wb = W := ⟨_, rfl⟩
  rw [hwb] at hT2 hbR ⊢
  clear hwb
  have hb11 : Below w10.heap.size w10 w11 := hbR
  have B11 : Aside (Below w.heap.size w w11) := B10.out.trans (hb11.mono B10.out.size)
  have P11 : Aside (Pow w11) := P10.out.keep hb11
  have D11 : Aside (DimsIn w11 (some ⟨gx, 0, none⟩) ds) := D10.out.keep hb11
  have TS11 : Aside (TabL w11 pS mS qS tS) := TS10.out.keep hb11
  have TR11 : Aside (TabL w11 pR mR qR tR) := TR10.out.keep hb11
  have Q11 : Aside (AskQ w6 base ds n gL p1 p2 qL q1 q2 L lo hi w11) := Q10.out.keep hb11
  have U11 : Aside (Cel3 gU (.slice (some ⟨gL, 0, none⟩) n qL) (.slice p1 n q1) (.slice p2 n q2) w11) := U10.out.keep hb11
  have TX11 : Aside (TabL w11 pX mX qX (runT ds tS L lo hi)) := TX10.out.keep hb11
  have TY11 : Aside (TabL w11 pY mY qY (runT ds tR L lo hi)) := TY10.out.keep hb11
  clear hb11 B10 P10 D10 TS10 TR10 Q10 U10 TX10 TY10
  clear hbR
  have MZ : Aside (MT n (runT ds (tab (tS ++ tR)) L lo hi) (runF ds L lo hi (F ++ H))) := MT.run MG.out HA.out.lev HD.out.len HD.out.snd
  have TZ11 : Aside (TabL w11 pZ mZ qZ (runT ds (tab (tS ++ tR)) L lo hi)) := hT2
  clear hT2
  have d0 : (w11.alloc (.cells #[.slice pX mX qX, .slice pY mY qY] 23)).cell? ⟨w11.heap.size, 0, none⟩ = some (.slice pX mX qX) := by simp [go_sem]
  have d1 : (w11.alloc (.cells #[.slice pX mX qX, .slice pY mY qY] 23)).cell? ⟨w11.heap.size, 1, none⟩ = some (.slice pY mY qY) := by simp [go_sem]
  have hbl : Below w11.heap.size w11 (w11.alloc (.cells #[.slice pX mX qX, .slice pY mY qY] 23)) := (Below.refl _ _).alloc (Nat.le_refl _) _
  go_wp2_with fail
  generalize (w11.alloc (.cells #[.slice pX mX qX, .slice pY mY qY] 23)) = w12 at d0 d1 hbl ⊢
  obtain ⟨gJ, hgJ⟩ : ∃ g, w11.heap.size = g := ⟨_, rfl⟩
  rw [hgJ] at d0 d1 ⊢
  have hb12 : Below w11.heap.size w11 w12 := hbl
  have B12 : Aside (Below w.heap.size w w12) := B11.out.trans (hb12.mono B11.out.size)
  have P12 : Aside (Pow w12) := P11.out.keep hb12
  have D12 : Aside (DimsIn w12 (some ⟨gx, 0, none⟩) ds) := D11.out.keep hb12
  have TS12 : Aside (TabL w12 pS mS qS tS) := TS11.out.keep hb12
  have TR12 : Aside (TabL w12 pR mR qR tR) := TR11.out.keep hb12
  have Q12 : Aside (AskQ w6 base ds n gL p1 p2 qL q1 q2 L lo hi w12) := Q11.out.keep hb12
  have U12 : Aside (Cel3 gU (.slice (some ⟨gL, 0, none⟩) n qL) (.slice p1 n q1) (.slice p2 n q2) w12) := U11.out.keep hb12
  have TX12 : Aside (TabL w12 pX mX qX (runT ds tS L lo hi)) := TX11.out.keep hb12
  have TY12 : Aside (TabL w12 pY mY qY (runT ds tR L lo hi)) := TY11.out.keep hb12
  have TZ12 : Aside (TabL w12 pZ mZ qZ (runT ds (tab (tS ++ tR)) L lo hi)) := TZ11.out.keep hb12
  clear hb12 B11 P11 D11 TS11 TR11 Q11 U11 TX11 TY11 TZ11
  clear hbl hgJ
  refine (join_made2 gJ pX pY mX qX mY qY n _ _ (runF ds L lo hi F) (runF ds L lo hi H) w12 P12.out d0 d1 TX12.out TY12.out MX.out MY.out (by have := hmXF.out; have := runF_len ds L lo hi F; have := hF5.out; omega) (by have := hmYF.out; have := runF_len ds L lo hi H; have := hH5.out; omega) hn4 (fine_two HFH.out ds L lo hi) (run_len2 ds L lo hi hFH5.out)).mono ?_
  rintro e w13 ⟨v1, rfl, hres⟩
  obtain ⟨⟨pP2, mP2, qP2, rfl, hX, -⟩, hbx⟩ := hres
  have hb13 : Below w12.heap.size w12 w13 := hbx
  have B13 : Aside (Below w.heap.size w w13) := B12.out.trans (hb13.mono B12.out.size)
  have P13 : Aside (Pow w13) := P12.out.keep hb13
  have D13 : Aside (DimsIn w13 (some ⟨gx, 0, none⟩) ds) := D12.out.keep hb13
  have TS13 : Aside (TabL w13 pS mS qS tS) := TS12.out.keep hb13
  have TR13 : Aside (TabL w13 pR mR qR tR) := TR12.out.keep hb13
  have Q13 : Aside (AskQ w6 base ds n gL p1 p2 qL q1 q2 L lo hi w13) := Q12.out.keep hb13
  have U13 : Aside (Cel3 gU (.slice (some ⟨gL, 0, none⟩) n qL) (.slice p1 n q1) (.slice p2 n q2) w13) := U12.out.keep hb13
  have TX13 : Aside (TabL w13 pX mX qX (runT ds tS L lo hi)) := TX12.out.keep hb13
  have TY13 : Aside (TabL w13 pY mY qY (runT ds tR L lo hi)) := TY12.out.keep hb13
  have TZ13 : Aside (TabL w13 pZ mZ qZ (runT ds (tab (tS ++ tR)) L lo hi)) := TZ12.out.keep hb13
  clear hb13 B12 P12 D12 TS12 TR12 Q12 U12 TX12 TY12 TZ12
  have TP213 : Aside (TabL w13 pP2 mP2 qP2 (tab (runT ds tS L lo hi ++ runT ds tR L lo hi))) := hX
  clear hX hbx d0 d1
  have d0 : (w13.alloc (.cells #[.slice pY mY qY, .slice none 0 0, .slice pX mX qX] 23)).cell? ⟨w13.heap.size, 0, none⟩ = some (.slice pY mY qY) := by simp [go_sem]
  have d1 : (w13.alloc (.cells #[.slice pY mY qY, .slice none 0 0, .slice pX mX qX] 23)).cell? ⟨w13.heap.size, 1, none⟩ = some (.slice none 0 0) := by simp [go_sem]
  have d2 : (w13.alloc (.cells #[.slice pY mY qY, .slice none 0 0, .slice pX mX qX] 23)).cell? ⟨w13.heap.size, 2, none⟩ = some (.slice pX mX qX) := by simp [go_sem]
  have hbl : Below w13.heap.size w13 (w13.alloc (.cells #[.slice pY mY qY, .slice none 0 0, .slice pX mX qX] 23)) := (Below.refl _ _).alloc (Nat.le_refl _) _
  go_wp2_with fail
  generalize (w13.alloc (.cells #[.slice pY mY qY, .slice none 0 0, .slice pX mX qX] 23)) = w14 at d0 d1 d2 hbl ⊢
  obtain ⟨gI, hgI⟩ : ∃ g, w13.heap.size = g := ⟨_, rfl⟩
  rw [hgI] at d0 d1 d2 ⊢
  have hb14 : Below w13.heap.size w13 w14 := hbl
  have B14 : Aside (Below w.heap.size w w14) := B13.out.trans (hb14.mono B13.out.size)
  have P14 : Aside (Pow w14) := P13.out.keep hb14
  have D14 : Aside (DimsIn w14 (some ⟨gx, 0, none⟩) ds) := D13.out.keep hb14
  have TS14 : Aside (TabL w14 pS mS qS tS) := TS13.out.keep hb14
  have TR14 : Aside (TabL w14 pR mR qR tR) := TR13.out.keep hb14
  have Q14 : Aside (AskQ w6 base ds n gL p1 p2 qL q1 q2 L lo hi w14) := Q13.out.keep hb14
  have U14 : Aside (Cel3 gU (.slice (some ⟨gL, 0, none⟩) n qL) (.slice p1 n q1) (.slice p2 n q2) w14) := U13.out.keep hb14
  have TX14 : Aside (TabL w14 pX mX qX (runT ds tS L lo hi)) := TX13.out.keep hb14
  have TY14 : Aside (TabL w14 pY mY qY (runT ds tR L lo hi)) := TY13.out.keep hb14
  have TZ14 : Aside (TabL w14 pZ mZ qZ (runT ds (tab (tS ++ tR)) L lo hi)) := TZ13.out.keep hb14
  have TP214 : Aside (TabL w14 pP2 mP2 qP2 (tab (runT ds tS L lo hi ++ runT ds tR L lo hi))) := TP213.out.keep hb14
  clear hb14 B13 P13 D13 TS13 TR13 Q13 U13 TX13 TY13 TZ13 TP213
  clear hbl hgI
  refine (join_made3 gI pY pX mY qY mX qX n _ _ (runF ds L lo hi H) (runF ds L lo hi F) w14 P14.out d0 d1 d2 TY14.out TX14.out MY.out MX.out (by have := hmYF.out; have := runF_len ds L lo hi H; have := hH5.out; omega) (by have := hmXF.out; have := runF_len ds L lo hi F; have := hF5.out; omega) hn4 (fine_two (fine_swap HFH.out) ds L lo hi) (run_len2 ds L lo hi (by have := hFH5.out; omega))).mono ?_
  rintro e w15 ⟨v1, rfl, hres⟩
  obtain ⟨⟨pP3, mP3, qP3, rfl, hX, -⟩, hbx⟩ := hres
  have hb15 : Below w14.heap.size w14 w15 := hbx
  have B15 : Aside (Below w.heap.size w w15) := B14.out.trans (hb15.mono B14.out.size)
  have P15 : Aside (Pow w15) := P14.out.keep hb15
  have D15 : Aside (DimsIn w15 (some ⟨gx, 0, none⟩) ds) := D14.out.keep hb15
  have TS15 : Aside (TabL w15 pS mS qS tS) := TS14.out.keep hb15
  have TR15 : Aside (TabL w15 pR mR qR tR) := TR14.out.keep hb15
  have Q15 : Aside (AskQ w6 base ds n gL p1 p2 qL q1 q2 L lo hi w15) := Q14.out.keep hb15
  have U15 : Aside (Cel3 gU (.slice (some ⟨gL, 0, none⟩) n qL) (.slice p1 n q1) (.slice p2 n q2) w15) := U14.out.keep hb15
  have TX15 : Aside (TabL w15 pX mX qX (runT ds tS L lo hi)) := TX14.out.keep hb15
  have TY15 : Aside (TabL w15 pY mY qY (runT ds tR L lo hi)) := TY14.out.keep hb15
  have TZ15 : Aside (TabL w15 pZ mZ qZ (runT ds (tab (tS ++ tR)) L lo hi)) := TZ14.out.keep hb15
  have TP215 : Aside (TabL w15 pP2 mP2 qP2 (tab (runT ds tS L lo hi ++ runT ds tR L lo hi))) := TP214.out.keep hb15
  clear hb15 B14 P14 D14 TS14 TR14 Q14 U14 TX14 TY14 TZ14 TP214
  have TP315 : Aside (TabL w15 pP3 mP3 qP3 (tab (runT ds tR L lo hi ++ runT ds tS L lo hi))) := hX
  clear hX hbx d0 d1 d2
  go_wp2_with fail
  refine (same_made pP2 pZ mP2 qP2 mZ qZ _ _ w15 TP215.out TZ15.out (two_parts MX.out MY.out MZ.out HFH.out)).mono ?_
  rintro e w16 ⟨rfl, hbx⟩
  have hb16 : Below w15.heap.size w15 w16 := hbx
  have B16 : Aside (Below w.heap.size w w16) := B15.out.trans (hb16.mono B15.out.size)
  have P16 : Aside (Pow w16) := P15.out.keep hb16
  have D16 : Aside (DimsIn w16 (some ⟨gx, 0, none⟩) ds) := D15.out.keep hb16
  have TS16 : Aside (TabL w16 pS mS qS tS) := TS15.out.keep hb16
  have TR16 : Aside (TabL w16 pR mR qR tR) := TR15.out.keep hb16
  have Q16 : Aside (AskQ w6 base ds n gL p1 p2 qL q1 q2 L lo hi w16) := Q15.out.keep hb16
  have U16 : Aside (Cel3 gU (.slice (some ⟨gL, 0, none⟩) n qL) (.slice p1 n q1) (.slice p2 n q2) w16) := U15.out.keep hb16
  have TX16 : Aside (TabL w16 pX mX qX (runT ds tS L lo hi)) := TX15.out.keep hb16
  have TY16 : Aside (TabL w16 pY mY qY (runT ds tR L lo hi)) := TY15.out.keep hb16
  have TZ16 : Aside (TabL w16 pZ mZ qZ (runT ds (tab (tS ++ tR)) L lo hi)) := TZ15.out.keep hb16
  have TP216 : Aside (TabL w16 pP2 mP2 qP2 (tab (runT ds tS L lo hi ++ runT ds tR L lo hi))) := TP215.out.keep hb16
  have TP316 : Aside (TabL w16 pP3 mP3 qP3 (tab (runT ds tR L lo hi ++ runT ds tS L lo hi))) := TP315.out.keep hb16
  clear hb16 B15 P15 D15 TS15 TR15 Q15 U15 TX15 TY15 TZ15 TP215 TP315
  clear hbx
  go_wp2_with fail
  refine (same_made pP3 pZ mP3 qP3 mZ qZ _ _ w16 TP316.out TZ16.out (two_swap MX.out MY.out MZ.out HFH.out)).mono ?_
  rintro e w17 ⟨rfl, hbx⟩
  have hb17 : Below w16.heap.size w16 w17 := hbx
  have B17 : Aside (Below w.heap.size w w17) := B16.out.trans (hb17.mono B16.out.size)
  have P17 : Aside (Pow w17) := P16.out.keep hb17
  have D17 : Aside (DimsIn w17 (some ⟨gx, 0, none⟩) ds) := D16.out.keep hb17
  have TS17 : Aside (TabL w17 pS mS qS tS) := TS16.out.keep hb17
  have TR17 : Aside (TabL w17 pR mR qR tR) := TR16.out.keep hb17
  have Q17 : Aside (AskQ w6 base ds n gL p1 p2 qL q1 q2 L lo hi w17) := Q16.out.keep hb17
  have U17 : Aside (Cel3 gU (.slice (some ⟨gL, 0, none⟩) n qL) (.slice p1 n q1) (.slice p2 n q2) w17) := U16.out.keep hb17
  have TX17 : Aside (TabL w17 pX mX qX (runT ds tS L lo hi)) := TX16.out.keep hb17
  have TY17 : Aside (TabL w17 pY mY qY (runT ds tR L lo hi)) := TY16.out.keep hb17
  have TZ17 : Aside (TabL w17 pZ mZ qZ (runT ds (tab (tS ++ tR)) L lo hi)) := TZ16.out.keep hb17
  have TP217 : Aside (TabL w17 pP2 mP2 qP2 (tab (runT ds tS L lo hi ++ runT ds tR L lo hi))) := TP216.out.keep hb17
  have TP317 : Aside (TabL w17 pP3 mP3 qP3 (tab (runT ds tR L lo hi ++ runT ds tS L lo hi))) := TP316.out.keep hb17
  clear hb17 B16 P16 D16 TS16 TR16 Q16 U16 TX16 TY16 TZ16 TP216 TP316
  clear hbx
  go_wp2
  go_ret
  exact ⟨rfl, B17.out⟩
end Go.Proofs.YtgimknplckkiaaaDoor.query
