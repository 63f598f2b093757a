/-
  The walk of TableSounds: of whatever rows, places and choices the call answers true.
-/
import Derived.Test.YtfchpcmiipnbjaaDoorTableWork
import Derived.Test.YtfchpcmiipnbjaaDoorTableOpenR
namespace Go.Proofs.YtfchpcmiipnbjaaDoor.table
open Go.ChangeShapes Go.WideShapes Go.ChangeAt Go.RowKit Go.Deep
open Go.Proofs.YtfchpcmiipnbjaaDoor.dims
open Go.Proofs.YtfchpcmiipnbjaaDoor.dice (Kr kn)
open Go.Proofs.YtfchpcmiipnbjaaDoor.cell (C4 mrg all one zero In64)
set_option linter.unusedVariables false
set_option maxRecDepth 100000

set_option maxHeartbeats 8000000 in
theorem sounds_walk (a0 a2 a3 a4 : Option Addr) (n0 c0 n2 c2 n3 c3 n4 c4 : Nat) (rs : List Rw) (p : Int) (cs : List Dm) (ks : List Kr) (vs : List Int) (w : World) (hp : Pow w) (h0 : RowsIn w a0 rs) (e0 : rs.length = n0 ∧ n0 ≤ c0 ∧ c0 ≤ maxLen) (b0 : ∀ f ∈ rs, f.k.length ≤ 17592186044416) (pM : Pairs .u16 .u8 w a2 cs) (pm : cs.length = n2 ∧ n2 ≤ c2 ∧ c2 ≤ maxLen) (pK : dice.KeysIn .u16 w a3 ks) (pk : ks.length = n3 ∧ n3 ≤ c3 ∧ c3 ≤ maxLen) (pV : Nums .i64 w a4 n4 c4 vs) :
    Calls Tryd.prog 3 #[.slice a0 n0 c0, .int .i64 p, .slice a2 n2 c2, .slice a3 n3 c3, .slice a4 n4 c4] w fun e w' => e = .returned (.bool true) ∧ Below w.heap.size w w' := by
  have hn0 : n0 ≤ 9223372036854775807 := Nat.le_trans e0.2.1 (Nat.le_trans e0.2.2 maxLen_le2)
  have hmc : n2 ≤ 9223372036854775807 := Nat.le_trans pm.2.1 (Nat.le_trans pm.2.2 maxLen_le2)
  have hH1 := heavy_any a0 none n0 0 c0 0 rs [] w h0 e0.1 hn0 (.inl rfl) rfl (by omega) b0 (fun r hr => by simp at hr)
  have HE : Aside (rs.length = n0 ∧ cs.length = n2) := ⟨e0.1, pm.1⟩
  have hkl : Aside (ks.length = n3) := pk.1
  have P0 : Aside (Pow w) := hp
  have R0 : Aside (RowsIn w a0 rs) := h0
  have M0 : Aside (Pairs .u16 .u8 w a2 cs) := pM
  have K0 : Aside (dice.KeysIn .u16 w a3 ks) := pK
  have V0 : Aside (Nums .i64 w a4 n4 c4 vs) := pV
  clear hp h0 e0 b0 pM pm pK pk pV
  go_enter Tryd.func3, Tryd.ntmps3
  go_wp2_with fail
  refine hH1.mono ?_
  rintro e wx ⟨hh, hw⟩
  obtain rfl : w = wx := hw.symm
  clear hH1 hw
  rcases hh with rfl | ⟨rfl, -⟩
  · have CK := known_any w P0.out
    go_wp2_with (go_at_call 12; refine CK.mono ?_; rintro e wx ⟨rfl, hbx⟩)
    go_ret
    exact ⟨rfl, hbx⟩
  by_cases h200 : (200 : Int) < (n3 : Int)
  · have CK := known_any w P0.out
    go_wp2_with (go_at_call 12; refine CK.mono ?_; rintro e wx ⟨rfl, hbx⟩)
    go_ret
    exact ⟨rfl, hbx⟩
  have hka3 : Hid (ks.length = n3 ∧ n3 ≤ 200) := ⟨hkl.out, by omega⟩
  have CK := known_any w P0.out
  go_wp2_with (go_at_call 12; refine CK.mono ?_; rintro e w1 ⟨rfl, hbx⟩; refine Hid.out ?_)
  refine Lib.hid ?_
  have hb1 : Below w.heap.size w w1 := hbx
  have B1 : Aside (Below w.heap.size w w1) := hb1
  have P1 : Aside (Pow w1) := P0.out.keep hb1
  have R1 : Aside (RowsIn w1 a0 rs) := R0.out.keep hb1
  have M1 : Aside (Pairs .u16 .u8 w1 a2 cs) := M0.out.keep hb1
  have K1 : Aside (dice.KeysIn .u16 w1 a3 ks) := K0.out.keep hb1
  have V1 : Aside (Nums .i64 w1 a4 n4 c4 vs) := V0.out.keep hb1
  clear hb1  P0 R0 M0 K0 V0
  clear CK hbx
  go_wp2_with fail
  refine (of_made a2 n2 c2 cs w1 M1.out HE.out.2 hmc).mono ?_
  rintro e w2 ⟨v1, rfl, hres⟩
  obtain ⟨ds, gx, n, cx, rfl, hX, hDD, hbx⟩ := hres
  have hb2 : Below w1.heap.size w1 w2 := hbx
  have B2 : Aside (Below w.heap.size w w2) := B1.out.trans (hb2.mono B1.out.size)
  have P2 : Aside (Pow w2) := P1.out.keep hb2
  have R2 : Aside (RowsIn w2 a0 rs) := R1.out.keep hb2
  have M2 : Aside (Pairs .u16 .u8 w2 a2 cs) := M1.out.keep hb2
  have K2 : Aside (dice.KeysIn .u16 w2 a3 ks) := K1.out.keep hb2
  have V2 : Aside (Nums .i64 w2 a4 n4 c4 vs) := V1.out.keep hb2
  clear hb2 B1 P1 R1 M1 K1 V1
  have HD : Aside (Dims ds n) := hDD
  have hn4 := hDD.few
  have hn1 := hDD.one
  have D2 : Aside (DimsIn w2 (some ⟨gx, 0, none⟩) ds) := hX
  clear hX hDD hbx
  clear M2
  go_wp2_with fail
  refine (facts_made _ a3 a4 n cx n3 c3 n4 c4 ds ks vs w2 D2.out HD.out K2.out hka3.out.1 hka3.out.2 V2.out).mono ?_
  rintro e w3 ⟨v1, rfl, hres⟩
  obtain ⟨⟨pF, qF, rfl, hX, -⟩, hbx⟩ := hres
  have hb3 : Below w2.heap.size w2 w3 := hbx
  have B3 : Aside (Below w.heap.size w w3) := B2.out.trans (hb3.mono B2.out.size)
  have P3 : Aside (Pow w3) := P2.out.keep hb3
  have R3 : Aside (RowsIn w3 a0 rs) := R2.out.keep hb3
  have K3 : Aside (dice.KeysIn .u16 w3 a3 ks) := K2.out.keep hb3
  have V3 : Aside (Nums .i64 w3 a4 n4 c4 vs) := V2.out.keep hb3
  have D3 : Aside (DimsIn w3 (some ⟨gx, 0, none⟩) ds) := D2.out.keep hb3
  clear hb3 B2 P2 R2 K2 V2 D2
  have HF : Aside (Fine (factL ds ks vs n3) ∧ ∀ f ∈ factL ds ks vs n3, Mem n f.1) := ⟨fact_fine (i64_all V3.out) hka3.out.2, fact_mem ⟨HD.out.len, HD.out.siz⟩ _ _ _⟩
  have GF3 : Aside (FactL w3 pF n3 (factL ds ks vs n3)) := hX
  clear hX hbx
  generalize factL ds ks vs n3 = F at HF GF3
  clear K3
  clear V3
  clear D3
  go_wp2_with fail
  refine (make_made pF n3 qF n F w3 P3.out GF3.out (by have := hka3.out.2; omega) hn4 HF.out.2).mono ?_
  rintro e w4 ⟨v1, rfl, hres⟩
  obtain ⟨⟨pX, mX, qX, rfl, hX, hmX⟩, hbx⟩ := hres
  have hb4 : Below w3.heap.size w3 w4 := hbx
  have B4 : Aside (Below w.heap.size w w4) := B3.out.trans (hb4.mono B3.out.size)
  have P4 : Aside (Pow w4) := P3.out.keep hb4
  have R4 : Aside (RowsIn w4 a0 rs) := R3.out.keep hb4
  have GF4 : Aside (FactL w4 pF n3 F) := GF3.out.keep hb4
  clear hb4 B3 P3 R3 GF3
  have MX : Aside (MT n (tab (rowsOf F)) F) := MT.make HF.out.1 HF.out.2
  have TX4 : Aside (TabL w4 pX mX qX (tab (rowsOf F))) := hX
  have hmX2 : mX ≤ 1000 := by have := hka3.out.2; omega
  clear hX hbx
  generalize tab (rowsOf F) = tX at MX TX4
  clear GF4
  obtain ⟨b, hb⟩ : ∃ b, sndT rs p = b := ⟨_, rfl⟩
  have C1 := soundT_any a0 n0 c0 rs p w4 R4.out HE.out.1 hn0
  rw [hb] at C1
  go_wp2_with fail
  refine (C1).mono ?_
  rintro e w5 ⟨rfl, hbx⟩
  have hb5 : Below w4.heap.size w4 w5 := hbx
  have B5 : Aside (Below w.heap.size w w5) := B4.out.trans (hb5.mono B4.out.size)
  have P5 : Aside (Pow w5) := P4.out.keep hb5
  have R5 : Aside (RowsIn w5 a0 rs) := R4.out.keep hb5
  have TX5 : Aside (TabL w5 pX mX qX tX) := TX4.out.keep hb5
  clear hb5 B4 P4 R4 TX4
  clear C1 hbx
  have C1 := refSoundT_any a0 n0 c0 rs p w5 R5.out HE.out.1 hn0
  rw [hb] at C1
  go_wp2_with fail
  refine (C1).mono ?_
  rintro e w6 ⟨rfl, hbx⟩
  have hb6 : Below w5.heap.size w5 w6 := hbx
  have B6 : Aside (Below w.heap.size w w6) := B5.out.trans (hb6.mono B5.out.size)
  have P6 : Aside (Pow w6) := P5.out.keep hb6
  have R6 : Aside (RowsIn w6 a0 rs) := R5.out.keep hb6
  have TX6 : Aside (TabL w6 pX mX qX tX) := TX5.out.keep hb6
  clear hb6 B5 P5 R5 TX5
  clear C1 hbx hb
  have hbb : (b == b) = true := by cases b <;> rfl
  go_wp2_with fail
  refine (sound_made pX mX qX n tX F w6 TX6.out MX.out).mono ?_
  rintro e w7 ⟨rfl, hbx⟩
  have hb7 : Below w6.heap.size w6 w7 := hbx
  have B7 : Aside (Below w.heap.size w w7) := B6.out.trans (hb7.mono B6.out.size)
  have P7 : Aside (Pow w7) := P6.out.keep hb7
  have R7 : Aside (RowsIn w7 a0 rs) := R6.out.keep hb7
  have TX7 : Aside (TabL w7 pX mX qX tX) := TX6.out.keep hb7
  clear hb7 B6 P6 R6 TX6
  clear hbx
  go_wp2_with fail
  refine (refSound_made pX mX qX n tX F w7 TX7.out MX.out).mono ?_
  rintro e w8 ⟨rfl, hbx⟩
  have hb8 : Below w7.heap.size w7 w8 := hbx
  have B8 : Aside (Below w.heap.size w w8) := B7.out.trans (hb8.mono B7.out.size)
  have P8 : Aside (Pow w8) := P7.out.keep hb8
  have R8 : Aside (RowsIn w8 a0 rs) := R7.out.keep hb8
  have TX8 : Aside (TabL w8 pX mX qX tX) := TX7.out.keep hb8
  clear hb8 B7 P7 R7 TX7
  clear hbx
  go_wp2
  go_ret
  exact ⟨rfl, B8.out⟩
end Go.Proofs.YtfchpcmiipnbjaaDoor.table
