/-
  The walk of QueryBoxes: of whatever choices the call answers true.
-/
import Derived.Test.YtgimknplckkiaaaDoorQueryWork
import Derived.Test.YtgimknplckkiaaaDoorQueryKnown
import Derived.Test.YtgimknplckkiaaaDoorQueryJoinMade
namespace Go.Proofs.YtgimknplckkiaaaDoor.query
open Go.ChangeShapes Go.WideShapes Go.ChangeAt Go.RowKit Go.Deep
open Go.Proofs.YtgimknplckkiaaaDoor.dims
open Go.Proofs.YtgimknplckkiaaaDoor.table
open Go.Proofs.YtgimknplckkiaaaDoor.dice (Kr kn wtn bx)
open Go.Proofs.YtgimknplckkiaaaDoor.cell (C4 mrg all one zero In64)
set_option linter.unusedVariables false
set_option maxRecDepth 100000

set_option maxHeartbeats 16000000 in
theorem boxes_walk (a0 a1 a2 a3 a4 a5 : Option Addr) (n0 c0 n1 c1 n2 c2 n3 c3 n4 c4 n5 c5 : Nat) (cs : List Dm) (ks : List Kr) (vs ch la lb : List Int) (w : World) (hp : Pow w) (pM : Pairs .u16 .u8 w a0 cs) (pm : cs.length = n0 ∧ n0 ≤ c0 ∧ c0 ≤ maxLen) (pK : dice.KeysIn .u16 w a1 ks) (pk : ks.length = n1 ∧ n1 ≤ c1 ∧ c1 ≤ maxLen) (pV : Nums .i64 w a2 n2 c2 vs) (pC : Nums .u8 w a3 n3 c3 ch) (pA : Nums .u16 w a4 n4 c4 la) (pB : Nums .u16 w a5 n5 c5 lb) (at_ : Int) (pa : (Lit.int .u16 at_).wf = true) :
    Calls Tryd.prog 6 #[.slice a0 n0 c0, .slice a1 n1 c1, .slice a2 n2 c2, .slice a3 n3 c3, .slice a4 n4 c4, .slice a5 n5 c5, .int .u16 at_] w fun e w' => e = .returned (.bool true) ∧ Below w.heap.size w w' := by
  have hmc : n0 ≤ 9223372036854775807 := Nat.le_trans pm.2.1 (Nat.le_trans pm.2.2 maxLen_le2)
  have HE : Aside (cs.length = n0) := pm.1
  have hkl : Aside (ks.length = n1) := pk.1
  have hat := u16_of_wf pa
  clear pa
  have P0 : Aside (Pow w) := hp
  have M0 : Aside (Pairs .u16 .u8 w a0 cs) := pM
  have K0 : Aside (dice.KeysIn .u16 w a1 ks) := pK
  have V0 : Aside (Nums .i64 w a2 n2 c2 vs) := pV
  have C0 : Aside (Nums .u8 w a3 n3 c3 ch) := pC
  have A0 : Aside (Nums .u16 w a4 n4 c4 la) := pA
  have Bb0 : Aside (Nums .u16 w a5 n5 c5 lb) := pB
  clear hp pM pm pK pk pV pC pA pB
  by_cases h200 : (200 : Int) < (n1 : Int)
  · go_enter Tryd.func6, Tryd.ntmps6
    have CK := known_q w P0.out
    go_wp2_with (go_at_call 10; refine CK.mono ?_; rintro e wx ⟨rfl, hbx⟩)
    go_ret
    exact ⟨rfl, hbx⟩
  have hka1 : Hid (ks.length = n1 ∧ n1 ≤ 200) := ⟨hkl.out, by omega⟩
  go_enter Tryd.func6, Tryd.ntmps6
  have CK := known_q w P0.out
  go_wp2_with (go_at_call 10; refine CK.mono ?_; rintro e w1 ⟨rfl, hbx⟩; refine Hid.out ?_)
  refine Lib.hid ?_
  have hb1 : Below w.heap.size w w1 := hbx
  have B1 : Aside (Below w.heap.size w w1) := hb1
  have P1 : Aside (Pow w1) := P0.out.keep hb1
  have M1 : Aside (Pairs .u16 .u8 w1 a0 cs) := M0.out.keep hb1
  have K1 : Aside (dice.KeysIn .u16 w1 a1 ks) := K0.out.keep hb1
  have V1 : Aside (Nums .i64 w1 a2 n2 c2 vs) := V0.out.keep hb1
  have C1 : Aside (Nums .u8 w1 a3 n3 c3 ch) := C0.out.keep hb1
  have A1 : Aside (Nums .u16 w1 a4 n4 c4 la) := A0.out.keep hb1
  have Bb1 : Aside (Nums .u16 w1 a5 n5 c5 lb) := Bb0.out.keep hb1
  clear hb1  P0 M0 K0 V0 C0 A0 Bb0
  clear CK hbx
  clear h200
  go_wp2_with fail
  refine (of_made a0 n0 c0 cs w1 M1.out HE.out hmc).mono ?_
  rintro e w2 ⟨v1, rfl, hres⟩
  obtain ⟨ds, gx, n, cx, rfl, hX, hDD, hbx⟩ := hres
  have hb2 : Below w1.heap.size w1 w2 := hbx
  have B2 : Aside (Below w.heap.size w w2) := B1.out.trans (hb2.mono B1.out.size)
  have P2 : Aside (Pow w2) := P1.out.keep hb2
  have M2 : Aside (Pairs .u16 .u8 w2 a0 cs) := M1.out.keep hb2
  have K2 : Aside (dice.KeysIn .u16 w2 a1 ks) := K1.out.keep hb2
  have V2 : Aside (Nums .i64 w2 a2 n2 c2 vs) := V1.out.keep hb2
  have C2 : Aside (Nums .u8 w2 a3 n3 c3 ch) := C1.out.keep hb2
  have A2 : Aside (Nums .u16 w2 a4 n4 c4 la) := A1.out.keep hb2
  have Bb2 : Aside (Nums .u16 w2 a5 n5 c5 lb) := Bb1.out.keep hb2
  clear hb2 B1 P1 M1 K1 V1 C1 A1 Bb1
  have HD : Aside (Dims ds n) := hDD
  have hn4 := hDD.few
  have hn1 := hDD.one
  have D2 : Aside (DimsIn w2 (some ⟨gx, 0, none⟩) ds) := hX
  clear hX hDD hbx
  clear M2
  go_wp2_with fail
  refine (facts_made _ a1 a2 n cx n1 c1 n2 c2 ds ks vs w2 D2.out HD.out K2.out hka1.out.1 hka1.out.2 V2.out).mono ?_
  rintro e w3 ⟨v1, rfl, hres⟩
  obtain ⟨⟨pF, qF, rfl, hX, -⟩, hbx⟩ := hres
  have hb3 : Below w2.heap.size w2 w3 := hbx
  have B3 : Aside (Below w.heap.size w w3) := B2.out.trans (hb3.mono B2.out.size)
  have P3 : Aside (Pow w3) := P2.out.keep hb3
  have K3 : Aside (dice.KeysIn .u16 w3 a1 ks) := K2.out.keep hb3
  have V3 : Aside (Nums .i64 w3 a2 n2 c2 vs) := V2.out.keep hb3
  have C3 : Aside (Nums .u8 w3 a3 n3 c3 ch) := C2.out.keep hb3
  have A3 : Aside (Nums .u16 w3 a4 n4 c4 la) := A2.out.keep hb3
  have Bb3 : Aside (Nums .u16 w3 a5 n5 c5 lb) := Bb2.out.keep hb3
  have D3 : Aside (DimsIn w3 (some ⟨gx, 0, none⟩) ds) := D2.out.keep hb3
  clear hb3 B2 P2 K2 V2 C2 A2 Bb2 D2
  have HF : Aside (Fine (factL ds ks vs n1) ∧ ∀ f ∈ factL ds ks vs n1, Mem n f.1) := ⟨fact_fine (i64_all V3.out) hka1.out.2, fact_mem ⟨HD.out.len, HD.out.siz⟩ _ _ _⟩
  have GF3 : Aside (FactL w3 pF n1 (factL ds ks vs n1)) := hX
  clear hX hbx
  have hF5' : Aside ((factL ds ks vs n1).length ≤ 200) := by show _ ≤ _; rw [factL_len]; exact hka1.out.2
  generalize factL ds ks vs n1 = F at HF hF5' GF3
  clear K3
  clear V3
  go_wp2_with fail
  refine (refMake_made pF n1 qF n F w3  GF3.out (by have := hka1.out.2; omega) hn4 HF.out.2).mono ?_
  rintro e w4 ⟨v1, rfl, hres⟩
  obtain ⟨⟨pX, mX, qX, rfl, hX, hmX⟩, hbx⟩ := hres
  have hb4 : Below w3.heap.size w3 w4 := hbx
  have B4 : Aside (Below w.heap.size w w4) := B3.out.trans (hb4.mono B3.out.size)
  have P4 : Aside (Pow w4) := P3.out.keep hb4
  have C4 : Aside (Nums .u8 w4 a3 n3 c3 ch) := C3.out.keep hb4
  have A4 : Aside (Nums .u16 w4 a4 n4 c4 la) := A3.out.keep hb4
  have Bb4 : Aside (Nums .u16 w4 a5 n5 c5 lb) := Bb3.out.keep hb4
  have D4 : Aside (DimsIn w4 (some ⟨gx, 0, none⟩) ds) := D3.out.keep hb4
  have GF4 : Aside (FactL w4 pF n1 F) := GF3.out.keep hb4
  clear hb4 B3 P3 C3 A3 Bb3 D3 GF3
  have MX : Aside (MT n (tab (rowsOf F)) F) := MT.make HF.out.1 HF.out.2
  have TX4 : Aside (TabL w4 pX mX qX (tab (rowsOf F))) := hX
  have hmX2 : mX ≤ 1000 := by have := hka1.out.2; omega
  clear hX hbx
  generalize tab (rowsOf F) = tX at MX TX4
  clear GF4
  go_wp2_with fail
  refine (ask_made _ a3 a4 a5 n cx n3 c3 n4 c4 n5 c5 ds ch la lb w4 D4.out HD.out C4.out A4.out Bb4.out).mono ?_
  rintro e w5 ⟨v1, rfl, hres⟩
  obtain ⟨base, gL, p1, p2, qL, q1, q2, L, lo, hi, rfl, hQ, hAP⟩ := hres
  have hbx := hQ.bel
  have hb5 : Below w4.heap.size w4 w5 := hbx
  have B5 : Aside (Below w.heap.size w w5) := B4.out.trans (hb5.mono B4.out.size)
  have P5 : Aside (Pow w5) := P4.out.keep hb5
  have C5 : Aside (Nums .u8 w5 a3 n3 c3 ch) := C4.out.keep hb5
  have A5 : Aside (Nums .u16 w5 a4 n4 c4 la) := A4.out.keep hb5
  have Bb5 : Aside (Nums .u16 w5 a5 n5 c5 lb) := Bb4.out.keep hb5
  have D5 : Aside (DimsIn w5 (some ⟨gx, 0, none⟩) ds) := D4.out.keep hb5
  have TX5 : Aside (TabL w5 pX mX qX tX) := TX4.out.keep hb5
  clear hb5 B4 P4 C4 A4 Bb4 D4 TX4
  have HA : Aside (AskP ds n L lo hi) := hAP
  have Q5 : Aside (AskQ w4 base ds n gL p1 p2 qL q1 q2 L lo hi w5) := hQ
  clear hQ hAP hbx
  clear C5
  clear A5
  clear Bb5
  have hXU : QB w5 w5.heap.size (.slice (some ⟨gL, 0, none⟩) n qL) (.slice p1 n q1) (.slice p2 n q2) (w5.alloc (.cells #[.slice (some ⟨gL, 0, none⟩) n qL, .slice p1 n q1, .slice p2 n q2] 26)) := QB.start _ _ _ _ _
  go_wp2_with fail
  generalize (w5.alloc (.cells #[.slice (some ⟨gL, 0, none⟩) n qL, .slice p1 n q1, .slice p2 n q2] 26)) = w6 at hXU ⊢
  obtain ⟨gU, hgU⟩ : ∃ g, w5.heap.size = g := ⟨_, rfl⟩
  have hbU := hXU.bel
  rw [hgU] at hXU ⊢
  have hcU := (⟨hXU.c1, hXU.c2, hXU.c3⟩ : Cel3 gU (.slice (some ⟨gL, 0, none⟩) n qL) (.slice p1 n q1) (.slice p2 n q2) w6)
  have hb6 : Below w5.heap.size w5 w6 := hbU
  have B6 : Aside (Below w.heap.size w w6) := B5.out.trans (hb6.mono B5.out.size)
  have P6 : Aside (Pow w6) := P5.out.keep hb6
  have D6 : Aside (DimsIn w6 (some ⟨gx, 0, none⟩) ds) := D5.out.keep hb6
  have TX6 : Aside (TabL w6 pX mX qX tX) := TX5.out.keep hb6
  have Q6 : Aside (AskQ w4 base ds n gL p1 p2 qL q1 q2 L lo hi w6) := Q5.out.keep hb6
  clear hb6 B5 P5 D5 TX5 Q5
  have U6 : Aside (Cel3 gU (.slice (some ⟨gL, 0, none⟩) n qL) (.slice p1 n q1) (.slice p2 n q2) w6) := hcU
  clear hXU hbU hcU hgU
  have hF5 : Aside (F.length ≤ 500) := by have := hF5'.out; show _ ≤ _; omega
  have Uk1 := U6.out.c1
  have Uk2 := U6.out.c2
  have Uk3 := U6.out.c3
  obtain ⟨b1, o1, hp1, k1⟩ := Q6.out.low.get (k := 0) (by rw [HA.out.box.ll]; omega)
  obtain ⟨b2, o2, hp2, k2⟩ := Q6.out.high.get (k := 0) (by rw [HA.out.box.lh]; omega)
  have f1 := k1 0 (by rw [HA.out.box.ll]; omega)
  have f2 := k2 0 (by rw [HA.out.box.lh]; omega)
  rw [Nat.add_zero] at f1 f2
  rw [hp1] at Uk2
  rw [hp2] at Uk3
  clear k1 k2 hp1 hp2
  have hbx0 := HA.out.box.at_ 0 (by omega)
  have hgp0 := HA.out.gap 0 (by omega)
  have hs0 := (HD.out.siz 0 (by omega)).2
  obtain ⟨x, hx⟩ : ∃ x, nth lo 0 = x := ⟨_, rfl⟩
  obtain ⟨y, hy⟩ : ∃ y, nth hi 0 = y := ⟨_, rfl⟩
  rw [hx] at f1
  rw [hy] at f2
  rw [hx, hy] at hbx0 hgp0
  have x0 : 0 ≤ x := hbx0.1
  have y9 : y ≤ 10000 := by omega
  have HXY : Aside (nth lo 0 = x ∧ nth hi 0 = y) := ⟨hx, hy⟩
  clear hx hy hbx0 hs0
  have hmid := dice.mid_place hgp0 hat.1
  obtain ⟨d, hd⟩ : ∃ d, y - x + 1 = d := ⟨_, rfl⟩
  rw [hd] at hmid
  have d1 : 1 ≤ d := by omega
  have d9 : d ≤ 10001 := by omega
  have dn0 : ¬ d = 0 := by omega
  go_quiet (fail)
  obtain ⟨Kp, hKp⟩ : ∃ Kp, x + at_ % d = Kp := ⟨_, rfl⟩
  rw [hKp] at hmid ⊢
  have HK : Aside (nth lo 0 ≤ Kp ∧ Kp ≤ nth hi 0) := ⟨by rw [HXY.out.1]; exact hmid.1, by rw [HXY.out.2]; exact hmid.2⟩
  have hbq : Below w6.heap.size w6 (w6.drewN nq) := below_drewN (Below.refl _ _) nq
  generalize w6.drewN nq = w7 at hbq ⊢
  clear hmid hKp f1 f2 x0 hgp0 y9 HXY hd d1 d9 dn0 hat Uk1 Uk2 Uk3
  have hb7 : Below w6.heap.size w6 w7 := hbq
  have B7 : Aside (Below w.heap.size w w7) := B6.out.trans (hb7.mono B6.out.size)
  have P7 : Aside (Pow w7) := P6.out.keep hb7
  have D7 : Aside (DimsIn w7 (some ⟨gx, 0, none⟩) ds) := D6.out.keep hb7
  have TX7 : Aside (TabL w7 pX mX qX tX) := TX6.out.keep hb7
  have Q7 : Aside (AskQ w4 base ds n gL p1 p2 qL q1 q2 L lo hi w7) := Q6.out.keep hb7
  have U7 : Aside (Cel3 gU (.slice (some ⟨gL, 0, none⟩) n qL) (.slice p1 n q1) (.slice p2 n q2) w7) := U6.out.keep hb7
  clear hb7 B6 P6 D6 TX6 Q6 U6
  clear hbq
  go_upto_region 7 with fail
  go_cut [19] from 29 (fun t wx => ∃ g p q, t = .pointer (some ⟨g, 0, none⟩) ∧ Aside (NW w7 g (.slice (some ⟨gL, 0, none⟩) n qL) (.slice p1 n q1) (.slice p n q) p (Kp :: hi.drop 1) wx))
  case first =>
    have Uk1 := U7.out.c1
    have Uk2 := U7.out.c2
    have Uk3 := U7.out.c3
    have hI : ∀ W, Below w7.heap.size w7 W → Calls Tryd.prog 23 #[.slice p2 n q2, .int .i64 Kp] W fun e w' => ∃ p q, e = .returned (.slice p n q) ∧ Aside (Ints w' p (Kp :: hi.drop 1)) ∧ Aside (Below w7.heap.size w7 w') ∧ w'.cell? ⟨gU, 0, none⟩ = some (.slice (some ⟨gL, 0, none⟩) n qL) ∧ w'.cell? ⟨gU, 1, none⟩ = some (.slice p1 n q1) ∧ w'.cell? ⟨gU, 2, none⟩ = some (.slice p2 n q2) ∧ (w7.heap.size < W.heap.size → (w'.cell? ⟨w7.heap.size, 0, none⟩ = W.cell? ⟨w7.heap.size, 0, none⟩ ∧ w'.cell? ⟨w7.heap.size, 1, none⟩ = W.cell? ⟨w7.heap.size, 1, none⟩ ∧ w'.cell? ⟨w7.heap.size, 2, none⟩ = W.cell? ⟨w7.heap.size, 2, none⟩) ∧ w'.frozen? ⟨w7.heap.size, 0, none⟩ = W.frozen? ⟨w7.heap.size, 0, none⟩ ∧ w'.frozen? ⟨w7.heap.size, 1, none⟩ = W.frozen? ⟨w7.heap.size, 1, none⟩ ∧ w'.frozen? ⟨w7.heap.size, 2, none⟩ = W.frozen? ⟨w7.heap.size, 2, none⟩) := fun W hW =>
      (with_any p2 n q2 hi Kp W ((Q7.out.keep hW).high) HA.out.box.lh hn1 hn4 Q7.out.c2).mono fun e w' ⟨p, q, h1, h2, h3⟩ => by
        have hw := hW.trans (h3.mono hW.size)
        have k : ∀ {o : Nat} {v : Value}, w7.cell? ⟨gU, o, none⟩ = some v → w'.cell? ⟨gU, o, none⟩ = some v := fun {o v} hv => (hw.cell (p := ⟨gU, o, none⟩) (cell_lt hv)).trans hv
        have kc : ∀ o : Nat, w7.heap.size < W.heap.size → w'.cell? ⟨w7.heap.size, o, none⟩ = W.cell? ⟨w7.heap.size, o, none⟩ := fun o hz => h3.cell (p := ⟨w7.heap.size, o, none⟩) hz
        have kf : ∀ o : Nat, w7.heap.size < W.heap.size → w'.frozen? ⟨w7.heap.size, o, none⟩ = W.frozen? ⟨w7.heap.size, o, none⟩ := fun o hz => h3.frozen (p := ⟨w7.heap.size, o, none⟩) hz
        exact ⟨p, q, h1, h2, hw, k Uk1, k Uk2, k Uk3, fun hz => ⟨⟨kc 0 hz, kc 1 hz, kc 2 hz⟩, kf 0 hz, kf 1 hz, kf 2 hz⟩⟩
    go_region_held3 (fun w' => Below w7.heap.size w7 w' ∧ w'.cell? ⟨gU, 0, none⟩ = some (.slice (some ⟨gL, 0, none⟩) n qL) ∧ w'.cell? ⟨gU, 1, none⟩ = some (.slice p1 n q1) ∧ w'.cell? ⟨gU, 2, none⟩ = some (.slice p2 n q2))
      (first | with_reducible assumption | (refine three_of (x1 := .slice (some ⟨gL, 0, none⟩) n qL) (x2 := .slice p1 n q1) (x3 := .slice p2 n q2) ?_ Uk1 Uk2 Uk3; repeat (first | with_reducible exact Below.refl _ _ | with_reducible exact hw2.out | (with_reducible refine Below.drew ?_) | (with_reducible refine Below.alloc ?_ (by first | omega | (simp; done) | (simp; omega)) _) | (with_reducible refine Below.setCell ?_ (by first | exact Nat.le_refl _ | omega) _))))
      ((go_at_call 23; refine (hI _ ?_).mono ?_; (focus (apply And.left; assumption)); rintro e wa ⟨pe', qe', rfl, hIe, hw2, dd1, dd2, dd3, hkp⟩; have hs2 := hw2.out.size; simp [go_sem] at hkp))
    all_goals
      go_wp2_with fail
      go_meet
      case rel =>
        refine ⟨_, pe', qe', rfl, ?_⟩
        show NW _ _ _ _ _ _ _ _
        first
          | (with_reducible exact NW.newA hw2.out hIe.out)
          | (with_reducible exact NW.newB hw2.out hIe.out hkp.1.1 hkp.1.2.1 hkp.1.2.2)
  case rest =>
    obtain ⟨gE, pe, qe, rfl, hNW⟩ := hcut
    have hbW := hNW.out.bel
    have hI2 := hNW.out.ints
    have hcE := hNW.out.cel
    clear hNW
    generalize wc = w8 at hbW hI2 hcE ⊢
    have hb8 : Below w7.heap.size w7 w8 := hbW
    have B8 : Aside (Below w.heap.size w w8) := B7.out.trans (hb8.mono B7.out.size)
    have P8 : Aside (Pow w8) := P7.out.keep hb8
    have D8 : Aside (DimsIn w8 (some ⟨gx, 0, none⟩) ds) := D7.out.keep hb8
    have TX8 : Aside (TabL w8 pX mX qX tX) := TX7.out.keep hb8
    have Q8 : Aside (AskQ w4 base ds n gL p1 p2 qL q1 q2 L lo hi w8) := Q7.out.keep hb8
    have U8 : Aside (Cel3 gU (.slice (some ⟨gL, 0, none⟩) n qL) (.slice p1 n q1) (.slice p2 n q2) w8) := U7.out.keep hb8
    clear hb8 B7 P7 D7 TX7 Q7 U7
    have E8 : Aside (Cel3 gE (.slice (some ⟨gL, 0, none⟩) n qL) (.slice p1 n q1) (.slice pe n qe) w8) := hcE
    have Ie8 : Aside (Ints w8 pe (Kp :: hi.drop 1)) := hI2
    clear hbW hI2 hcE
    go_upto_region 8 with fail
    go_cut [20] from 29 (fun t wx => ∃ g p q, t = .pointer (some ⟨g, 0, none⟩) ∧ Aside (NW w8 g (.slice (some ⟨gL, 0, none⟩) n qL) (.slice p n q) (.slice p2 n q2) p (Kp :: lo.drop 1) wx))
    case first =>
      have Uk1 := U8.out.c1
      have Uk2 := U8.out.c2
      have Uk3 := U8.out.c3
      have hI : ∀ W, Below w8.heap.size w8 W → Calls Tryd.prog 23 #[.slice p1 n q1, .int .i64 Kp] W fun e w' => ∃ p q, e = .returned (.slice p n q) ∧ Aside (Ints w' p (Kp :: lo.drop 1)) ∧ Aside (Below w8.heap.size w8 w') ∧ w'.cell? ⟨gU, 0, none⟩ = some (.slice (some ⟨gL, 0, none⟩) n qL) ∧ w'.cell? ⟨gU, 1, none⟩ = some (.slice p1 n q1) ∧ w'.cell? ⟨gU, 2, none⟩ = some (.slice p2 n q2) ∧ (w8.heap.size < W.heap.size → (w'.cell? ⟨w8.heap.size, 0, none⟩ = W.cell? ⟨w8.heap.size, 0, none⟩ ∧ w'.cell? ⟨w8.heap.size, 1, none⟩ = W.cell? ⟨w8.heap.size, 1, none⟩ ∧ w'.cell? ⟨w8.heap.size, 2, none⟩ = W.cell? ⟨w8.heap.size, 2, none⟩) ∧ w'.frozen? ⟨w8.heap.size, 0, none⟩ = W.frozen? ⟨w8.heap.size, 0, none⟩ ∧ w'.frozen? ⟨w8.heap.size, 1, none⟩ = W.frozen? ⟨w8.heap.size, 1, none⟩ ∧ w'.frozen? ⟨w8.heap.size, 2, none⟩ = W.frozen? ⟨w8.heap.size, 2, none⟩) := fun W hW =>
        (with_any p1 n q1 lo Kp W ((Q8.out.keep hW).low) HA.out.box.ll hn1 hn4 Q8.out.c1).mono fun e w' ⟨p, q, h1, h2, h3⟩ => by
          have hw := hW.trans (h3.mono hW.size)
          have k : ∀ {o : Nat} {v : Value}, w8.cell? ⟨gU, o, none⟩ = some v → w'.cell? ⟨gU, o, none⟩ = some v := fun {o v} hv => (hw.cell (p := ⟨gU, o, none⟩) (cell_lt hv)).trans hv
          have kc : ∀ o : Nat, w8.heap.size < W.heap.size → w'.cell? ⟨w8.heap.size, o, none⟩ = W.cell? ⟨w8.heap.size, o, none⟩ := fun o hz => h3.cell (p := ⟨w8.heap.size, o, none⟩) hz
          have kf : ∀ o : Nat, w8.heap.size < W.heap.size → w'.frozen? ⟨w8.heap.size, o, none⟩ = W.frozen? ⟨w8.heap.size, o, none⟩ := fun o hz => h3.frozen (p := ⟨w8.heap.size, o, none⟩) hz
          exact ⟨p, q, h1, h2, hw, k Uk1, k Uk2, k Uk3, fun hz => ⟨⟨kc 0 hz, kc 1 hz, kc 2 hz⟩, kf 0 hz, kf 1 hz, kf 2 hz⟩⟩
      go_region_held3 (fun w' => Below w8.heap.size w8 w' ∧ w'.cell? ⟨gU, 0, none⟩ = some (.slice (some ⟨gL, 0, none⟩) n qL) ∧ w'.cell? ⟨gU, 1, none⟩ = some (.slice p1 n q1) ∧ w'.cell? ⟨gU, 2, none⟩ = some (.slice p2 n q2))
        (first | with_reducible assumption | (refine three_of (x1 := .slice (some ⟨gL, 0, none⟩) n qL) (x2 := .slice p1 n q1) (x3 := .slice p2 n q2) ?_ Uk1 Uk2 Uk3; repeat (first | with_reducible exact Below.refl _ _ | with_reducible exact hw2.out | (with_reducible refine Below.drew ?_) | (with_reducible refine Below.alloc ?_ (by first | omega | (simp; done) | (simp; omega)) _) | (with_reducible refine Below.setCell ?_ (by first | exact Nat.le_refl _ | omega) _))))
        ((go_at_call 23; refine (hI _ ?_).mono ?_; (focus (apply And.left; assumption)); rintro e wa ⟨pe', qe', rfl, hIe, hw2, dd1, dd2, dd3, hkp⟩; have hs2 := hw2.out.size; simp [go_sem] at hkp))
      all_goals
        go_wp2_with fail
        go_meet
        case rel =>
          refine ⟨_, pe', qe', rfl, ?_⟩
          show NW _ _ _ _ _ _ _ _
          first
            | (with_reducible exact NW.newA hw2.out hIe.out)
            | (with_reducible exact NW.newB hw2.out hIe.out hkp.1.1 hkp.1.2.1 hkp.1.2.2)
    case rest =>
      obtain ⟨gG, pg, qg, rfl, hNW⟩ := hcut
      have hbW := hNW.out.bel
      have hI2 := hNW.out.ints
      have hcG := hNW.out.cel
      clear hNW
      generalize wc = w9 at hbW hI2 hcG ⊢
      have hb9 : Below w8.heap.size w8 w9 := hbW
      have B9 : Aside (Below w.heap.size w w9) := B8.out.trans (hb9.mono B8.out.size)
      have P9 : Aside (Pow w9) := P8.out.keep hb9
      have D9 : Aside (DimsIn w9 (some ⟨gx, 0, none⟩) ds) := D8.out.keep hb9
      have TX9 : Aside (TabL w9 pX mX qX tX) := TX8.out.keep hb9
      have Q9 : Aside (AskQ w4 base ds n gL p1 p2 qL q1 q2 L lo hi w9) := Q8.out.keep hb9
      have U9 : Aside (Cel3 gU (.slice (some ⟨gL, 0, none⟩) n qL) (.slice p1 n q1) (.slice p2 n q2) w9) := U8.out.keep hb9
      have E9 : Aside (Cel3 gE (.slice (some ⟨gL, 0, none⟩) n qL) (.slice p1 n q1) (.slice pe n qe) w9) := E8.out.keep hb9
      have Ie9 : Aside (Ints w9 pe (Kp :: hi.drop 1)) := Ie8.out.keep hb9
      clear hb9 B8 P8 D8 TX8 Q8 U8 E8 Ie8
      have G9 : Aside (Cel3 gG (.slice (some ⟨gL, 0, none⟩) n qL) (.slice pg n qg) (.slice p2 n q2) w9) := hcG
      have Ig9 : Aside (Ints w9 pg (Kp :: lo.drop 1)) := hI2
      clear hbW hI2 hcG
      have Ek1 := E9.out.c1
      have Ek2 := E9.out.c2
      have Ek3 := E9.out.c3
      go_wp2_with fail
      clear Ek1 Ek2 Ek3
      refine (run_made _ pX _ p1 pe n cx mX qX qL q1 qe ds tX F L lo (Kp :: hi.drop 1) w9 P9.out D9.out HD.out TX9.out MX.out hmX2 hF5.out Q9.out.lev HA.out.lev Q9.out.low Ie9.out (box_low HA.out.box hn1 HK.out.1 HK.out.2)).mono ?_
      rintro e w10 ⟨v1, rfl, hres⟩
      obtain ⟨⟨pY, mY, qY, rfl, hX, hmY⟩, hbx⟩ := hres
      have hb10 : Below w9.heap.size w9 w10 := hbx
      have B10 : Aside (Below w.heap.size w w10) := B9.out.trans (hb10.mono B9.out.size)
      have P10 : Aside (Pow w10) := P9.out.keep hb10
      have D10 : Aside (DimsIn w10 (some ⟨gx, 0, none⟩) ds) := D9.out.keep hb10
      have TX10 : Aside (TabL w10 pX mX qX tX) := TX9.out.keep hb10
      have Q10 : Aside (AskQ w4 base ds n gL p1 p2 qL q1 q2 L lo hi w10) := Q9.out.keep hb10
      have U10 : Aside (Cel3 gU (.slice (some ⟨gL, 0, none⟩) n qL) (.slice p1 n q1) (.slice p2 n q2) w10) := U9.out.keep hb10
      have E10 : Aside (Cel3 gE (.slice (some ⟨gL, 0, none⟩) n qL) (.slice p1 n q1) (.slice pe n qe) w10) := E9.out.keep hb10
      have Ie10 : Aside (Ints w10 pe (Kp :: hi.drop 1)) := Ie9.out.keep hb10
      have G10 : Aside (Cel3 gG (.slice (some ⟨gL, 0, none⟩) n qL) (.slice pg n qg) (.slice p2 n q2) w10) := G9.out.keep hb10
      have Ig10 : Aside (Ints w10 pg (Kp :: lo.drop 1)) := Ig9.out.keep hb10
      clear hb10 B9 P9 D9 TX9 Q9 U9 E9 Ie9 G9 Ig9
      have MY : Aside (MT n (runT ds tX L lo (Kp :: hi.drop 1)) (runF ds L lo (Kp :: hi.drop 1) F)) := MT.run MX.out HA.out.lev HD.out.len HD.out.snd
      have TY10 : Aside (TabL w10 pY mY qY (runT ds tX L lo (Kp :: hi.drop 1))) := hX
      have hmYF : Aside (mY ≤ (runF ds L lo (Kp :: hi.drop 1) F).length) := hmY
      clear hX hbx hmY
      have Gk1 := G10.out.c1
      have Gk2 := G10.out.c2
      have Gk3 := G10.out.c3
      go_wp2_with fail
      clear Gk1 Gk2 Gk3
      refine (run_made _ pX _ pg p2 n cx mX qX qL qg q2 ds tX F L (Kp :: lo.drop 1) hi w10 P10.out D10.out HD.out TX10.out MX.out hmX2 hF5.out Q10.out.lev HA.out.lev Ig10.out Q10.out.high (box_high HA.out.box hn1 HK.out.1 HK.out.2)).mono ?_
      rintro e w11 ⟨v1, rfl, hres⟩
      obtain ⟨⟨pV, mV, qV, rfl, hX, hmV⟩, hbx⟩ := hres
      have hb11 : Below w10.heap.size w10 w11 := hbx
      have B11 : Aside (Below w.heap.size w w11) := B10.out.trans (hb11.mono B10.out.size)
      have P11 : Aside (Pow w11) := P10.out.keep hb11
      have D11 : Aside (DimsIn w11 (some ⟨gx, 0, none⟩) ds) := D10.out.keep hb11
      have TX11 : Aside (TabL w11 pX mX qX tX) := TX10.out.keep hb11
      have Q11 : Aside (AskQ w4 base ds n gL p1 p2 qL q1 q2 L lo hi w11) := Q10.out.keep hb11
      have U11 : Aside (Cel3 gU (.slice (some ⟨gL, 0, none⟩) n qL) (.slice p1 n q1) (.slice p2 n q2) w11) := U10.out.keep hb11
      have E11 : Aside (Cel3 gE (.slice (some ⟨gL, 0, none⟩) n qL) (.slice p1 n q1) (.slice pe n qe) w11) := E10.out.keep hb11
      have Ie11 : Aside (Ints w11 pe (Kp :: hi.drop 1)) := Ie10.out.keep hb11
      have G11 : Aside (Cel3 gG (.slice (some ⟨gL, 0, none⟩) n qL) (.slice pg n qg) (.slice p2 n q2) w11) := G10.out.keep hb11
      have Ig11 : Aside (Ints w11 pg (Kp :: lo.drop 1)) := Ig10.out.keep hb11
      have TY11 : Aside (TabL w11 pY mY qY (runT ds tX L lo (Kp :: hi.drop 1))) := TY10.out.keep hb11
      clear hb11 B10 P10 D10 TX10 Q10 U10 E10 Ie10 G10 Ig10 TY10
      have MV : Aside (MT n (runT ds tX L (Kp :: lo.drop 1) hi) (runF ds L (Kp :: lo.drop 1) hi F)) := MT.run MX.out HA.out.lev HD.out.len HD.out.snd
      have TV11 : Aside (TabL w11 pV mV qV (runT ds tX L (Kp :: lo.drop 1) hi)) := hX
      have hmVF : Aside (mV ≤ (runF ds L (Kp :: lo.drop 1) hi F).length) := hmV
      clear hX hbx hmV
      have Uk1 := U11.out.c1
      have Uk2 := U11.out.c2
      have Uk3 := U11.out.c3
      go_wp2_with fail
      clear Uk1 Uk2 Uk3
      refine (run_made _ pX _ p1 p2 n cx mX qX qL q1 q2 ds tX F L lo hi w11 P11.out D11.out HD.out TX11.out MX.out hmX2 hF5.out Q11.out.lev HA.out.lev Q11.out.low Q11.out.high HA.out.box).mono ?_
      rintro e w12 ⟨v1, rfl, hres⟩
      obtain ⟨⟨pZ, mZ, qZ, rfl, hX, hmZ⟩, hbx⟩ := hres
      have hb12 : Below w11.heap.size w11 w12 := hbx
      have B12 : Aside (Below w.heap.size w w12) := B11.out.trans (hb12.mono B11.out.size)
      have P12 : Aside (Pow w12) := P11.out.keep hb12
      have D12 : Aside (DimsIn w12 (some ⟨gx, 0, none⟩) ds) := D11.out.keep hb12
      have TX12 : Aside (TabL w12 pX mX qX tX) := TX11.out.keep hb12
      have Q12 : Aside (AskQ w4 base ds n gL p1 p2 qL q1 q2 L lo hi w12) := Q11.out.keep hb12
      have U12 : Aside (Cel3 gU (.slice (some ⟨gL, 0, none⟩) n qL) (.slice p1 n q1) (.slice p2 n q2) w12) := U11.out.keep hb12
      have E12 : Aside (Cel3 gE (.slice (some ⟨gL, 0, none⟩) n qL) (.slice p1 n q1) (.slice pe n qe) w12) := E11.out.keep hb12
      have Ie12 : Aside (Ints w12 pe (Kp :: hi.drop 1)) := Ie11.out.keep hb12
      have G12 : Aside (Cel3 gG (.slice (some ⟨gL, 0, none⟩) n qL) (.slice pg n qg) (.slice p2 n q2) w12) := G11.out.keep hb12
      have Ig12 : Aside (Ints w12 pg (Kp :: lo.drop 1)) := Ig11.out.keep hb12
      have TY12 : Aside (TabL w12 pY mY qY (runT ds tX L lo (Kp :: hi.drop 1))) := TY11.out.keep hb12
      have TV12 : Aside (TabL w12 pV mV qV (runT ds tX L (Kp :: lo.drop 1) hi)) := TV11.out.keep hb12
      clear hb12 B11 P11 D11 TX11 Q11 U11 E11 Ie11 G11 Ig11 TY11 TV11
      have MZ : Aside (MT n (runT ds tX L lo hi) (runF ds L lo hi F)) := MT.run MX.out HA.out.lev HD.out.len HD.out.snd
      have TZ12 : Aside (TabL w12 pZ mZ qZ (runT ds tX L lo hi)) := hX
      have hmZF : Aside (mZ ≤ (runF ds L lo hi F).length) := hmZ
      clear hX hbx hmZ
      have E2 : Aside _ := two_boxes HA.out.box.ll HA.out.box.lh hn1 HK.out.1 HK.out.2 MY.out MV.out MZ.out
      have d0 : (w12.alloc (.cells #[.slice pY mY qY, .slice pV mV qV] 23)).cell? ⟨w12.heap.size, 0, none⟩ = some (.slice pY mY qY) := by simp [go_sem]
      have d1 : (w12.alloc (.cells #[.slice pY mY qY, .slice pV mV qV] 23)).cell? ⟨w12.heap.size, 1, none⟩ = some (.slice pV mV qV) := by simp [go_sem]
      have hbl : Below w12.heap.size w12 (w12.alloc (.cells #[.slice pY mY qY, .slice pV mV qV] 23)) := (Below.refl _ _).alloc (Nat.le_refl _) _
      go_wp2_with fail
      generalize (w12.alloc (.cells #[.slice pY mY qY, .slice pV mV qV] 23)) = w13 at d0 d1 hbl ⊢
      obtain ⟨gJ, hgJ⟩ : ∃ g, w12.heap.size = g := ⟨_, rfl⟩
      rw [hgJ] at d0 d1 ⊢
      have hb13 : Below w12.heap.size w12 w13 := hbl
      have B13 : Aside (Below w.heap.size w w13) := B12.out.trans (hb13.mono B12.out.size)
      have P13 : Aside (Pow w13) := P12.out.keep hb13
      have D13 : Aside (DimsIn w13 (some ⟨gx, 0, none⟩) ds) := D12.out.keep hb13
      have TX13 : Aside (TabL w13 pX mX qX tX) := TX12.out.keep hb13
      have Q13 : Aside (AskQ w4 base ds n gL p1 p2 qL q1 q2 L lo hi w13) := Q12.out.keep hb13
      have U13 : Aside (Cel3 gU (.slice (some ⟨gL, 0, none⟩) n qL) (.slice p1 n q1) (.slice p2 n q2) w13) := U12.out.keep hb13
      have E13 : Aside (Cel3 gE (.slice (some ⟨gL, 0, none⟩) n qL) (.slice p1 n q1) (.slice pe n qe) w13) := E12.out.keep hb13
      have Ie13 : Aside (Ints w13 pe (Kp :: hi.drop 1)) := Ie12.out.keep hb13
      have G13 : Aside (Cel3 gG (.slice (some ⟨gL, 0, none⟩) n qL) (.slice pg n qg) (.slice p2 n q2) w13) := G12.out.keep hb13
      have Ig13 : Aside (Ints w13 pg (Kp :: lo.drop 1)) := Ig12.out.keep hb13
      have TY13 : Aside (TabL w13 pY mY qY (runT ds tX L lo (Kp :: hi.drop 1))) := TY12.out.keep hb13
      have TV13 : Aside (TabL w13 pV mV qV (runT ds tX L (Kp :: lo.drop 1) hi)) := TV12.out.keep hb13
      have TZ13 : Aside (TabL w13 pZ mZ qZ (runT ds tX L lo hi)) := TZ12.out.keep hb13
      clear hb13 B12 P12 D12 TX12 Q12 U12 E12 Ie12 G12 Ig12 TY12 TV12 TZ12
      clear hbl hgJ
      refine (join_made2 gJ pY pV mY qY mV qV n _ _ (runF ds L lo (Kp :: hi.drop 1) F) (runF ds L (Kp :: lo.drop 1) hi F) w13 P13.out d0 d1 TY13.out TV13.out MY.out MV.out (by have := hmYF.out; have := runF_len ds L lo (Kp :: hi.drop 1) F; have := hF5.out; omega) (by have := hmVF.out; have := runF_len ds L (Kp :: lo.drop 1) hi F; have := hF5.out; omega) hn4 E2.out.1 (Nat.le_trans (boxes_len HA.out.box.ll HA.out.box.lh hn1 HK.out.1 HK.out.2) hF5.out)).mono ?_
      rintro e w14 ⟨v1, rfl, hres⟩
      obtain ⟨⟨pN, mN, qN, rfl, hX, -⟩, hbx⟩ := hres
      have hb14 : Below w13.heap.size w13 w14 := hbx
      have B14 : Aside (Below w.heap.size w w14) := B13.out.trans (hb14.mono B13.out.size)
      have P14 : Aside (Pow w14) := P13.out.keep hb14
      have D14 : Aside (DimsIn w14 (some ⟨gx, 0, none⟩) ds) := D13.out.keep hb14
      have TX14 : Aside (TabL w14 pX mX qX tX) := TX13.out.keep hb14
      have Q14 : Aside (AskQ w4 base ds n gL p1 p2 qL q1 q2 L lo hi w14) := Q13.out.keep hb14
      have U14 : Aside (Cel3 gU (.slice (some ⟨gL, 0, none⟩) n qL) (.slice p1 n q1) (.slice p2 n q2) w14) := U13.out.keep hb14
      have E14 : Aside (Cel3 gE (.slice (some ⟨gL, 0, none⟩) n qL) (.slice p1 n q1) (.slice pe n qe) w14) := E13.out.keep hb14
      have Ie14 : Aside (Ints w14 pe (Kp :: hi.drop 1)) := Ie13.out.keep hb14
      have G14 : Aside (Cel3 gG (.slice (some ⟨gL, 0, none⟩) n qL) (.slice pg n qg) (.slice p2 n q2) w14) := G13.out.keep hb14
      have Ig14 : Aside (Ints w14 pg (Kp :: lo.drop 1)) := Ig13.out.keep hb14
      have TY14 : Aside (TabL w14 pY mY qY (runT ds tX L lo (Kp :: hi.drop 1))) := TY13.out.keep hb14
      have TV14 : Aside (TabL w14 pV mV qV (runT ds tX L (Kp :: lo.drop 1) hi)) := TV13.out.keep hb14
      have TZ14 : Aside (TabL w14 pZ mZ qZ (runT ds tX L lo hi)) := TZ13.out.keep hb14
      clear hb14 B13 P13 D13 TX13 Q13 U13 E13 Ie13 G13 Ig13 TY13 TV13 TZ13
      have TN14 : Aside (TabL w14 pN mN qN (tab (runT ds tX L lo (Kp :: hi.drop 1) ++ runT ds tX L (Kp :: lo.drop 1) hi))) := hX
      clear hX hbx d0 d1
      go_wp2_with fail
      refine (same_made pN pZ mN qN mZ qZ _ _ w14 TN14.out TZ14.out E2.out.2).mono ?_
      rintro e w15 ⟨rfl, hbx⟩
      have hb15 : Below w14.heap.size w14 w15 := hbx
      have B15 : Aside (Below w.heap.size w w15) := B14.out.trans (hb15.mono B14.out.size)
      have P15 : Aside (Pow w15) := P14.out.keep hb15
      have D15 : Aside (DimsIn w15 (some ⟨gx, 0, none⟩) ds) := D14.out.keep hb15
      have TX15 : Aside (TabL w15 pX mX qX tX) := TX14.out.keep hb15
      have Q15 : Aside (AskQ w4 base ds n gL p1 p2 qL q1 q2 L lo hi w15) := Q14.out.keep hb15
      have U15 : Aside (Cel3 gU (.slice (some ⟨gL, 0, none⟩) n qL) (.slice p1 n q1) (.slice p2 n q2) w15) := U14.out.keep hb15
      have E15 : Aside (Cel3 gE (.slice (some ⟨gL, 0, none⟩) n qL) (.slice p1 n q1) (.slice pe n qe) w15) := E14.out.keep hb15
      have Ie15 : Aside (Ints w15 pe (Kp :: hi.drop 1)) := Ie14.out.keep hb15
      have G15 : Aside (Cel3 gG (.slice (some ⟨gL, 0, none⟩) n qL) (.slice pg n qg) (.slice p2 n q2) w15) := G14.out.keep hb15
      have Ig15 : Aside (Ints w15 pg (Kp :: lo.drop 1)) := Ig14.out.keep hb15
      have TY15 : Aside (TabL w15 pY mY qY (runT ds tX L lo (Kp :: hi.drop 1))) := TY14.out.keep hb15
      have TV15 : Aside (TabL w15 pV mV qV (runT ds tX L (Kp :: lo.drop 1) hi)) := TV14.out.keep hb15
      have TZ15 : Aside (TabL w15 pZ mZ qZ (runT ds tX L lo hi)) := TZ14.out.keep hb15
      have TN15 : Aside (TabL w15 pN mN qN (tab (runT ds tX L lo (Kp :: hi.drop 1) ++ runT ds tX L (Kp :: lo.drop 1) hi))) := TN14.out.keep hb15
      clear hb15 B14 P14 D14 TX14 Q14 U14 E14 Ie14 G14 Ig14 TY14 TV14 TZ14 TN14
      clear hbx
      go_wp2
      go_ret
      exact ⟨rfl, B15.out⟩
end Go.Proofs.YtgimknplckkiaaaDoor.query
