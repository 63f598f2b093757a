/-
  The walk of QueryTop: of whatever choices the call answers true.
-/
import Derived.Test.YtgimknplckkiaaaDoorQueryTopMath
namespace Go.Proofs.YtgimknplckkiaaaDoor.query
open Go.ChangeShapes Go.WideShapes Go.ChangeAt Go.RowKit Go.Deep
open Go.Proofs.YtgimknplckkiaaaDoor.dims
open Go.Proofs.YtgimknplckkiaaaDoor.table
open Go.Proofs.YtgimknplckkiaaaDoor.dice (Kr kn wtn bx own_base own_get mix inAt allB)
open Go.Proofs.YtgimknplckkiaaaDoor.cell (C4 mrg all one zero In64)
set_option linter.unusedVariables false
set_option maxRecDepth 100000

set_option maxHeartbeats 16000000 in
theorem top_walk (a0 a1 a2 a3 a4 : Option Addr) (n0 c0 n1 c1 n2 c2 n3 c3 n4 c4 : Nat) (cs : List Dm) (ks : List Kr) (vs la lb : List Int) (w : World) (hp : Pow w) (pM : Pairs .u16 .u8 w a0 cs) (pm : cs.length = n0 ∧ n0 ≤ c0 ∧ c0 ≤ maxLen) (pK : dice.KeysIn .u16 w a1 ks) (pk : ks.length = n1 ∧ n1 ≤ c1 ∧ c1 ≤ maxLen) (pV : Nums .i64 w a2 n2 c2 vs) (pA : Nums .u16 w a3 n3 c3 la) (pB : Nums .u16 w a4 n4 c4 lb) :
    Calls Tryd.prog 7 #[.slice a0 n0 c0, .slice a1 n1 c1, .slice a2 n2 c2, .slice a3 n3 c3, .slice a4 n4 c4] w fun e w' => e = .returned (.bool true) ∧ Below w.heap.size w w' := by
  have hmc : n0 ≤ 9223372036854775807 := Nat.le_trans pm.2.1 (Nat.le_trans pm.2.2 maxLen_le2)
  have HE : Aside (cs.length = n0) := pm.1
  have hkl : Aside (ks.length = n1) := pk.1
  have P0 : Aside (Pow w) := hp
  have M0 : Aside (Pairs .u16 .u8 w a0 cs) := pM
  have K0 : Aside (dice.KeysIn .u16 w a1 ks) := pK
  have V0 : Aside (Nums .i64 w a2 n2 c2 vs) := pV
  have A0 : Aside (Nums .u16 w a3 n3 c3 la) := pA
  have Bb0 : Aside (Nums .u16 w a4 n4 c4 lb) := pB
  clear hp pM pm pK pk pV pA pB
  by_cases h200 : (200 : Int) < (n1 : Int)
  · go_enter Tryd.func7, Tryd.ntmps7
    have CK := known_q w P0.out
    go_wp2_with (go_at_call 10; refine CK.mono ?_; rintro e wx ⟨rfl, hbx⟩)
    go_ret
    exact ⟨rfl, hbx⟩
  have hka1 : Hid (ks.length = n1 ∧ n1 ≤ 200) := ⟨hkl.out, by omega⟩
  go_enter Tryd.func7, Tryd.ntmps7
  have CK := known_q w P0.out
  go_wp2_with (go_at_call 10; refine CK.mono ?_; rintro e w1 ⟨rfl, hbx⟩; refine Hid.out ?_)
  refine Lib.hid ?_
  have hb1 : Below w.heap.size w w1 := hbx
  have B1 : Aside (Below w.heap.size w w1) := hb1
  have P1 : Aside (Pow w1) := P0.out.keep hb1
  have M1 : Aside (Pairs .u16 .u8 w1 a0 cs) := M0.out.keep hb1
  have K1 : Aside (dice.KeysIn .u16 w1 a1 ks) := K0.out.keep hb1
  have V1 : Aside (Nums .i64 w1 a2 n2 c2 vs) := V0.out.keep hb1
  have A1 : Aside (Nums .u16 w1 a3 n3 c3 la) := A0.out.keep hb1
  have Bb1 : Aside (Nums .u16 w1 a4 n4 c4 lb) := Bb0.out.keep hb1
  clear hb1  P0 M0 K0 V0 A0 Bb0
  clear CK hbx
  clear h200
  go_wp2_with fail
  refine (of_made a0 n0 c0 cs w1 M1.out HE.out hmc).mono ?_
  rintro e w2 ⟨v1, rfl, hres⟩
  obtain ⟨ds, gx, n, cx, rfl, hX, hDD, hbx⟩ := hres
  have hb2 : Below w1.heap.size w1 w2 := hbx
  have B2 : Aside (Below w.heap.size w w2) := B1.out.trans (hb2.mono B1.out.size)
  have P2 : Aside (Pow w2) := P1.out.keep hb2
  have M2 : Aside (Pairs .u16 .u8 w2 a0 cs) := M1.out.keep hb2
  have K2 : Aside (dice.KeysIn .u16 w2 a1 ks) := K1.out.keep hb2
  have V2 : Aside (Nums .i64 w2 a2 n2 c2 vs) := V1.out.keep hb2
  have A2 : Aside (Nums .u16 w2 a3 n3 c3 la) := A1.out.keep hb2
  have Bb2 : Aside (Nums .u16 w2 a4 n4 c4 lb) := Bb1.out.keep hb2
  clear hb2 B1 P1 M1 K1 V1 A1 Bb1
  have HD : Aside (Dims ds n) := hDD
  have hn4 := hDD.few
  have hn1 := hDD.one
  have D2 : Aside (DimsIn w2 (some ⟨gx, 0, none⟩) ds) := hX
  clear hX hDD hbx
  clear M2
  go_wp2_with fail
  refine (facts_made _ a1 a2 n cx n1 c1 n2 c2 ds ks vs w2 D2.out HD.out K2.out hka1.out.1 hka1.out.2 V2.out).mono ?_
  rintro e w3 ⟨v1, rfl, hres⟩
  obtain ⟨⟨pF, qF, rfl, hX, -⟩, hbx⟩ := hres
  have hb3 : Below w2.heap.size w2 w3 := hbx
  have B3 : Aside (Below w.heap.size w w3) := B2.out.trans (hb3.mono B2.out.size)
  have P3 : Aside (Pow w3) := P2.out.keep hb3
  have K3 : Aside (dice.KeysIn .u16 w3 a1 ks) := K2.out.keep hb3
  have V3 : Aside (Nums .i64 w3 a2 n2 c2 vs) := V2.out.keep hb3
  have A3 : Aside (Nums .u16 w3 a3 n3 c3 la) := A2.out.keep hb3
  have Bb3 : Aside (Nums .u16 w3 a4 n4 c4 lb) := Bb2.out.keep hb3
  have D3 : Aside (DimsIn w3 (some ⟨gx, 0, none⟩) ds) := D2.out.keep hb3
  clear hb3 B2 P2 K2 V2 A2 Bb2 D2
  have HF : Aside (Fine (factL ds ks vs n1) ∧ ∀ f ∈ factL ds ks vs n1, Mem n f.1) := ⟨fact_fine (i64_all V3.out) hka1.out.2, fact_mem ⟨HD.out.len, HD.out.siz⟩ _ _ _⟩
  have GF3 : Aside (FactL w3 pF n1 (factL ds ks vs n1)) := hX
  clear hX hbx
  have hF5' : Aside ((factL ds ks vs n1).length ≤ 200) := by show _ ≤ _; rw [factL_len]; exact hka1.out.2
  generalize factL ds ks vs n1 = F at HF hF5' GF3
  clear K3
  clear V3
  have PS : Aside (Pow w3 ∧ DimsIn w3 (some ⟨gx, 0, none⟩) ds ∧ FactL w3 pF n1 F ∧ Below w.heap.size w w3) := ⟨P3.out, D3.out, GF3.out, B3.out⟩
  have C93 : Aside (Nums .u8 w3 none 0 0 []) := nums_none _ _
  go_wp2_with fail
  refine (ask_made _ none a3 a4 n cx 0 0 n3 c3 n4 c4 ds [] la lb w3 D3.out HD.out C93.out A3.out Bb3.out).mono ?_
  rintro e w4 ⟨v1, rfl, hres⟩
  obtain ⟨base, gL, p1, p2, qL, q1, q2, L, lo, hi, rfl, hQ, hAP⟩ := hres
  have hbx := hQ.bel
  have hb4 : Below w3.heap.size w3 w4 := hbx
  have B4 : Aside (Below w.heap.size w w4) := B3.out.trans (hb4.mono B3.out.size)
  have P4 : Aside (Pow w4) := P3.out.keep hb4
  have A4 : Aside (Nums .u16 w4 a3 n3 c3 la) := A3.out.keep hb4
  have Bb4 : Aside (Nums .u16 w4 a4 n4 c4 lb) := Bb3.out.keep hb4
  have D4 : Aside (DimsIn w4 (some ⟨gx, 0, none⟩) ds) := D3.out.keep hb4
  have GF4 : Aside (FactL w4 pF n1 F) := GF3.out.keep hb4
  have C94 : Aside (Nums .u8 w4 none 0 0 []) := C93.out.keep hb4
  clear hb4 B3 P3 A3 Bb3 D3 GF3 C93
  have HA : Aside (AskP ds n L lo hi) := hAP
  have Q4 : Aside (AskQ w3 base ds n gL p1 p2 qL q1 q2 L lo hi w4) := hQ
  clear hQ hAP hbx
  clear C94
  clear A4
  clear Bb4
  have hXU : QB w4 w4.heap.size (.slice (some ⟨gL, 0, none⟩) n qL) (.slice p1 n q1) (.slice p2 n q2) (w4.alloc (.cells #[.slice (some ⟨gL, 0, none⟩) n qL, .slice p1 n q1, .slice p2 n q2] 26)) := QB.start _ _ _ _ _
  go_wp2_with fail
  generalize (w4.alloc (.cells #[.slice (some ⟨gL, 0, none⟩) n qL, .slice p1 n q1, .slice p2 n q2] 26)) = w5 at hXU ⊢
  obtain ⟨gU, hgU⟩ : ∃ g, w4.heap.size = g := ⟨_, rfl⟩
  have hbU := hXU.bel
  have HQL : Aside ((n : Int) ≤ (qL : Int)) := by have h := ask_room Q4.out.own; show _ ≤ _; omega
  have HGU : Aside (gL < gU) := by have h := own_base Q4.out.own; show _ < _; omega
  rw [hgU] at hXU ⊢
  have hcU := (⟨hXU.c1, hXU.c2, hXU.c3⟩ : Cel3 gU (.slice (some ⟨gL, 0, none⟩) n qL) (.slice p1 n q1) (.slice p2 n q2) w5)
  have hb5 : Below w4.heap.size w4 w5 := hbU
  have B5 : Aside (Below w.heap.size w w5) := B4.out.trans (hb5.mono B4.out.size)
  have P5 : Aside (Pow w5) := P4.out.keep hb5
  have D5 : Aside (DimsIn w5 (some ⟨gx, 0, none⟩) ds) := D4.out.keep hb5
  have GF5 : Aside (FactL w5 pF n1 F) := GF4.out.keep hb5
  have Q5 : Aside (AskQ w3 base ds n gL p1 p2 qL q1 q2 L lo hi w5) := Q4.out.keep hb5
  clear hb5 B4 P4 D4 GF4 Q4
  have U5 : Aside (Cel3 gU (.slice (some ⟨gL, 0, none⟩) n qL) (.slice p1 n q1) (.slice p2 n q2) w5) := hcU
  clear hXU hbU hcU hgU
  have AQ : Aside (AskQ w3 base ds n gL p1 p2 qL q1 q2 L lo hi w5) := Q5.out
  have hgL := own_base AQ.out.own
  have hgU : gL ≠ gU := by have h := HGU.out; omega
  have S1 : Aside (TS1 w5 base gL n qL (topL ds) L 0 gU (.slice (some ⟨gL, 0, none⟩) n qL) (.slice p1 n q1) (.slice p2 n q2) w5) := ⟨by rw [dice.mix_zero]; exact AQ.out.own, Below.refl _ _, U5.out⟩
  have HL : Aside ((topL ds).length = n ∧ L.length = n) := ⟨by rw [topL_len, HD.out.len], HA.out.lev.lt⟩
  have HB3 : Aside (∀ W, Below base w5 W → Below w3.heap.size w3 W) := fun W hb => AQ.out.bel.trans (hb.mono AQ.out.bas)
  clear P5 D5 GF5 Q5 U5 hgL
  go_loopg [14] n (fun g1 vi wr => ∃ (k : Nat), vi = .int .i64 k ∧ k ≤ n ∧ n - k ≤ g1 ∧ Aside (TS1 w5 base gL n qL (topL ds) L k gU (.slice (some ⟨gL, 0, none⟩) n qL) (.slice p1 n q1) (.slice p2 n q2) wr))
  case atStart => exact ⟨0, rfl, Nat.zero_le _, Nat.le_refl _, S1⟩
  case round =>
    clear S1
    obtain ⟨k, rfl, hk, hg1, SK⟩ := hrel
    by_cases hlt : k < n
    · have hltz : (k : Int) < (n : Int) := by omega
      obtain ⟨b, off, ha, hc⟩ := (PS.out.2.1.keep (HB3.out _ SK.out.bel)).get (k := k) (by rw [HD.out.len]; exact hlt)
      simp only [Option.some.injEq, Addr.mk.injEq, and_true] at ha
      obtain ⟨e1', e2'⟩ := ha
      subst e1'
      subst e2'
      obtain ⟨-, r1, -, -⟩ := hc k (by rw [HD.out.len]; exact hlt)
      rw [Nat.zero_add] at r1
      have hl4 := (sndL_all HD.out.snd k (by rw [HD.out.len]; exact hlt)).2.2.1
      obtain ⟨f1, q1'⟩ := own_get SK.out.own hlt
      have y1 := SK.out.cel.c1
      have hqn : (n : Int) ≤ (qL : Int) := HQL.out
      have HS : Aside (∀ v, ((dn ds k).l.length : Int) + 1 = v → TS1 w5 base gL n qL (topL ds) L (k + 1) gU (.slice (some ⟨gL, 0, none⟩) n qL) (.slice p1 n q1) (.slice p2 n q2) ((wr.setCell ⟨gL, k, none⟩ (.int .i64 v)).drew)) := fun v hv => SK.out.step HL.out.1 HL.out.2 hlt hgU v (by rw [topL_nth (by rw [HD.out.len]; exact hlt)]; exact hv)
      clear hc SK
      generalize nth (mix k (topL ds) L) k = z0 at f1
      generalize (dn ds k).l.length = t3 at r1 hl4 HS
      generalize (dn ds k).a = t2 at r1
      generalize (dn ds k).cap = t4 at r1
      obtain ⟨v, hv⟩ : ∃ v : Int, (t3 : Int) + 1 = v := ⟨_, rfl⟩
      have S2 : Aside _ := HS.out v hv
      clear HS
      go_wp2_with fail
      go_region
      generalize (wr.setCell ⟨gL, k, none⟩ (.int .i64 v)).drew = W2 at S2 ⊢
      go_wp2
      go_roundg (n - (k + 1))
      case measure => omega
      case rel => exact ⟨k + 1, by go_num, by omega, by omega, S2⟩
    · have hltz : ¬ (k : Int) < (n : Int) := by omega
      have hke : n = k := by omega
      subst hke
      have hb3 := HB3.out _ SK.out.bel
      have PW : Aside (Pow wr ∧ DimsIn wr (some ⟨gx, 0, none⟩) ds ∧ FactL wr pF n1 F ∧ Ints wr (some ⟨gL, 0, none⟩) (topL ds) ∧ Ints wr p1 lo ∧ Ints wr p2 hi ∧ Cel3 gU (.slice (some ⟨gL, 0, none⟩) n qL) (.slice p1 n q1) (.slice p2 n q2) wr ∧ Below w.heap.size w wr) := by
        refine ⟨PS.out.1.keep hb3, PS.out.2.1.keep hb3, PS.out.2.2.1.keep hb3, ?_, AQ.out.lo_ _ SK.out.bel, AQ.out.hi_ _ SK.out.bel, SK.out.cel, PS.out.2.2.2.trans (hb3.mono PS.out.2.2.2.size)⟩
        have ho := SK.out.own
        rw [dice.mix_all HL.out.1 HL.out.2] at ho
        obtain ⟨a', c', e', hI', -⟩ := (own_out ho).1
        simp only [Value.slice.injEq] at e'
        rw [e'.1]; exact hI'
      clear hb3 SK PS HB3 AQ HQL HGU hgU HL
      obtain ⟨W6, hW6⟩ : ∃ W6, wr = W6 := ⟨_, rfl⟩
      rw [hW6] at PW ⊢
      clear hW6
      obtain ⟨fs, hFs, hfe, hfl⟩ := PW.out.2.2.1
      have FF : Aside (FactsIn W6 pF fs ∧ fs.map pf = F ∧ fs.length = n1) := ⟨hFs, hfe, hfl⟩
      have hk200 := hka1.out.2
      clear hFs hfe hfl hltz
      go_wp2_with fail
      go_loopg [15, 16, 17, 18] n1 (fun g1 vc vi vin vk wr => ∃ (j c : Nat), vc = .int .i64 c ∧ vi = .int .i64 j ∧ j ≤ n1 ∧ n1 - j ≤ g1 ∧ c ≤ j ∧ Aside ((cutF (wtn lo hi) (F.take j)).length = c ∧ Below W6.heap.size W6 wr))
      case atStart => exact ⟨0, 0, rfl, rfl, Nat.zero_le _, Nat.le_refl _, Nat.le_refl _, rfl, Below.refl _ _⟩
      case round =>
        obtain ⟨j, c, rfl, rfl, hj, hg2, hcj, SJ⟩ := hrel
        by_cases hlt2 : j < n1
        · have hltz2 : (j : Int) < (n1 : Int) := by omega
          have hjl : j < fs.length := by rw [FF.out.2.2]; exact hlt2
          obtain ⟨W1, hW1⟩ : ∃ W1, wr = W1 := ⟨_, rfl⟩
          rw [hW1] at SJ ⊢
          clear hW1
          obtain ⟨b, off, ha, hc⟩ := (FF.out.1.keep SJ.out.2).get hjl
          subst ha
          obtain ⟨r0, -, hK⟩ := hc j hjl
          clear hc
          have hkn : (ftn fs j).k.length = n := (HF.out.2 (pf (ftn fs j)) (by rw [← FF.out.2.1]; exact List.mem_map.2 ⟨_, ftn_mem hjl, rfl⟩)).1
          have HKY : Aside (Ints W1 (ftn fs j).a (ftn fs j).k) := hK.mem
          have HST : Aside ((cutF (wtn lo hi) (F.take (j + 1))).length = c + (if wtn lo hi (ftn fs j).k = true then 1 else 0)) := by
            show _ = _
            rw [cutF_take FF.out.2.1 hjl, SJ.out.1]
          have HWT : Aside (inK lo hi (ftn fs j).k n = wtn lo hi (ftn fs j).k) := inK_wtn HA.out.box.ll HA.out.box.lh hkn
          have HKL : Aside ((ftn fs j).k.length = n) := hkn
          have B6 : Aside (Below W6.heap.size W6 W1) := SJ.out.2
          rw [hkn] at r0
          clear SJ hK hkn
          generalize (ftn fs j).k = key at HKY HST HWT HKL
          generalize (ftn fs j).a = ka at r0 HKY
          generalize (ftn fs j).cap = kc at r0
          go_wp2_with fail
          go_loopg [17, 18] n (fun g2 vin vk wr => ∃ (k : Nat) (z : Bool), vin = .bool z ∧ vk = .int .i64 k ∧ k ≤ n ∧ n - k ≤ g2 ∧ Aside (inK lo hi key k = z ∧ Below W1.heap.size W1 wr))
          case atStart => exact ⟨0, true, rfl, rfl, Nat.zero_le _, Nat.le_refl _, inK_zero _ _ _, Below.refl _ _⟩
          case round =>
            obtain ⟨k, z, rfl, rfl, hk, hg3, SZ⟩ := hrel
            have B1 : Aside (Below W1.heap.size W1 wr) := SZ.out.2
            have hb6 := B6.out.trans (B1.out.mono B6.out.size)
            by_cases hlt3 : k < n
            · have hltz3 : (k : Int) < (n : Int) := by omega
              have f0 := (B1.out.cell (p := ⟨b, off + j * 2, none⟩) (cell_lt r0)).trans r0
              obtain ⟨kb, ko, hka, hkc⟩ := (HKY.out.keep B1.out).get (k := k) (by rw [HKL.out]; exact hlt3)
              have f1 := hkc k (by rw [HKL.out]; exact hlt3)
              obtain ⟨b1, o1, hp1, hc1⟩ := (PW.out.2.2.2.2.1.keep hb6).get (k := k) (by rw [HA.out.box.ll]; exact hlt3)
              have f2 := hc1 k (by rw [HA.out.box.ll]; exact hlt3)
              obtain ⟨b2, o2, hp2, hc2⟩ := (PW.out.2.2.2.2.2.1.keep hb6).get (k := k) (by rw [HA.out.box.lh]; exact hlt3)
              have f3 := hc2 k (by rw [HA.out.box.lh]; exact hlt3)
              have y2 := (PW.out.2.2.2.2.2.2.1.keep hb6).c2
              have y3 := (PW.out.2.2.2.2.2.2.1.keep hb6).c3
              rw [hka] at f0
              rw [hp1] at y2
              rw [hp2] at y3
              have HZ : Aside (∀ z', (z && (decide (nth lo k ≤ nth key k) && decide (nth key k < nth hi k))) = z' → inK lo hi key (k + 1) = z') := fun z' h => by rw [inK_succ, SZ.out.1]; exact h
              clear hkc hc1 hc2 hka hp1 hp2 SZ hb6
              generalize nth key k = x at f1 HZ
              generalize nth lo k = y at f2 HZ
              generalize nth hi k = u at f3 HZ
              cases z with
              | false =>
                have S2 : Aside (inK lo hi key (k + 1) = false) := HZ.out false rfl
                clear HZ
                go_wp2_with fail
                go_quiet (fail)
                have SB : Aside (Below W1.heap.size W1 (wr.drewN nq)) := below_drewN B1.out nq
                go_wp2
                go_roundg (n - (k + 1))
                case measure => omega
                case rel => exact ⟨k + 1, false, rfl, by go_num, by omega, by omega, S2.out, SB.out⟩
              | true =>
                by_cases g1 : y ≤ x
                · have d1 : decide (y ≤ x) = true := decide_eq_true g1
                  obtain ⟨z2, hz2⟩ : ∃ z2, decide (x < u) = z2 := ⟨_, rfl⟩
                  have S2 : Aside (inK lo hi key (k + 1) = z2) := HZ.out z2 (by rw [d1, hz2]; rfl)
                  clear HZ
                  go_wp2_with fail
                  go_quiet (fail)
                  have SB : Aside (Below W1.heap.size W1 (wr.drewN nq)) := below_drewN B1.out nq
                  go_wp2
                  go_roundg (n - (k + 1))
                  case measure => omega
                  case rel => exact ⟨k + 1, z2, rfl, by go_num, by omega, by omega, S2.out, SB.out⟩
                · have d1 : decide (y ≤ x) = false := decide_eq_false g1
                  have S2 : Aside (inK lo hi key (k + 1) = false) := HZ.out false (by rw [d1]; rfl)
                  clear HZ
                  go_wp2_with fail
                  go_quiet (fail)
                  have SB : Aside (Below W1.heap.size W1 (wr.drewN nq)) := below_drewN B1.out nq
                  go_wp2
                  go_roundg (n - (k + 1))
                  case measure => omega
                  case rel => exact ⟨k + 1, false, rfl, by go_num, by omega, by omega, S2.out, SB.out⟩
            · have hltz3 : ¬ (k : Int) < (n : Int) := by omega
              have hke : k = n := by omega
              have SW : Aside (wtn lo hi key = z) := by show _ = _; rw [← HWT.out, ← hke]; exact SZ.out.1
              have B7 : Aside (Below W6.heap.size W6 wr) := hb6
              clear hke SZ hb6 B1
              cases z with
              | true =>
                have S3 : Aside ((cutF (wtn lo hi) (F.take (j + 1))).length = c + 1) := by show _ = _; rw [HST.out, SW.out]; rfl
                clear SW HST
                go_wp2
                go_roundg (n1 - (j + 1))
                case measure => omega
                case rel => exact ⟨j + 1, c + 1, by go_num, by go_num, by omega, by omega, by omega, S3.out, B7.out⟩
              | false =>
                have S3 : Aside ((cutF (wtn lo hi) (F.take (j + 1))).length = c) := by show _ = _; rw [HST.out, SW.out]; rfl
                clear SW HST
                go_wp2
                go_roundg (n1 - (j + 1))
                case measure => omega
                case rel => exact ⟨j + 1, c, rfl, by go_num, by omega, by omega, by omega, S3.out, B7.out⟩
        · have hltz2 : ¬ (j : Int) < (n1 : Int) := by omega
          have hFl : F.length = n1 := by rw [← FF.out.2.1, List.length_map, FF.out.2.2]
          have HC : Aside ((cutF (wtn lo hi) F).length = c) := by
            have h := SJ.out.1
            rw [List.take_of_length_le (by omega)] at h
            exact h
          have B1 : Aside (Below W6.heap.size W6 wr) := SJ.out.2
          clear SJ
          have QW : Aside (Pow wr ∧ DimsIn wr (some ⟨gx, 0, none⟩) ds ∧ FactL wr pF n1 F ∧ Ints wr (some ⟨gL, 0, none⟩) (topL ds) ∧ Ints wr p1 lo ∧ Ints wr p2 hi ∧ Cel3 gU (.slice (some ⟨gL, 0, none⟩) n qL) (.slice p1 n q1) (.slice p2 n q2) wr ∧ Below w.heap.size w wr) := ⟨PW.out.1.keep B1.out, PW.out.2.1.keep B1.out, PW.out.2.2.1.keep B1.out, PW.out.2.2.2.1.keep B1.out, PW.out.2.2.2.2.1.keep B1.out, PW.out.2.2.2.2.2.1.keep B1.out, PW.out.2.2.2.2.2.2.1.keep B1.out, PW.out.2.2.2.2.2.2.2.trans (B1.out.mono PW.out.2.2.2.2.2.2.2.size)⟩
          clear PW B1 FF
          have Uk1 := QW.out.2.2.2.2.2.2.1.c1
          have Uk2 := QW.out.2.2.2.2.2.2.1.c2
          have Uk3 := QW.out.2.2.2.2.2.2.1.c3
          have hF5 : Aside (F.length ≤ 500) := by show _ ≤ _; omega
          have hA : ∀ W, Below wr.heap.size wr W → Calls Tryd.prog 19 #[.slice pF n1 qF] W fun e w' => ∃ p m q, e = .returned (.slice p m q) ∧ (TabL w' p m q (tab (rowsOf F)) ∧ m ≤ 1000) ∧ Below W.heap.size W w' := fun W hW => by
            refine (refMake_made pF n1 qF n F W (QW.out.2.2.1.keep hW) (by omega) hn4 HF.out.2).mono ?_
            rintro e w1 ⟨v1, rfl, ⟨⟨p', m', q', rfl, hX, hm⟩, hbx⟩⟩
            exact ⟨p', m', q', rfl, ⟨hX, by omega⟩, hbx⟩
          have MX : Aside (MT n (tab (rowsOf F)) F) := MT.make HF.out.1 HF.out.2
          have hB : ∀ W p m q, Below wr.heap.size wr W → (TabL W p m q (tab (rowsOf F)) ∧ m ≤ 1000) → Calls Tryd.prog 11 #[.slice (some ⟨gx, 0, none⟩) n cx, .slice p m q, .agg #[.slice (some ⟨gL, 0, none⟩) n qL, .slice p1 n q1, .slice p2 n q2]] W fun e w' => ∃ p m q, e = .returned (.tuple #[.slice p m q, .int .u16 0]) ∧ TabL w' p m q (runT ds (tab (rowsOf F)) (topL ds) lo hi) ∧ Below W.heap.size W w' := fun W p m q hW hK => by
            refine (run_made _ p _ p1 p2 n cx m q qL q1 q2 ds _ F (topL ds) lo hi W (QW.out.1.keep hW) (QW.out.2.1.keep hW) HD.out hK.1 MX.out hK.2 hF5.out (QW.out.2.2.2.1.keep hW) (top_lev HD.out.len) (QW.out.2.2.2.2.1.keep hW) (QW.out.2.2.2.2.2.1.keep hW) HA.out.box).mono ?_
            rintro e w1 ⟨v1, rfl, ⟨⟨p', m', q', rfl, hX, -⟩, hbx⟩⟩
            exact ⟨p', m', q', rfl, hX, hbx⟩
          have MZ : Aside (MT n (runT ds (tab (rowsOf F)) (topL ds) lo hi) (runF ds (topL ds) lo hi F)) := MT.run MX.out (top_lev HD.out.len) HD.out.len HD.out.snd
          have HG : Aside ((runF ds (topL ds) lo hi F).length = c ∧ ∀ f ∈ runF ds (topL ds) lo hi F, f.1 = zeros n) := ⟨by rw [runF_count, HC.out], top_keys HD.out.len HF.out.2⟩
          go_wp2_with fail
          go_region_held3 (fun w' => Below wr.heap.size wr w' ∧ w'.cell? ⟨gU, 0, none⟩ = some (.slice (some ⟨gL, 0, none⟩) n qL) ∧ w'.cell? ⟨gU, 1, none⟩ = some (.slice p1 n q1) ∧ w'.cell? ⟨gU, 2, none⟩ = some (.slice p2 n q2))
            (first | with_reducible assumption | (exact ⟨(Below.refl _ _).drew, Uk1, Uk2, Uk3⟩) | (refine keepQ (W0 := wr) (B := gU) (x1 := .slice (some ⟨gL, 0, none⟩) n qL) (x2 := .slice p1 n q1) (x3 := .slice p2 n q2) hb1' ?_; with_reducible assumption) | (refine keepQ (W0 := wr) (B := gU) (x1 := .slice (some ⟨gL, 0, none⟩) n qL) (x2 := .slice p1 n q1) (x3 := .slice p2 n q2) hb2' ?_; with_reducible assumption))
            (first | (go_at_call 19; refine (hA _ ?_).mono ?_; (focus (apply And.left; assumption)); rintro e wa ⟨pG, mG, qG, rfl, hK1, hb1'⟩) | (go_at_call 11; refine (hB _ pG mG qG ?_ hK1).mono ?_; (focus (apply And.left; assumption)); rintro e wb ⟨pZ, mZ, qZ, rfl, hT2, hb2'⟩))
          have hbR : Below wr.heap.size wr wb := by apply And.left; assumption
          have B9 : Aside (Below w.heap.size w wb) := QW.out.2.2.2.2.2.2.2.trans (hbR.mono QW.out.2.2.2.2.2.2.2.size)
          obtain ⟨rs, t1, t2, t3, -, -⟩ := hT2
          have hlen : (runT ds (tab (rowsOf F)) (topL ds) lo hi).length = mZ := by rw [← t2, List.length_map, t3]
          by_cases h0 : c = 0
          · have hm0 : mZ = 0 := by
              have h := rows_le MZ.out.m
              rw [HG.out.1, hlen] at h
              omega
            subst h0
            subst hm0
            clear hA hB hK1 hb1' hb2' Uk1 Uk2 Uk3 hbR QW t1 t2 t3 hlen MZ HG MX HC
            go_wp2
            go_ret
            exact ⟨rfl, B9.out⟩
          · obtain ⟨cc, hT, hcn⟩ := top_one MZ.out HG.out.2 (fun e => h0 (by have h := HG.out.1; rw [e] at h; simpa using h.symm))
            rw [HG.out.1] at hcn
            have hm1 : mZ = 1 := by rw [← hlen, hT]; rfl
            subst hm1
            obtain ⟨bz, oz, hpz, hcz⟩ := t1.get (k := 0) (by omega)
            obtain ⟨⟨-, e1, -, -, -⟩, -⟩ := hcz 0 (by omega)
            have hn0 : (rwn rs 0).c.n = (c : Int) := by
              rw [hT] at t2
              have h := congrArg List.head? t2
              rcases rs with _ | ⟨r, rs⟩
              · simp at t3
              · simp only [List.map_cons, List.head?_cons, Option.some.injEq] at h
                show r.c.n = _
                rw [← hcn, show r.c = cc from congrArg Prod.snd h]
            rw [hn0] at e1
            subst hpz
            have hx : ((c : Int) == 0) = false := by simp; omega
            have hcc : ((c : Int) == (c : Int)) = true := by simp
            simp only [Nat.zero_mul, Nat.add_zero] at e1
            clear hA hB hK1 hb1' hb2' Uk1 Uk2 Uk3 hbR QW t1 t2 t3 hlen MZ HG MX HC hT hcn hcz hn0
            go_wp2
            go_ret
            exact ⟨ret_bool (by simp), B9.out⟩
end Go.Proofs.YtgimknplckkiaaaDoor.query
