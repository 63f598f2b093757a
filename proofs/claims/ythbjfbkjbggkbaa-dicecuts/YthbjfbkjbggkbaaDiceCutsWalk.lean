/-
  The walk of DiceCuts: of whatever rows, lists and choices the call answers true.
-/
import Derived.Test.YthbjfbkjbggkbaaDiceTab
namespace Go.Proofs.Ythbjfbkjbggkbaa.dice
open Go.ChangeShapes Go.WideShapes Go.ChangeAt Go.RowKit Go.Deep
open Go.Proofs.Ythbjfbkjbggkbaa.dims
open Go.Proofs.Ythbjfbkjbggkbaa.table (Rw rwn plain PRow rowCells KeyOk TabOut flatR flatR_len flatR_snoc flatR_one rowCells_one info_row own_rows rwn_mem rwn_eq wpList_append_zero refSame_any)
open Go.Proofs.Ythbjfbkjbggkbaa.cell (C4 In64)
set_option linter.unusedVariables false
set_option maxRecDepth 100000

set_option maxHeartbeats 16000000 in
theorem cuts_walk (a0 a1 a2 a3 a4 a5 : Option Addr) (n0 c0 n1 c1 n2 c2 n3 c3 n4 c4 n5 c5 : Nat) (rs : List Rw) (l1 l2 : List Int) (ks : List Kr) (l4 l5 : List Int) (w : World) (pR : table.RowsIn w a0 rs) (p0 : rs.length = n0 ∧ n0 ≤ c0 ∧ c0 ≤ maxLen) (p1 : Nums .i64 w a1 n1 c1 l1) (p2 : Nums .i64 w a2 n2 c2 l2) (pK : KeysIn .u8 w a3 ks) (p3 : ks.length = n3 ∧ n3 ≤ c3 ∧ c3 ≤ maxLen) (p4 : Nums .u8 w a4 n4 c4 l4) (p5 : Nums .u8 w a5 n5 c5 l5) :
    Calls Try.prog 5 #[.slice a0 n0 c0, .slice a1 n1 c1, .slice a2 n2 c2, .slice a3 n3 c3, .slice a4 n4 c4, .slice a5 n5 c5] w fun e w' => e = .returned (.bool true) ∧ Below w.heap.size w w' := by
  obtain ⟨i0, hi, hz0, hz1, hz2⟩ := info_parts info_row
  have E : Aside (rs.length = n0 ∧ l1.length = n1 ∧ l2.length = n2 ∧ ks.length = n3 ∧ l4.length = n4 ∧ l5.length = n5) := ⟨p0.1, p1.eln, p2.eln, p3.1, p4.eln, p5.eln⟩
  have H0 : Aside (table.RowsIn w a0 rs) := pR
  have H1 : Aside (Ints w a1 l1) := p1.ints
  have H2 : Aside (Ints w a2 l2) := p2.ints
  have H3 : Aside (KeysIn .u8 w a3 ks) := pK
  have H4 : Aside (Nums .u8 w a4 n4 c4 l4) := p4
  have H5 : Aside (Nums .u8 w a5 n5 c5 l5) := p5
  clear pR p0 p1 p2 pK p3 p4 p5
  go_enter Try.func5, Try.ntmps5
  go_wp2_with fail
  refine (heavy2 w.heap.size a1 a2 n1 n2 c1 c2 _ (by simp [go_sem]) (by simp [go_sem])).mono ?_
  have BB : Aside (Below w.heap.size w (w.alloc (.cells #[.slice a1 n1 c1, .slice a2 n2 c2] 26))) := (Below.refl _ _).alloc (Nat.le_refl _) _
  generalize w.alloc (.cells #[.slice a1 n1 c1, .slice a2 n2 c2] 26) = wg at BB ⊢
  rintro e w1 ⟨rfl | ⟨rfl, m1, m2⟩, rfl⟩
  · go_wp2_with fail
    refine (known_any _).mono ?_
    rintro e w2 ⟨rfl, hb2⟩
    have B2 : Aside (Below w.heap.size w w2) := BB.out.trans (hb2.mono BB.out.size)
    clear hb2
    go_wp2
    go_ret
    exact ⟨rfl, B2.out⟩
  by_cases g0 : (200 : Int) < (n0 : Int)
  · go_wp2_with fail
    refine (known_any _).mono ?_
    rintro e w2 ⟨rfl, hb2⟩
    have B2 : Aside (Below w.heap.size w w2) := BB.out.trans (hb2.mono BB.out.size)
    clear hb2
    go_wp2
    go_ret
    exact ⟨rfl, B2.out⟩
  by_cases g3 : (200 : Int) < (n3 : Int)
  · go_wp2_with fail
    refine (known_any _).mono ?_
    rintro e w2 ⟨rfl, hb2⟩
    have B2 : Aside (Below w.heap.size w w2) := BB.out.trans (hb2.mono BB.out.size)
    clear hb2
    go_wp2
    go_ret
    exact ⟨rfl, B2.out⟩
  by_cases g4 : (4 : Int) < (n4 : Int)
  · go_wp2_with fail
    refine (known_any _).mono ?_
    rintro e w2 ⟨rfl, hb2⟩
    have B2 : Aside (Below w.heap.size w w2) := BB.out.trans (hb2.mono BB.out.size)
    clear hb2
    go_wp2
    go_ret
    exact ⟨rfl, B2.out⟩
  by_cases g5 : (4 : Int) < (n5 : Int)
  · go_wp2_with fail
    refine (known_any _).mono ?_
    rintro e w2 ⟨rfl, hb2⟩
    have B2 : Aside (Below w.heap.size w w2) := BB.out.trans (hb2.mono BB.out.size)
    clear hb2
    go_wp2
    go_ret
    exact ⟨rfl, B2.out⟩
  have B1 : Aside (Below w.heap.size w w1) := BB
  have R1 : Aside (table.RowsIn w1 a0 rs) := H0.out.keep BB.out
  have S1 : Aside (Ints w1 a1 l1) := H1.out.keep BB.out
  have T1 : Aside (Ints w1 a2 l2) := H2.out.keep BB.out
  have K1 : Aside (KeysIn .u8 w1 a3 ks) := H3.out.keep BB.out
  have P1 : Aside (Nums .u8 w1 a4 n4 c4 l4) := H4.out.keep BB.out
  have Q1 : Aside (Nums .u8 w1 a5 n5 c5 l5) := H5.out.keep BB.out
  clear BB H0 H1 H2 H3 H4 H5
  go_wp2_with fail
  refine (known_any _).mono ?_
  rintro e w2 ⟨rfl, hbx⟩
  have hb2 : Below w1.heap.size w1 w2 := hbx
  have R2 : Aside (table.RowsIn w2 a0 rs) := R1.out.keep hb2
  have S2 : Aside (Ints w2 a1 l1) := S1.out.keep hb2
  have T2 : Aside (Ints w2 a2 l2) := T1.out.keep hb2
  have K2 : Aside (KeysIn .u8 w2 a3 ks) := K1.out.keep hb2
  have P2 : Aside (Nums .u8 w2 a4 n4 c4 l4) := P1.out.keep hb2
  have Q2 : Aside (Nums .u8 w2 a5 n5 c5 l5) := Q1.out.keep hb2
  have B2 : Aside (Below w.heap.size w w2) := B1.out.trans (hb2.mono B1.out.size)
  clear hb2 R1 S1 T1 K1 P1 Q1 B1
  go_wp2_with fail
  go_loopg [13] n0 (fun g1 vi wr => ∃ (k : Nat), vi = .int .i64 k ∧ k ≤ n0 ∧ n0 - k ≤ g1 ∧ wr = w2 ∧ Aside (∀ i, i < k → (rwn rs i).k.length ≤ 50))
  case atStart => exact ⟨0, rfl, Nat.zero_le _, Nat.le_refl _, rfl, fun i hi => by omega⟩
  case round =>
    obtain ⟨k, rfl, hk, hg1, hwr, SK⟩ := hrel
    have hwr2 := hwr.symm
    subst hwr2
    by_cases hlt : k < n0
    · have hltz : (k : Int) < (n0 : Int) := by omega
      have hkl : k < rs.length := by rw [E.out.1]; exact hlt
      obtain ⟨b, off, ha, hc⟩ := R2.out.get hkl
      subst ha
      obtain ⟨⟨r0, -, -, -, -⟩, -⟩ := hc k hkl
      clear hc
      by_cases hL : (rwn rs k).k.length ≤ 50
      · have hb : ¬ (50 : Int) < ((rwn rs k).k.length : Int) := by omega
        have S2' : Aside (∀ i, i < k + 1 → (rwn rs i).k.length ≤ 50) := fun i hi => by
          by_cases e : i = k
          · subst e; exact hL
          · exact SK.out i (by omega)
        generalize (rwn rs k).k.length = q at r0 hb
        clear hL
        go_wp2
        go_roundg (n0 - (k + 1))
        case measure => omega
        case rel => exact ⟨k + 1, by go_num, by omega, by omega, rfl, S2'⟩
      · have hb : (50 : Int) < ((rwn rs k).k.length : Int) := by omega
        generalize (rwn rs k).k.length = q at r0 hb
        clear hL
        go_wp2
        go_ret
        exact ⟨rfl, B2.out⟩
    · have hltz : ¬ (k : Int) < (n0 : Int) := by omega
      have LR : Aside (∀ r ∈ rs, r.k.length ≤ 100000) := by
        intro r hr
        obtain ⟨i, hi, rfl⟩ := List.mem_iff_getElem.1 hr
        have := SK.out i (by rw [E.out.1] at hi; omega)
        rw [rwn_eq hi] at this
        omega
      clear SK
      go_wp2_with fail
      go_loopg [14, 15] n3 (fun g1 v vi wr => ∃ (k : Nat) (os : List Rw), vi = .int .i64 k ∧ k ≤ n3 ∧ n3 - k ≤ g1 ∧ os.length ≤ k ∧ Aside (PK w2 (mkRow (fun i => (kn ks i).l) (fun i => ⟨i, 0, 0, 0⟩) n3) (fun _ => true) k os v wr ∧ ∀ i, i < k → (kn ks i).l.length ≤ 50))
      case atStart => exact ⟨0, [], rfl, Nat.zero_le _, Nat.le_refl _, Nat.le_refl _, PK.start w2 _ _, fun i hi => by omega⟩
      case round =>
        obtain ⟨j, os, rfl, hj, hg1, hol, SJ⟩ := hrel
        by_cases hlt3 : j < n3
        · have hlt3z : (j : Int) < (n3 : Int) := by omega
          have hjl : j < ks.length := by rw [E.out.2.2.2.1]; exact hlt3
          obtain ⟨b, off, ha, hc⟩ := (K2.out.keep SJ.out.1.bel).get hjl
          subst ha
          obtain ⟨r0, hN⟩ := hc j hjl
          clear hc
          by_cases hL : (kn ks j).l.length ≤ 50
          · have hb : ¬ (50 : Int) < ((kn ks j).l.length : Int) := by omega
            have CI := ints_any (kn ks j).a (kn ks j).l.length (kn ks j).cap (kn ks j).l wr hN (by omega)
            have PU : Aside (∀ W W' A cK q c4, Below wr.heap.size wr W → W.ownsRow w2.heap.size 3 1 (.slice A (kn ks j).l.length cK) (kn ks j).l.length (vals (kn ks j).l) → W'.ownsRow w2.heap.size 47 5 (.slice (some ⟨q, 0, none⟩) (os.length + 1) c4) (os.length + 1) (flatR os ++ [.slice A (kn ks j).l.length cK, .int .i64 (j : Int), .int .i64 0, .int .i64 0, .int .i64 0]) → W.grownBy W' u14.ownBlock → PK w2 (mkRow (fun i => (kn ks i).l) (fun i => ⟨i, 0, 0, 0⟩) n3) (fun _ => true) (j + 1) (os ++ [⟨A, cK, (kn ks j).l, ⟨j, 0, 0, 0⟩⟩]) (.slice (some ⟨q, 0, none⟩) (os.length + 1) c4) W') := fun W W' A cK q c4 hW hd ho hg => by
              refine (SJ.out.1.keep hW).push (r := ⟨A, cK, (kn ks j).l, ⟨j, 0, 0, 0⟩⟩) (by rw [mkRow_len]; exact hlt3) rfl (by rw [mkRow_nth _ _ hlt3]; rfl) (fun x hx => ?_) hd ho hg
              obtain ⟨i, hi', rfl⟩ := List.mem_iff_getElem.1 hx
              have := u8_of_wf (hN.wf i hi')
              have e : nth (kn ks j).l i = (kn ks j).l[i] := by simp [nth, hi']
              rw [e] at this
              exact In64_u8 this
            have SL : Aside (∀ i, i < j + 1 → (kn ks i).l.length ≤ 50) := fun i hi => by
              by_cases e : i = j
              · subst e; exact hL
              · exact SJ.out.2 i (by omega)
            have hown := SJ.out.1.own
            have hsz := SJ.out.1.bel.size
            clear hN hL SJ
            generalize (kn ks j).l = kl at r0 CI PU hb
            generalize (kn ks j).a = ka at r0 CI
            generalize (kn ks j).cap = kc at r0 CI
            obtain ⟨nl, hnl⟩ : ∃ nl, kl.length = nl := ⟨_, rfl⟩
            have HNL : Aside (kl.length = nl) := hnl
            rw [hnl] at r0 CI PU hb
            clear hnl
            go_wp2_with fail
            refine CI.mono ?_
            rintro e w3 ⟨v, rfl, hr3⟩
            obtain ⟨pa, qa, rfl, -, -⟩ := row_len (own_out hr3.1).1 HNL.out
            have O3 : Aside (w3.ownsRow w2.heap.size 3 1 (.slice pa nl qa) nl (vals kl)) := by
              have h := own_mono hr3.1 hsz
              rw [HNL.out] at h
              exact h
            have hb3 := hr3.2
            have hown3 := own_below hown hb3
            have hsz3 := Nat.le_trans hsz hb3.size
            clear hr3 CI hown r0
            go_wp2_with (first | (at_builtin; refine wpList_append_lies _ rfl (.tmp 71) (.tmp 80) 41 rfl w2.heap.size 47 i0 _ 5 56 Try.underlying41 hi hz0 hz1 hz2 rfl (by decide) _ os.length (flatR os) rfl (hown3.alloc _) ⟨w3.heap.size, 0, none⟩ 1 1 [.slice pa nl qa, .int .i64 (j : Int), .int .i64 0, .int .i64 0, .int .i64 0] rfl rfl (cells_five_new _ _ _ _ _ _ _) (by intro u hu; simp at hu; rcases hu with rfl | rfl | rfl | rfl | rfl <;> rfl) (by decide) (by unfold maxLen; omega) (by omega) (by simp; omega) _ rfl ?_) | go_in)
            intro g4 cap4 w4 hown4 hgrow hat hglt
            have S4 : Aside (PK w2 (mkRow (fun i => (kn ks i).l) (fun i => ⟨i, 0, 0, 0⟩) n3) (fun _ => true) (j + 1) (os ++ [⟨pa, qa, kl, ⟨j, 0, 0, 0⟩⟩]) (.slice (some ⟨g4, 0, none⟩) (os.length + 1) cap4) w4) :=
              PU.out _ w4 pa qa g4 cap4 (hb3.trans ((Below.refl _ _).alloc (by have := hb3.size; omega) _)) (O3.out.alloc _) hown4 hgrow
            clear PU hown4 hgrow hat hglt hown3 O3 hb3
            go_wp2
            go_roundg (n3 - (j + 1))
            case measure => omega
            case rel => exact ⟨j + 1, _, by go_num, by omega, by omega, by simp; omega, S4.out, SL.out⟩
          · have hb : (50 : Int) < ((kn ks j).l.length : Int) := by omega
            have BR : Aside (Below w.heap.size w wr) := B2.out.trans (SJ.out.1.bel.mono B2.out.size)
            clear hN hL SJ
            generalize (kn ks j).l.length = q at r0 hb
            go_wp2
            go_ret
            exact ⟨rfl, BR.out⟩
        · have hlt3z : ¬ (j : Int) < (n3 : Int) := by omega
          have hb3 := SJ.out.1.bel
          obtain ⟨ar, cr, qs, rfl, hQ, hqp, -, -⟩ := SJ.out.1.out (by rw [mkRow_len]; omega)
          rw [cutR_all] at hqp
          have hql : qs.length = n3 := by
            have := congrArg List.length hqp
            simpa [mkRow_len] using this
          have LQ : Aside ((∀ r ∈ qs, r.k.length ≤ 100000) ∧ qs.length = n3) := ⟨fun r hr => Nat.le_trans (rows_light hqp (fun i hi => by
              rw [mkRow_len] at hi
              rw [mkRow_nth _ _ hi]; exact SJ.out.2 i (by omega)) r hr) (by omega), hql⟩
          rw [hql]
          clear SJ hqp hql
          generalize wr = w3 at hb3 hQ ⊢
          have R3 : Aside (table.RowsIn w3 a0 rs) := R2.out.keep hb3
          have S3 : Aside (Ints w3 a1 l1) := S2.out.keep hb3
          have T3 : Aside (Ints w3 a2 l2) := T2.out.keep hb3
          have P3 : Aside (Nums .u8 w3 a4 n4 c4 l4) := P2.out.keep hb3
          have Q3 : Aside (Nums .u8 w3 a5 n5 c5 l5) := Q2.out.keep hb3
          have B3 : Aside (Below w.heap.size w w3) := B2.out.trans (hb3.mono B2.out.size)
          have V3 : Aside (table.RowsIn w3 ar qs) := hQ
          clear hb3 hQ B2 K2 R2 S2 T2 P2 Q2
          obtain ⟨mx, hmx⟩ : ∃ m, (cutR (wtn l1 l2) rs).length = m := ⟨_, rfl⟩
          obtain ⟨my, hmy⟩ : ∃ m, (cutR (wtn l4 l5) qs).length = m := ⟨_, rfl⟩
          have MX : Aside ((cutR (wtn l1 l2) rs).length = mx ∧ mx ≤ 1000) := ⟨hmx, by have := cut_len (wtn l1 l2) rs; rw [E.out.1] at this; omega⟩
          have MY : Aside ((cutR (wtn l4 l5) qs).length = my ∧ my ≤ 1000) := ⟨hmy, by have := cut_len (wtn l4 l5) qs; rw [LQ.out.2] at this; omega⟩
          clear hmx hmy
          go_wp2_with fail
          refine (cut_out a0 a1 a2 n0 c0 n1 n2 c1 c2 mx rs l1 l2 w3 R3.out E.out.1 (by omega) LR.out S3.out E.out.2.1 T3.out E.out.2.2.1 MX.out.1).mono ?_
          rintro e w4 ⟨v, rfl, hres⟩
          obtain ⟨⟨x1, x2, x3, rfl, i1, i2, i3⟩, hbx⟩ := hres
          have hb4 : Below w3.heap.size w3 w4 := hbx
          have R4 : Aside (table.RowsIn w4 a0 rs) := R3.out.keep hb4
          have S4 : Aside (Ints w4 a1 l1) := S3.out.keep hb4
          have T4 : Aside (Ints w4 a2 l2) := T3.out.keep hb4
          have P4 : Aside (Nums .u8 w4 a4 n4 c4 l4) := P3.out.keep hb4
          have Q4 : Aside (Nums .u8 w4 a5 n5 c5 l5) := Q3.out.keep hb4
          have B4 : Aside (Below w.heap.size w w4) := B3.out.trans (hb4.mono B3.out.size)
          have V4 : Aside (table.RowsIn w4 ar qs) := V3.out.keep hb4
          clear hb4 R3 S3 T3 P3 Q3 B3 V3
          have X4 : Aside (table.RowsIn w4 x1 x3) := i1
          have XE : Aside (x3.map plain = cutR (wtn l1 l2) rs ∧ x3.length = mx) := ⟨i2, i3⟩
          clear i1 i2 i3
          go_wp2_with fail
          refine (refCut_out a0 a1 a2 n0 c0 n1 n2 c1 c2 mx rs l1 l2 w4 R4.out E.out.1 (by omega) LR.out S4.out E.out.2.1 T4.out E.out.2.2.1 (by omega) MX.out.1).mono ?_
          rintro e w5 ⟨v, rfl, hres⟩
          obtain ⟨⟨y1, y2, y3, rfl, i1, i2, i3⟩, hbx⟩ := hres
          have hb5 : Below w4.heap.size w4 w5 := hbx
          have R5 : Aside (table.RowsIn w5 a0 rs) := R4.out.keep hb5
          have S5 : Aside (Ints w5 a1 l1) := S4.out.keep hb5
          have T5 : Aside (Ints w5 a2 l2) := T4.out.keep hb5
          have P5 : Aside (Nums .u8 w5 a4 n4 c4 l4) := P4.out.keep hb5
          have Q5 : Aside (Nums .u8 w5 a5 n5 c5 l5) := Q4.out.keep hb5
          have B5 : Aside (Below w.heap.size w w5) := B4.out.trans (hb5.mono B4.out.size)
          have V5 : Aside (table.RowsIn w5 ar qs) := V4.out.keep hb5
          have X5 : Aside (table.RowsIn w5 x1 x3) := X4.out.keep hb5
          clear hb5 R4 S4 T4 P4 Q4 B4 V4 X4
          have Y5 : Aside (table.RowsIn w5 y1 y3) := i1
          have YE : Aside (y3.map plain = cutR (wtn l1 l2) rs ∧ y3.length = mx) := ⟨i2, i3⟩
          clear i1 i2 i3
          go_wp2_with fail
          refine (refSame_any x1 y1 mx x2 y2 x3 y3 w5 X5.out Y5.out (XE.out.1.trans YE.out.1.symm) XE.out.2 (by have := MX.out.2; omega)).mono ?_
          rintro e w6 ⟨rfl, hbx⟩
          have hb6 : Below w5.heap.size w5 w6 := hbx
          have R6 : Aside (table.RowsIn w6 a0 rs) := R5.out.keep hb6
          have S6 : Aside (Ints w6 a1 l1) := S5.out.keep hb6
          have T6 : Aside (Ints w6 a2 l2) := T5.out.keep hb6
          have P6 : Aside (Nums .u8 w6 a4 n4 c4 l4) := P5.out.keep hb6
          have Q6 : Aside (Nums .u8 w6 a5 n5 c5 l5) := Q5.out.keep hb6
          have B6 : Aside (Below w.heap.size w w6) := B5.out.trans (hb6.mono B5.out.size)
          have V6 : Aside (table.RowsIn w6 ar qs) := V5.out.keep hb6
          have X6 : Aside (table.RowsIn w6 x1 x3) := X5.out.keep hb6
          have Y6 : Aside (table.RowsIn w6 y1 y3) := Y5.out.keep hb6
          clear hb6 R5 S5 T5 P5 Q5 B5 V5 X5 Y5
          go_wp2_with fail
          refine (ints_out8 a4 n4 c4 l4 w6 P6.out (by omega)).mono ?_
          rintro e w7 ⟨v, rfl, hres⟩
          obtain ⟨⟨ga1, ga2, rfl, i1, -⟩, hbx⟩ := hres
          have hb7 : Below w6.heap.size w6 w7 := hbx
          have R7 : Aside (table.RowsIn w7 a0 rs) := R6.out.keep hb7
          have S7 : Aside (Ints w7 a1 l1) := S6.out.keep hb7
          have T7 : Aside (Ints w7 a2 l2) := T6.out.keep hb7
          have P7 : Aside (Nums .u8 w7 a4 n4 c4 l4) := P6.out.keep hb7
          have Q7 : Aside (Nums .u8 w7 a5 n5 c5 l5) := Q6.out.keep hb7
          have B7 : Aside (Below w.heap.size w w7) := B6.out.trans (hb7.mono B6.out.size)
          have V7 : Aside (table.RowsIn w7 ar qs) := V6.out.keep hb7
          have X7 : Aside (table.RowsIn w7 x1 x3) := X6.out.keep hb7
          have Y7 : Aside (table.RowsIn w7 y1 y3) := Y6.out.keep hb7
          clear hb7 R6 S6 T6 P6 Q6 B6 V6 X6 Y6
          have GA7 : Aside (Ints w7 ga1 l4) := i1
          clear i1
          go_wp2_with fail
          refine (ints_out8 a5 n5 c5 l5 w7 Q7.out (by omega)).mono ?_
          rintro e w8 ⟨v, rfl, hres⟩
          obtain ⟨⟨gb1, gb2, rfl, i1, -⟩, hbx⟩ := hres
          have hb8 : Below w7.heap.size w7 w8 := hbx
          have R8 : Aside (table.RowsIn w8 a0 rs) := R7.out.keep hb8
          have S8 : Aside (Ints w8 a1 l1) := S7.out.keep hb8
          have T8 : Aside (Ints w8 a2 l2) := T7.out.keep hb8
          have P8 : Aside (Nums .u8 w8 a4 n4 c4 l4) := P7.out.keep hb8
          have Q8 : Aside (Nums .u8 w8 a5 n5 c5 l5) := Q7.out.keep hb8
          have B8 : Aside (Below w.heap.size w w8) := B7.out.trans (hb8.mono B7.out.size)
          have V8 : Aside (table.RowsIn w8 ar qs) := V7.out.keep hb8
          have X8 : Aside (table.RowsIn w8 x1 x3) := X7.out.keep hb8
          have Y8 : Aside (table.RowsIn w8 y1 y3) := Y7.out.keep hb8
          have GA8 : Aside (Ints w8 ga1 l4) := GA7.out.keep hb8
          clear hb8 R7 S7 T7 P7 Q7 B7 V7 X7 Y7 GA7
          have GB8 : Aside (Ints w8 gb1 l5) := i1
          clear i1
          go_wp2_with fail
          refine (cut_out ar ga1 gb1 n3 cr n4 n5 ga2 gb2 my qs l4 l5 w8 V8.out LQ.out.2 (by omega) LQ.out.1 GA8.out E.out.2.2.2.2.1 GB8.out E.out.2.2.2.2.2 MY.out.1).mono ?_
          rintro e w9 ⟨v, rfl, hres⟩
          obtain ⟨⟨z1, z2, z3, rfl, i1, i2, i3⟩, hbx⟩ := hres
          have hb9 : Below w8.heap.size w8 w9 := hbx
          have R9 : Aside (table.RowsIn w9 a0 rs) := R8.out.keep hb9
          have S9 : Aside (Ints w9 a1 l1) := S8.out.keep hb9
          have T9 : Aside (Ints w9 a2 l2) := T8.out.keep hb9
          have P9 : Aside (Nums .u8 w9 a4 n4 c4 l4) := P8.out.keep hb9
          have Q9 : Aside (Nums .u8 w9 a5 n5 c5 l5) := Q8.out.keep hb9
          have B9 : Aside (Below w.heap.size w w9) := B8.out.trans (hb9.mono B8.out.size)
          have V9 : Aside (table.RowsIn w9 ar qs) := V8.out.keep hb9
          have X9 : Aside (table.RowsIn w9 x1 x3) := X8.out.keep hb9
          have Y9 : Aside (table.RowsIn w9 y1 y3) := Y8.out.keep hb9
          have GA9 : Aside (Ints w9 ga1 l4) := GA8.out.keep hb9
          have GB9 : Aside (Ints w9 gb1 l5) := GB8.out.keep hb9
          clear hb9 R8 S8 T8 P8 Q8 B8 V8 X8 Y8 GA8 GB8
          have Z9 : Aside (table.RowsIn w9 z1 z3) := i1
          have ZE : Aside (z3.map plain = cutR (wtn l4 l5) qs ∧ z3.length = my) := ⟨i2, i3⟩
          clear i1 i2 i3
          go_wp2_with fail
          refine (ints_out8 a4 n4 c4 l4 w9 P9.out (by omega)).mono ?_
          rintro e w10 ⟨v, rfl, hres⟩
          obtain ⟨⟨gc1, gc2, rfl, i1, -⟩, hbx⟩ := hres
          have hb10 : Below w9.heap.size w9 w10 := hbx
          have R10 : Aside (table.RowsIn w10 a0 rs) := R9.out.keep hb10
          have S10 : Aside (Ints w10 a1 l1) := S9.out.keep hb10
          have T10 : Aside (Ints w10 a2 l2) := T9.out.keep hb10
          have P10 : Aside (Nums .u8 w10 a4 n4 c4 l4) := P9.out.keep hb10
          have Q10 : Aside (Nums .u8 w10 a5 n5 c5 l5) := Q9.out.keep hb10
          have B10 : Aside (Below w.heap.size w w10) := B9.out.trans (hb10.mono B9.out.size)
          have V10 : Aside (table.RowsIn w10 ar qs) := V9.out.keep hb10
          have X10 : Aside (table.RowsIn w10 x1 x3) := X9.out.keep hb10
          have Y10 : Aside (table.RowsIn w10 y1 y3) := Y9.out.keep hb10
          have GA10 : Aside (Ints w10 ga1 l4) := GA9.out.keep hb10
          have GB10 : Aside (Ints w10 gb1 l5) := GB9.out.keep hb10
          have Z10 : Aside (table.RowsIn w10 z1 z3) := Z9.out.keep hb10
          clear hb10 R9 S9 T9 P9 Q9 B9 V9 X9 Y9 GA9 GB9 Z9
          have GC10 : Aside (Ints w10 gc1 l4) := i1
          clear i1
          go_wp2_with fail
          refine (ints_out8 a5 n5 c5 l5 w10 Q10.out (by omega)).mono ?_
          rintro e w11 ⟨v, rfl, hres⟩
          obtain ⟨⟨gd1, gd2, rfl, i1, -⟩, hbx⟩ := hres
          have hb11 : Below w10.heap.size w10 w11 := hbx
          have R11 : Aside (table.RowsIn w11 a0 rs) := R10.out.keep hb11
          have S11 : Aside (Ints w11 a1 l1) := S10.out.keep hb11
          have T11 : Aside (Ints w11 a2 l2) := T10.out.keep hb11
          have P11 : Aside (Nums .u8 w11 a4 n4 c4 l4) := P10.out.keep hb11
          have Q11 : Aside (Nums .u8 w11 a5 n5 c5 l5) := Q10.out.keep hb11
          have B11 : Aside (Below w.heap.size w w11) := B10.out.trans (hb11.mono B10.out.size)
          have V11 : Aside (table.RowsIn w11 ar qs) := V10.out.keep hb11
          have X11 : Aside (table.RowsIn w11 x1 x3) := X10.out.keep hb11
          have Y11 : Aside (table.RowsIn w11 y1 y3) := Y10.out.keep hb11
          have GA11 : Aside (Ints w11 ga1 l4) := GA10.out.keep hb11
          have GB11 : Aside (Ints w11 gb1 l5) := GB10.out.keep hb11
          have Z11 : Aside (table.RowsIn w11 z1 z3) := Z10.out.keep hb11
          have GC11 : Aside (Ints w11 gc1 l4) := GC10.out.keep hb11
          clear hb11 R10 S10 T10 P10 Q10 B10 V10 X10 Y10 GA10 GB10 Z10 GC10
          have GD11 : Aside (Ints w11 gd1 l5) := i1
          clear i1
          go_wp2_with fail
          refine (refCut_out ar gc1 gd1 n3 cr n4 n5 gc2 gd2 my qs l4 l5 w11 V11.out LQ.out.2 (by omega) LQ.out.1 GC11.out E.out.2.2.2.2.1 GD11.out E.out.2.2.2.2.2 (by omega) MY.out.1).mono ?_
          rintro e w12 ⟨v, rfl, hres⟩
          obtain ⟨⟨o1, o2, o3, rfl, i1, i2, i3⟩, hbx⟩ := hres
          have hb12 : Below w11.heap.size w11 w12 := hbx
          have R12 : Aside (table.RowsIn w12 a0 rs) := R11.out.keep hb12
          have S12 : Aside (Ints w12 a1 l1) := S11.out.keep hb12
          have T12 : Aside (Ints w12 a2 l2) := T11.out.keep hb12
          have P12 : Aside (Nums .u8 w12 a4 n4 c4 l4) := P11.out.keep hb12
          have Q12 : Aside (Nums .u8 w12 a5 n5 c5 l5) := Q11.out.keep hb12
          have B12 : Aside (Below w.heap.size w w12) := B11.out.trans (hb12.mono B11.out.size)
          have V12 : Aside (table.RowsIn w12 ar qs) := V11.out.keep hb12
          have X12 : Aside (table.RowsIn w12 x1 x3) := X11.out.keep hb12
          have Y12 : Aside (table.RowsIn w12 y1 y3) := Y11.out.keep hb12
          have GA12 : Aside (Ints w12 ga1 l4) := GA11.out.keep hb12
          have GB12 : Aside (Ints w12 gb1 l5) := GB11.out.keep hb12
          have Z12 : Aside (table.RowsIn w12 z1 z3) := Z11.out.keep hb12
          have GC12 : Aside (Ints w12 gc1 l4) := GC11.out.keep hb12
          have GD12 : Aside (Ints w12 gd1 l5) := GD11.out.keep hb12
          clear hb12 R11 S11 T11 P11 Q11 B11 V11 X11 Y11 GA11 GB11 Z11 GC11 GD11
          have O12 : Aside (table.RowsIn w12 o1 o3) := i1
          have OE : Aside (o3.map plain = cutR (wtn l4 l5) qs ∧ o3.length = my) := ⟨i2, i3⟩
          clear i1 i2 i3
          go_wp2_with fail
          refine (refSame_any z1 o1 my z2 o2 z3 o3 w12 Z12.out O12.out (ZE.out.1.trans OE.out.1.symm) ZE.out.2 (by have := MY.out.2; omega)).mono ?_
          rintro e w13 ⟨rfl, hbx⟩
          have hb13 : Below w12.heap.size w12 w13 := hbx
          have R13 : Aside (table.RowsIn w13 a0 rs) := R12.out.keep hb13
          have S13 : Aside (Ints w13 a1 l1) := S12.out.keep hb13
          have T13 : Aside (Ints w13 a2 l2) := T12.out.keep hb13
          have P13 : Aside (Nums .u8 w13 a4 n4 c4 l4) := P12.out.keep hb13
          have Q13 : Aside (Nums .u8 w13 a5 n5 c5 l5) := Q12.out.keep hb13
          have B13 : Aside (Below w.heap.size w w13) := B12.out.trans (hb13.mono B12.out.size)
          have V13 : Aside (table.RowsIn w13 ar qs) := V12.out.keep hb13
          have X13 : Aside (table.RowsIn w13 x1 x3) := X12.out.keep hb13
          have Y13 : Aside (table.RowsIn w13 y1 y3) := Y12.out.keep hb13
          have GA13 : Aside (Ints w13 ga1 l4) := GA12.out.keep hb13
          have GB13 : Aside (Ints w13 gb1 l5) := GB12.out.keep hb13
          have Z13 : Aside (table.RowsIn w13 z1 z3) := Z12.out.keep hb13
          have GC13 : Aside (Ints w13 gc1 l4) := GC12.out.keep hb13
          have GD13 : Aside (Ints w13 gd1 l5) := GD12.out.keep hb13
          have O13 : Aside (table.RowsIn w13 o1 o3) := O12.out.keep hb13
          clear hb13 R12 S12 T12 P12 Q12 B12 V12 X12 Y12 GA12 GB12 Z12 GC12 GD12 O12
          go_wp2
          go_ret
          exact ⟨rfl, B13.out⟩
end Go.Proofs.Ythbjfbkjbggkbaa.dice
