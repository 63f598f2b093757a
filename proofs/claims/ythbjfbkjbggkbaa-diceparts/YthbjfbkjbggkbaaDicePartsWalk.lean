/-
  The walk of DiceParts: of whatever choices the call answers true.
-/
import Derived.Test.YthbjfbkjbggkbaaDicePartsMath
namespace Go.Proofs.Ythbjfbkjbggkbaa.dice
open Go.ChangeShapes Go.WideShapes Go.ChangeAt Go.RowKit Go.Deep
open Go.Proofs.Ythbjfbkjbggkbaa.dims
open Go.Proofs.Ythbjfbkjbggkbaa.table (Rw rwn plain PRow rowCells KeyOk TabOut flatR flatR_len flatR_snoc flatR_one rowCells_one info_row own_rows rwn_mem rwn_eq wpList_append_zero refSame_any)
open Go.Proofs.Ythbjfbkjbggkbaa.cell (C4 In64)
set_option linter.unusedVariables false
set_option maxRecDepth 100000

theorem ints_tail {W : World} {b off : Nat} {l : List Int} (h : ∀ i, i < l.length → W.cell? ⟨b, off + i, none⟩ = some (.int .i64 (nth l i))) : ∀ i, i < (l.drop 1).length → W.cell? ⟨b, off + 1 + i, none⟩ = some (.int .i64 (nth (l.drop 1) i)) := fun i hi => by
  have hi2 : i + 1 < l.length := by simp at hi; omega
  rw [show off + 1 + i = off + (i + 1) by omega, h (i + 1) hi2]
  simp [nth]
theorem key_in64 {ds : List Dm} {ch : List Int} {n : Nat} (hn : ds.length = n) (hs : ∀ i, i < n → 1 ≤ (dn ds i).sz ∧ (dn ds i).sz ≤ 10000) : ∀ x ∈ keyL ds ch, In64 x := by
  intro x hx
  obtain ⟨i, hi, rfl⟩ := List.mem_iff_getElem.1 hx
  have hi2 : i < ds.length := by rw [keyL_len] at hi; exact hi
  have e : nth (keyL ds ch) i = (keyL ds ch)[i] := by simp [nth, hi]
  rw [← e, keyL_nth _ _ hi2]
  unfold keyV In64
  have h := hs i (by omega)
  have h1 := Int.emod_nonneg (nth ch i) (by omega : (dn ds i).sz ≠ 0)
  have h2 := Int.emod_lt_of_pos (nth ch i) (by omega : 0 < (dn ds i).sz)
  omega

set_option maxHeartbeats 16000000 in
theorem parts_walk (am a1 a2 a3 : Option Addr) (nm cm n1 c1 n2 c2 n3 c3 : Nat) (cs : List Dm) (l1 l2 : List Int) (ks : List Kr) (at_ : Int) (w : World) (pM : Pairs .u16 .u8 w am cs) (pm : cs.length = nm ∧ nm ≤ cm ∧ cm ≤ maxLen) (p1 : Nums .u16 w a1 n1 c1 l1) (p2 : Nums .u16 w a2 n2 c2 l2) (pK : KeysIn .u16 w a3 ks) (p3 : ks.length = n3 ∧ n3 ≤ c3 ∧ c3 ≤ maxLen) (pa : (Lit.int .u16 at_).wf = true) :
    Calls Try.prog 8 #[.slice am nm cm, .slice a1 n1 c1, .slice a2 n2 c2, .slice a3 n3 c3, .int .u16 at_] w fun e w' => e = .returned (.bool true) ∧ Below w.heap.size w w' := by
  obtain ⟨i0, hi, hz0, hz1, hz2⟩ := info_parts info_row
  obtain ⟨j0, hj, hy0, hy1, hy2⟩ := info_parts info_int
  have hm2 : nm ≤ 9223372036854775807 := Nat.le_trans pm.2.1 (Nat.le_trans pm.2.2 maxLen_le)
  have hat := u16_of_wf pa
  have EK : Aside (ks.length = n3 ∧ cs.length = nm) := ⟨p3.1, pm.1⟩
  have M0 : Aside (Pairs .u16 .u8 w am cs) := pM
  have P0 : Aside (Nums .u16 w a1 n1 c1 l1) := p1
  have Q0 : Aside (Nums .u16 w a2 n2 c2 l2) := p2
  have K0 : Aside (KeysIn .u16 w a3 ks) := pK
  clear pM pm p1 p2 pK p3 pa
  go_enter Try.func8, Try.ntmps8
  by_cases g3 : (200 : Int) < (n3 : Int)
  · go_wp2_with fail
    refine (known_any _).mono ?_
    rintro e w2 ⟨rfl, hb2⟩
    have B2 : Aside (Below w.heap.size w w2) := hb2
    clear hb2
    go_wp2
    go_ret
    exact ⟨rfl, B2.out⟩
  go_wp2_with fail
  refine (known_any _).mono ?_
  rintro e w1 ⟨rfl, hbx⟩
  have hb1 : Below w.heap.size w w1 := hbx
  have M1 : Aside (Pairs .u16 .u8 w1 am cs) := M0.out.keep hb1
  have P1 : Aside (Nums .u16 w1 a1 n1 c1 l1) := P0.out.keep hb1
  have Q1 : Aside (Nums .u16 w1 a2 n2 c2 l2) := Q0.out.keep hb1
  have K1 : Aside (KeysIn .u16 w1 a3 ks) := K0.out.keep hb1
  have B1 : Aside (Below w.heap.size w w1) := hb1
  clear hb1 M0 P0 Q0 K0
  go_wp2_with fail
  refine (of_made am nm cm cs w1 M1.out EK.out.2 hm2).mono ?_
  rintro e w2 ⟨v1, rfl, hres⟩
  obtain ⟨ds, gx, n, cx, rfl, hn, hX, hx1, hx4, hs, hbx⟩ := hres
  have hb2 : Below w1.heap.size w1 w2 := hbx
  have M2 : Aside (Pairs .u16 .u8 w2 am cs) := M1.out.keep hb2
  have P2 : Aside (Nums .u16 w2 a1 n1 c1 l1) := P1.out.keep hb2
  have Q2 : Aside (Nums .u16 w2 a2 n2 c2 l2) := Q1.out.keep hb2
  have K2 : Aside (KeysIn .u16 w2 a3 ks) := K1.out.keep hb2
  have B2 : Aside (Below w.heap.size w w2) := B1.out.trans (hb2.mono B1.out.size)
  clear hb2 M1 P1 Q1 K1 B1
  have D2 : Aside (DimsIn w2 (some ⟨gx, 0, none⟩) ds) := hX
  have HN : Aside (ds.length = n ∧ ∀ i, i < n → 1 ≤ (dn ds i).sz ∧ (dn ds i).sz ≤ 10000) := ⟨hn, hs⟩
  clear hX hn hs M2
  go_wp2_with fail
  refine (box_out _ a1 a2 n cx n1 c1 n2 c2 ds l1 l2 w2 D2.out HN.out.1 hx1 hx4 P2.out Q2.out HN.out.2).mono ?_
  rintro e w3 ⟨t, rfl, hres⟩
  obtain ⟨⟨px1, qx1, px2, qx2, rfl, ⟨i1, m1⟩, i2, m2⟩, hbx⟩ := hres
  have hb3 : Below w2.heap.size w2 w3 := hbx
  have P3 : Aside (Nums .u16 w3 a1 n1 c1 l1) := P2.out.keep hb3
  have Q3 : Aside (Nums .u16 w3 a2 n2 c2 l2) := Q2.out.keep hb3
  have K3 : Aside (KeysIn .u16 w3 a3 ks) := K2.out.keep hb3
  have B3 : Aside (Below w.heap.size w w3) := B2.out.trans (hb3.mono B2.out.size)
  have D3 : Aside (DimsIn w3 (some ⟨gx, 0, none⟩) ds) := D2.out.keep hb3
  clear hb3 P2 Q2 K2 B2 D2
  have ZL : Aside ((boxL ds l1 l2).length = n ∧ (boxH ds l1 l2).length = n) := ⟨by rw [boxL_len, HN.out.1], by rw [boxH_len, HN.out.1]⟩
  have hbx0 := box_at (ch := l1) (dh := l2) HN.out.1 HN.out.2 (i := 0) (by omega)
  have hs0 := (HN.out.2 0 (by omega)).2
  generalize boxL ds l1 l2 = lo at i1 ZL hbx0
  generalize boxH ds l1 l2 = up at i2 ZL hbx0
  obtain ⟨b1, o1, hp1, k1⟩ := i1.get (k := 0) (by rw [ZL.out.1]; omega)
  obtain ⟨b2, o2, hp2, k2⟩ := i2.get (k := 0) (by rw [ZL.out.2]; omega)
  subst hp1
  subst hp2
  have f1 := k1 0 (by rw [ZL.out.1]; omega)
  have f2 := k2 0 (by rw [ZL.out.2]; omega)
  rw [Nat.add_zero] at f1 f2
  have L3 : Aside (∀ i, i < lo.length → w3.cell? ⟨b1, o1 + i, none⟩ = some (.int .i64 (nth lo i))) := k1
  have H3 : Aside (∀ i, i < up.length → w3.cell? ⟨b2, o2 + i, none⟩ = some (.int .i64 (nth up i))) := k2
  clear k1 k2 i1 i2 P3 Q3
  obtain ⟨x, hx⟩ : ∃ x, nth lo 0 = x := ⟨_, rfl⟩
  obtain ⟨y, hy⟩ : ∃ y, nth up 0 = y := ⟨_, rfl⟩
  rw [hx] at f1
  rw [hy] at f2
  rw [hx, hy] at hbx0
  obtain ⟨x0, xy, ys⟩ := hbx0
  have y9 : y ≤ 10000 := by omega
  have HXY : Aside (nth lo 0 = x ∧ nth up 0 = y) := ⟨hx, hy⟩
  clear hx hy ys hs0
  have hmid := mid_place xy hat.1
  obtain ⟨d, hd⟩ : ∃ d, y - x + 1 = d := ⟨_, rfl⟩
  rw [hd] at hmid
  have d1 : 1 ≤ d := by omega
  have d9 : d ≤ 10001 := by omega
  have dn0 : ¬ d = 0 := by omega
  go_wp2_with fail
  go_quiet (fail)
  obtain ⟨Kp, hKp⟩ : ∃ Kp, x + at_ % d = Kp := ⟨_, rfl⟩
  rw [hKp] at hmid ⊢
  have HK : Aside (nth lo 0 ≤ Kp ∧ Kp ≤ nth up 0) := ⟨by rw [HXY.out.1]; exact hmid.1, by rw [HXY.out.2]; exact hmid.2⟩
  have hb34 : Below w3.heap.size w3 (w3.drewN nq) := below_drewN (Below.refl _ _) nq
  have B4 : Aside (Below w.heap.size w (w3.drewN nq)) := B3.out.trans (hb34.mono B3.out.size)
  have K4 : Aside (KeysIn .u16 (w3.drewN nq) a3 ks) := K3.out.keep hb34
  have D4 : Aside (DimsIn (w3.drewN nq) (some ⟨gx, 0, none⟩) ds) := D3.out.keep hb34
  have L4 : Aside (Ints (w3.drewN nq) (some ⟨b1, o1, none⟩) lo) := Ints.keep (.inr ⟨b1, o1, rfl, L3.out⟩) hb34
  have H4 : Aside (Ints (w3.drewN nq) (some ⟨b2, o2, none⟩) up) := Ints.keep (.inr ⟨b2, o2, rfl, H3.out⟩) hb34
  clear hmid hKp hb34 B3 K3 D3 L3 H3 f1 f2 x0 xy y9 HXY hd d1 d9 dn0 hat
  generalize w3.drewN nq = w4 at B4 K4 D4 L4 H4 ⊢
  go_wp2_with fail
  go_loopg [15, 16] n3 (fun g1 v vi wr => ∃ (k : Nat) (os : List Rw), vi = .int .i64 k ∧ k ≤ n3 ∧ n3 - k ≤ g1 ∧ os.length ≤ k ∧ Aside (PK w4 (mkRow (fun i => keyL ds (kn ks i).l) (fun _ => ⟨0, 0, 0, 0⟩) n3) (fun _ => true) k os v wr))
  case atStart => exact ⟨0, [], rfl, Nat.zero_le _, Nat.le_refl _, Nat.le_refl _, PK.start w4 _ _⟩
  case round =>
    obtain ⟨j, os, rfl, hjn, hg1, hol, SJ⟩ := hrel
    by_cases hlt3 : j < n3
    · have hlt3z : (j : Int) < (n3 : Int) := by omega
      have hjl : j < ks.length := by rw [EK.out.1]; exact hlt3
      obtain ⟨b, off, ha, hc⟩ := (K4.out.keep SJ.out.bel).get hjl
      subst ha
      obtain ⟨r0, hN⟩ := hc j hjl
      clear hc
      have CI := key_any (some ⟨gx, 0, none⟩) (kn ks j).a n cx (kn ks j).l.length (kn ks j).cap ds (kn ks j).l wr (D4.out.keep SJ.out.bel) HN.out.1 hx4 hN (fun i hi => (HN.out.2 i hi).1)
      have PU : Aside (∀ W W' A cK q c4, Below wr.heap.size wr W → W.ownsRow w4.heap.size 3 1 (.slice A n cK) n (vals (keyL ds (kn ks j).l)) → W'.ownsRow w4.heap.size 47 5 (.slice (some ⟨q, 0, none⟩) (os.length + 1) c4) (os.length + 1) (flatR os ++ [.slice A n cK, .int .i64 0, .int .i64 0, .int .i64 0, .int .i64 0]) → W.grownBy W' u15.ownBlock → PK w4 (mkRow (fun i => keyL ds (kn ks i).l) (fun _ => ⟨0, 0, 0, 0⟩) n3) (fun _ => true) (j + 1) (os ++ [⟨A, cK, keyL ds (kn ks j).l, ⟨0, 0, 0, 0⟩⟩]) (.slice (some ⟨q, 0, none⟩) (os.length + 1) c4) W') := fun W W' A cK q c4 hW hd ho hg => by
        have hl : (keyL ds (kn ks j).l).length = n := by rw [keyL_len, HN.out.1]
        refine (SJ.out.keep hW).push (r := ⟨A, cK, keyL ds (kn ks j).l, ⟨0, 0, 0, 0⟩⟩) (by rw [mkRow_len]; exact hlt3) rfl (by rw [mkRow_nth _ _ hlt3]; rfl) (key_in64 HN.out.1 HN.out.2) ?_ ?_ hg
        · show W.ownsRow w4.heap.size 3 1 (.slice A (keyL ds (kn ks j).l).length cK) (keyL ds (kn ks j).l).length (vals (keyL ds (kn ks j).l))
          rw [hl]; exact hd
        · show W'.ownsRow w4.heap.size 47 5 _ (os.length + 1) (flatR os ++ [.slice A (keyL ds (kn ks j).l).length cK, _, _, _, _])
          rw [hl]; exact ho
      have hown := SJ.out.own
      have hsz := SJ.out.bel.size
      have HNL : Aside ((keyL ds (kn ks j).l).length = n) := by show _ = _; rw [keyL_len, HN.out.1]
      clear hN SJ
      generalize keyL ds (kn ks j).l = kl at CI PU HNL
      generalize (kn ks j).l.length = nl at r0 CI
      generalize (kn ks j).a = ka at r0 CI
      generalize (kn ks j).cap = kc at r0 CI
      go_wp2_with fail
      refine CI.mono ?_
      rintro e w6 ⟨v, rfl, hr3⟩
      obtain ⟨pa, qa, rfl, -, -⟩ := row_len (own_out hr3.1).1 HNL.out
      have O3 : Aside (w6.ownsRow w4.heap.size 3 1 (.slice pa n qa) n (vals kl)) := by
        have h := own_mono hr3.1 hsz
        rw [HNL.out] at h
        exact h
      have hb3 := hr3.2
      have hown3 := own_below hown hb3
      have hsz3 := Nat.le_trans hsz hb3.size
      clear hr3 CI hown r0
      go_wp2_with (first | (at_builtin; refine wpList_append_lies _ rfl (.tmp 57) (.tmp 65) 41 rfl w4.heap.size 47 i0 _ 5 56 Try.underlying41 hi hz0 hz1 hz2 rfl (by decide) _ os.length (flatR os) rfl (hown3.alloc _) ⟨w6.heap.size, 0, none⟩ 1 1 [.slice pa n qa, .int .i64 0, .int .i64 0, .int .i64 0, .int .i64 0] rfl rfl (cells_five_new _ _ _ _ _ _ _) (by intro u hu; simp at hu; rcases hu with rfl | rfl | rfl | rfl | rfl <;> rfl) (by decide) (by unfold maxLen; omega) (by omega) (by simp; omega) _ rfl ?_) | go_in)
      intro g4 cap4 w7 hown4 hgrow hat hglt
      have S4 : Aside (PK w4 (mkRow (fun i => keyL ds (kn ks i).l) (fun _ => ⟨0, 0, 0, 0⟩) n3) (fun _ => true) (j + 1) (os ++ [⟨pa, qa, kl, ⟨0, 0, 0, 0⟩⟩]) (.slice (some ⟨g4, 0, none⟩) (os.length + 1) cap4) w7) :=
        PU.out _ w7 pa qa g4 cap4 (hb3.trans ((Below.refl _ _).alloc (by have := hb3.size; omega) _)) (O3.out.alloc _) hown4 hgrow
      clear PU hown4 hgrow hat hglt hown3 O3 hb3
      go_wp2
      go_roundg (n3 - (j + 1))
      case measure => omega
      case rel => exact ⟨j + 1, _, by go_num, by omega, by omega, by simp; omega, S4⟩
    · have hlt3z : ¬ (j : Int) < (n3 : Int) := by omega
      have hb5 := SJ.out.bel
      obtain ⟨ar, cr, qs, rfl, hQ, hqp, -, -⟩ := SJ.out.out (by rw [mkRow_len]; omega)
      rw [cutR_all] at hqp
      have hql : qs.length = n3 := by
        have := congrArg List.length hqp
        simpa [mkRow_len] using this
      have LQ : Aside ((∀ r ∈ qs, r.k.length ≤ 100000) ∧ qs.length = n3) := ⟨fun r hr => Nat.le_trans (rows_light hqp (m := 4) (fun i hi => by
          rw [mkRow_len] at hi
          rw [mkRow_nth _ _ hi]
          show (keyL ds (kn ks i).l).length ≤ 4
          rw [keyL_len, HN.out.1]; exact hx4) r hr) (by omega), hql⟩
      rw [hql]
      clear SJ hqp hql
      generalize wr = w5 at hb5 hQ ⊢
      have B5 : Aside (Below w.heap.size w w5) := B4.out.trans (hb5.mono B4.out.size)
      have L5 : Aside (Ints w5 (some ⟨b1, o1, none⟩) lo) := L4.out.keep hb5
      have H5 : Aside (Ints w5 (some ⟨b2, o2, none⟩) up) := H4.out.keep hb5
      have V5 : Aside (table.RowsIn w5 ar qs) := hQ
      clear hb5 hQ B4 L4 H4 D4 K4 HN
      have hn1z : (1 : Int) ≤ (n : Int) := by omega
      have hq1z : (n : Int) ≤ (qx1 : Int) := by omega
      have hq2z : (n : Int) ≤ (qx2 : Int) := by omega
      have hq1k : (1 : Int) ≤ (qx1 : Int) := by omega
      have hq2k : (1 : Int) ≤ (qx2 : Int) := by omega
      obtain ⟨e1, he1⟩ : ∃ e, (cutR (wtn lo (Kp :: up.drop 1)) qs).length = e := ⟨_, rfl⟩
      obtain ⟨e2, he2⟩ : ∃ e, (cutR (wtn (Kp :: lo.drop 1) up) qs).length = e := ⟨_, rfl⟩
      have EE : Aside ((cutR (wtn lo (Kp :: up.drop 1)) qs).length = e1 ∧ (cutR (wtn (Kp :: lo.drop 1) up) qs).length = e2 ∧ (cutR (wtn lo up) qs).length = e1 + e2 ∧ e1 ≤ 1000 ∧ e2 ≤ 1000) := ⟨he1, he2, by rw [← he1, ← he2, cut_parts ZL.out.1 ZL.out.2 hx1 HK.out.1 HK.out.2], by have := cut_len (wtn lo (Kp :: up.drop 1)) qs; rw [LQ.out.2] at this; omega, by have := cut_len (wtn (Kp :: lo.drop 1) up) qs; rw [LQ.out.2] at this; omega⟩
      have e1m := EE.out.2.2.2.1
      have e2m := EE.out.2.2.2.2
      have ZD : Aside ((Kp :: up.drop 1).length = n ∧ (Kp :: lo.drop 1).length = n) := ⟨by simp [ZL.out.2]; omega, by simp [ZL.out.1]; omega⟩
      clear he1 he2
      by_cases hn2 : n = 1
      · subst hn2
        by_cases hq1 : qx1 = 1
        · subst hq1
          by_cases hq2 : qx2 = 1
          · subst hq2
            go_wp2_with (first | (at_builtin; refine wpList_append_lies _ rfl (.tmp 67) (.tmp 69) 26 rfl w5.heap.size 3 j0 _ 1 8 Try.underlying26 hj hy0 hy1 hy2 rfl (by decide) _ 0 [] rfl (World.ownsRow_nil _ _ _ _) ⟨w5.heap.size, 0, none⟩ 1 1 [.int .i64 Kp] rfl rfl (cell_one_new _ _ _) (by intro u hu; simp at hu; subst hu; rfl) (by decide) (by unfold maxLen; omega) (by omega) (by simp) _ rfl ?_) | go_in)
            intro g6 cc6 w6 hown6 hgrow hat hglt
            have hb6 : Below w5.heap.size w5 w6 := ((Below.refl _ _).alloc (Nat.le_refl _) _).grown hgrow (by simp) fun q hq => by cases hq
            clear hgrow hat hglt
            have B6 : Aside (Below w.heap.size w w6) := B5.out.trans (hb6.mono B5.out.size)
            have L6 : Aside (Ints w6 (some ⟨b1, o1, none⟩) lo) := L5.out.keep hb6
            have H6 : Aside (Ints w6 (some ⟨b2, o2, none⟩) up) := H5.out.keep hb6
            have V6 : Aside (table.RowsIn w6 ar qs) := V5.out.keep hb6
            clear B5 L5 H5 V5
            have hnil : up.drop 1 = [] := List.eq_nil_of_length_eq_zero (by simp [ZL.out.2])
            have P6 : Aside (Ints w6 (some ⟨g6, 0, none⟩) (Kp :: up.drop 1)) := by
              have h : w6.ownsRow w5.heap.size 3 1 (.slice (some ⟨g6, 0, none⟩) 1 cc6) 1 (vals [Kp]) := hown6
              obtain ⟨a', c', e', hI', -⟩ := (own_out h).1
              simp only [Value.slice.injEq] at e'
              rw [hnil, e'.1]; exact hI'
            clear hnil
            go_wp2_with (first | (at_builtin; refine wpList_append_zero rfl (.tmp 71) (.tmp 73) 26 rfl w5.heap.size 3 j0 1 Try.underlying26 hj _ 1 [.int .i64 Kp] rfl hown6 _ _ rfl ?_) | (at_builtin; refine wpList_append_lies _ rfl (.tmp 75) (.tmp 77) 26 rfl w6.heap.size 3 j0 _ 1 8 Try.underlying26 hj hy0 hy1 hy2 rfl (by decide) _ 0 [] rfl (World.ownsRow_nil _ _ _ _) ⟨w6.heap.size, 0, none⟩ 1 1 [.int .i64 Kp] rfl rfl (cell_one_new _ _ _) (by intro u hu; simp at hu; subst hu; rfl) (by decide) (by unfold maxLen; omega) (by omega) (by simp) _ rfl ?_) | go_in)
            intro g7 cc7 w7 hown7 hgrow hat hglt
            have hb7 : Below w6.heap.size w6 w7 := ((Below.refl _ _).alloc (Nat.le_refl _) _).grown hgrow (by simp) fun q hq => by cases hq
            clear hgrow hat hglt
            have B7 : Aside (Below w.heap.size w w7) := B6.out.trans (hb7.mono B6.out.size)
            have L7 : Aside (Ints w7 (some ⟨b1, o1, none⟩) lo) := L6.out.keep hb7
            have H7 : Aside (Ints w7 (some ⟨b2, o2, none⟩) up) := H6.out.keep hb7
            have V7 : Aside (table.RowsIn w7 ar qs) := V6.out.keep hb7
            have P7 : Aside (Ints w7 (some ⟨g6, 0, none⟩) (Kp :: up.drop 1)) := P6.out.keep hb7
            clear B6 L6 H6 V6 P6
            clear hown6
            have hnil : lo.drop 1 = [] := List.eq_nil_of_length_eq_zero (by simp [ZL.out.1])
            have Q7 : Aside (Ints w7 (some ⟨g7, 0, none⟩) (Kp :: lo.drop 1)) := by
              have h : w7.ownsRow w6.heap.size 3 1 (.slice (some ⟨g7, 0, none⟩) 1 cc7) 1 (vals [Kp]) := hown7
              obtain ⟨a', c', e', hI', -⟩ := (own_out h).1
              simp only [Value.slice.injEq] at e'
              rw [hnil, e'.1]; exact hI'
            clear hnil
            go_wp2_with (first | (at_builtin; refine wpList_append_zero rfl (.tmp 79) (.tmp 81) 26 rfl w6.heap.size 3 j0 1 Try.underlying26 hj _ 1 [.int .i64 Kp] rfl hown7 _ _ rfl ?_))
            clear hown7
            go_wp2_with fail
            refine (cut_out ar _ _ n3 cr 1 1 1 cc6 e1 qs lo (Kp :: up.drop 1) w7 V7.out LQ.out.2 (by omega) LQ.out.1 L7.out ZL.out.1 P7.out ZD.out.1 EE.out.1).mono ?_
            rintro e w8 ⟨v, rfl, hres⟩
            obtain ⟨⟨x1, x2, x3, rfl, -, -, -⟩, hbx⟩ := hres
            have hb8 : Below w7.heap.size w7 w8 := hbx
            have B8 : Aside (Below w.heap.size w w8) := B7.out.trans (hb8.mono B7.out.size)
            have L8 : Aside (Ints w8 (some ⟨b1, o1, none⟩) lo) := L7.out.keep hb8
            have H8 : Aside (Ints w8 (some ⟨b2, o2, none⟩) up) := H7.out.keep hb8
            have V8 : Aside (table.RowsIn w8 ar qs) := V7.out.keep hb8
            have P8 : Aside (Ints w8 (some ⟨g6, 0, none⟩) (Kp :: up.drop 1)) := P7.out.keep hb8
            have Q8 : Aside (Ints w8 (some ⟨g7, 0, none⟩) (Kp :: lo.drop 1)) := Q7.out.keep hb8
            clear hb8 B7 L7 H7 V7 P7 Q7
            go_wp2_with fail
            refine (cut_out ar _ _ n3 cr 1 1 cc7 1 e2 qs (Kp :: lo.drop 1) up w8 V8.out LQ.out.2 (by omega) LQ.out.1 Q8.out ZD.out.2 H8.out ZL.out.2 EE.out.2.1).mono ?_
            rintro e w9 ⟨v, rfl, hres⟩
            obtain ⟨⟨y1, y2, y3, rfl, -, -, -⟩, hbx⟩ := hres
            have hb9 : Below w8.heap.size w8 w9 := hbx
            have B9 : Aside (Below w.heap.size w w9) := B8.out.trans (hb9.mono B8.out.size)
            have L9 : Aside (Ints w9 (some ⟨b1, o1, none⟩) lo) := L8.out.keep hb9
            have H9 : Aside (Ints w9 (some ⟨b2, o2, none⟩) up) := H8.out.keep hb9
            have V9 : Aside (table.RowsIn w9 ar qs) := V8.out.keep hb9
            have P9 : Aside (Ints w9 (some ⟨g6, 0, none⟩) (Kp :: up.drop 1)) := P8.out.keep hb9
            have Q9 : Aside (Ints w9 (some ⟨g7, 0, none⟩) (Kp :: lo.drop 1)) := Q8.out.keep hb9
            clear hb9 B8 L8 H8 V8 P8 Q8
            go_wp2_with fail
            refine (cut_out ar _ _ n3 cr 1 1 1 1 (e1 + e2) qs lo up w9 V9.out LQ.out.2 (by omega) LQ.out.1 L9.out ZL.out.1 H9.out ZL.out.2 EE.out.2.2.1).mono ?_
            rintro e w10 ⟨v, rfl, hres⟩
            obtain ⟨⟨z1, z2, z3, rfl, -, -, -⟩, hbx⟩ := hres
            have hb10 : Below w9.heap.size w9 w10 := hbx
            have B10 : Aside (Below w.heap.size w w10) := B9.out.trans (hb10.mono B9.out.size)
            have L10 : Aside (Ints w10 (some ⟨b1, o1, none⟩) lo) := L9.out.keep hb10
            have H10 : Aside (Ints w10 (some ⟨b2, o2, none⟩) up) := H9.out.keep hb10
            have V10 : Aside (table.RowsIn w10 ar qs) := V9.out.keep hb10
            have P10 : Aside (Ints w10 (some ⟨g6, 0, none⟩) (Kp :: up.drop 1)) := P9.out.keep hb10
            have Q10 : Aside (Ints w10 (some ⟨g7, 0, none⟩) (Kp :: lo.drop 1)) := Q9.out.keep hb10
            clear hb10 B9 L9 H9 V9 P9 Q9
            go_wp2
            go_ret
            exact ⟨ret_bool (by simp), B10.out⟩
          · skip
            go_wp2_with (first | (at_builtin; refine wpList_append_lies _ rfl (.tmp 67) (.tmp 69) 26 rfl w5.heap.size 3 j0 _ 1 8 Try.underlying26 hj hy0 hy1 hy2 rfl (by decide) _ 0 [] rfl (World.ownsRow_nil _ _ _ _) ⟨w5.heap.size, 0, none⟩ 1 1 [.int .i64 Kp] rfl rfl (cell_one_new _ _ _) (by intro u hu; simp at hu; subst hu; rfl) (by decide) (by unfold maxLen; omega) (by omega) (by simp) _ rfl ?_) | go_in)
            intro g6 cc6 w6 hown6 hgrow hat hglt
            have hb6 : Below w5.heap.size w5 w6 := ((Below.refl _ _).alloc (Nat.le_refl _) _).grown hgrow (by simp) fun q hq => by cases hq
            clear hgrow hat hglt
            have B6 : Aside (Below w.heap.size w w6) := B5.out.trans (hb6.mono B5.out.size)
            have L6 : Aside (Ints w6 (some ⟨b1, o1, none⟩) lo) := L5.out.keep hb6
            have H6 : Aside (Ints w6 (some ⟨b2, o2, none⟩) up) := H5.out.keep hb6
            have V6 : Aside (table.RowsIn w6 ar qs) := V5.out.keep hb6
            clear B5 L5 H5 V5
            have hnil : up.drop 1 = [] := List.eq_nil_of_length_eq_zero (by simp [ZL.out.2])
            have P6 : Aside (Ints w6 (some ⟨g6, 0, none⟩) (Kp :: up.drop 1)) := by
              have h : w6.ownsRow w5.heap.size 3 1 (.slice (some ⟨g6, 0, none⟩) 1 cc6) 1 (vals [Kp]) := hown6
              obtain ⟨a', c', e', hI', -⟩ := (own_out h).1
              simp only [Value.slice.injEq] at e'
              rw [hnil, e'.1]; exact hI'
            clear hnil
            go_wp2_with (first | (at_builtin; refine wpList_append_zero rfl (.tmp 71) (.tmp 73) 26 rfl w5.heap.size 3 j0 1 Try.underlying26 hj _ 1 [.int .i64 Kp] rfl hown6 _ _ rfl ?_) | (at_builtin; refine wpList_append_lies _ rfl (.tmp 75) (.tmp 77) 26 rfl w6.heap.size 3 j0 _ 1 8 Try.underlying26 hj hy0 hy1 hy2 rfl (by decide) _ 0 [] rfl (World.ownsRow_nil _ _ _ _) ⟨w6.heap.size, 0, none⟩ 1 1 [.int .i64 Kp] rfl rfl (cell_one_new _ _ _) (by intro u hu; simp at hu; subst hu; rfl) (by decide) (by unfold maxLen; omega) (by omega) (by simp) _ rfl ?_) | go_in)
            intro g7 cc7 w7 hown7 hgrow hat hglt
            have hb7 : Below w6.heap.size w6 w7 := ((Below.refl _ _).alloc (Nat.le_refl _) _).grown hgrow (by simp) fun q hq => by cases hq
            clear hgrow hat hglt
            have B7 : Aside (Below w.heap.size w w7) := B6.out.trans (hb7.mono B6.out.size)
            have L7 : Aside (Ints w7 (some ⟨b1, o1, none⟩) lo) := L6.out.keep hb7
            have H7 : Aside (Ints w7 (some ⟨b2, o2, none⟩) up) := H6.out.keep hb7
            have V7 : Aside (table.RowsIn w7 ar qs) := V6.out.keep hb7
            have P7 : Aside (Ints w7 (some ⟨g6, 0, none⟩) (Kp :: up.drop 1)) := P6.out.keep hb7
            clear B6 L6 H6 V6 P6
            clear hown6
            have hnil : lo.drop 1 = [] := List.eq_nil_of_length_eq_zero (by simp [ZL.out.1])
            have Q7 : Aside (Ints w7 (some ⟨g7, 0, none⟩) (Kp :: lo.drop 1)) := by
              have h : w7.ownsRow w6.heap.size 3 1 (.slice (some ⟨g7, 0, none⟩) 1 cc7) 1 (vals [Kp]) := hown7
              obtain ⟨a', c', e', hI', -⟩ := (own_out h).1
              simp only [Value.slice.injEq] at e'
              rw [hnil, e'.1]; exact hI'
            clear hnil
            go_wp2_with (first | (at_builtin; refine wpList_append_zero rfl (.tmp 79) (.tmp 81) 26 rfl w6.heap.size 3 j0 1 Try.underlying26 hj _ 1 [.int .i64 Kp] rfl hown7 _ _ rfl ?_))
            clear hown7
            go_wp2_with fail
            refine (cut_out ar _ _ n3 cr 1 1 1 cc6 e1 qs lo (Kp :: up.drop 1) w7 V7.out LQ.out.2 (by omega) LQ.out.1 L7.out ZL.out.1 P7.out ZD.out.1 EE.out.1).mono ?_
            rintro e w8 ⟨v, rfl, hres⟩
            obtain ⟨⟨x1, x2, x3, rfl, -, -, -⟩, hbx⟩ := hres
            have hb8 : Below w7.heap.size w7 w8 := hbx
            have B8 : Aside (Below w.heap.size w w8) := B7.out.trans (hb8.mono B7.out.size)
            have L8 : Aside (Ints w8 (some ⟨b1, o1, none⟩) lo) := L7.out.keep hb8
            have H8 : Aside (Ints w8 (some ⟨b2, o2, none⟩) up) := H7.out.keep hb8
            have V8 : Aside (table.RowsIn w8 ar qs) := V7.out.keep hb8
            have P8 : Aside (Ints w8 (some ⟨g6, 0, none⟩) (Kp :: up.drop 1)) := P7.out.keep hb8
            have Q8 : Aside (Ints w8 (some ⟨g7, 0, none⟩) (Kp :: lo.drop 1)) := Q7.out.keep hb8
            clear hb8 B7 L7 H7 V7 P7 Q7
            go_wp2_with fail
            refine (cut_out ar _ _ n3 cr 1 1 cc7 qx2 e2 qs (Kp :: lo.drop 1) up w8 V8.out LQ.out.2 (by omega) LQ.out.1 Q8.out ZD.out.2 H8.out ZL.out.2 EE.out.2.1).mono ?_
            rintro e w9 ⟨v, rfl, hres⟩
            obtain ⟨⟨y1, y2, y3, rfl, -, -, -⟩, hbx⟩ := hres
            have hb9 : Below w8.heap.size w8 w9 := hbx
            have B9 : Aside (Below w.heap.size w w9) := B8.out.trans (hb9.mono B8.out.size)
            have L9 : Aside (Ints w9 (some ⟨b1, o1, none⟩) lo) := L8.out.keep hb9
            have H9 : Aside (Ints w9 (some ⟨b2, o2, none⟩) up) := H8.out.keep hb9
            have V9 : Aside (table.RowsIn w9 ar qs) := V8.out.keep hb9
            have P9 : Aside (Ints w9 (some ⟨g6, 0, none⟩) (Kp :: up.drop 1)) := P8.out.keep hb9
            have Q9 : Aside (Ints w9 (some ⟨g7, 0, none⟩) (Kp :: lo.drop 1)) := Q8.out.keep hb9
            clear hb9 B8 L8 H8 V8 P8 Q8
            go_wp2_with fail
            refine (cut_out ar _ _ n3 cr 1 1 1 qx2 (e1 + e2) qs lo up w9 V9.out LQ.out.2 (by omega) LQ.out.1 L9.out ZL.out.1 H9.out ZL.out.2 EE.out.2.2.1).mono ?_
            rintro e w10 ⟨v, rfl, hres⟩
            obtain ⟨⟨z1, z2, z3, rfl, -, -, -⟩, hbx⟩ := hres
            have hb10 : Below w9.heap.size w9 w10 := hbx
            have B10 : Aside (Below w.heap.size w w10) := B9.out.trans (hb10.mono B9.out.size)
            have L10 : Aside (Ints w10 (some ⟨b1, o1, none⟩) lo) := L9.out.keep hb10
            have H10 : Aside (Ints w10 (some ⟨b2, o2, none⟩) up) := H9.out.keep hb10
            have V10 : Aside (table.RowsIn w10 ar qs) := V9.out.keep hb10
            have P10 : Aside (Ints w10 (some ⟨g6, 0, none⟩) (Kp :: up.drop 1)) := P9.out.keep hb10
            have Q10 : Aside (Ints w10 (some ⟨g7, 0, none⟩) (Kp :: lo.drop 1)) := Q9.out.keep hb10
            clear hb10 B9 L9 H9 V9 P9 Q9
            go_wp2
            go_ret
            exact ⟨ret_bool (by simp), B10.out⟩
        · by_cases hq2 : qx2 = 1
          · subst hq2
            go_wp2_with (first | (at_builtin; refine wpList_append_lies _ rfl (.tmp 67) (.tmp 69) 26 rfl w5.heap.size 3 j0 _ 1 8 Try.underlying26 hj hy0 hy1 hy2 rfl (by decide) _ 0 [] rfl (World.ownsRow_nil _ _ _ _) ⟨w5.heap.size, 0, none⟩ 1 1 [.int .i64 Kp] rfl rfl (cell_one_new _ _ _) (by intro u hu; simp at hu; subst hu; rfl) (by decide) (by unfold maxLen; omega) (by omega) (by simp) _ rfl ?_) | go_in)
            intro g6 cc6 w6 hown6 hgrow hat hglt
            have hb6 : Below w5.heap.size w5 w6 := ((Below.refl _ _).alloc (Nat.le_refl _) _).grown hgrow (by simp) fun q hq => by cases hq
            clear hgrow hat hglt
            have B6 : Aside (Below w.heap.size w w6) := B5.out.trans (hb6.mono B5.out.size)
            have L6 : Aside (Ints w6 (some ⟨b1, o1, none⟩) lo) := L5.out.keep hb6
            have H6 : Aside (Ints w6 (some ⟨b2, o2, none⟩) up) := H5.out.keep hb6
            have V6 : Aside (table.RowsIn w6 ar qs) := V5.out.keep hb6
            clear B5 L5 H5 V5
            have hnil : up.drop 1 = [] := List.eq_nil_of_length_eq_zero (by simp [ZL.out.2])
            have P6 : Aside (Ints w6 (some ⟨g6, 0, none⟩) (Kp :: up.drop 1)) := by
              have h : w6.ownsRow w5.heap.size 3 1 (.slice (some ⟨g6, 0, none⟩) 1 cc6) 1 (vals [Kp]) := hown6
              obtain ⟨a', c', e', hI', -⟩ := (own_out h).1
              simp only [Value.slice.injEq] at e'
              rw [hnil, e'.1]; exact hI'
            clear hnil
            go_wp2_with (first | (at_builtin; refine wpList_append_zero rfl (.tmp 71) (.tmp 73) 26 rfl w5.heap.size 3 j0 1 Try.underlying26 hj _ 1 [.int .i64 Kp] rfl hown6 _ _ rfl ?_) | (at_builtin; refine wpList_append_lies _ rfl (.tmp 75) (.tmp 77) 26 rfl w6.heap.size 3 j0 _ 1 8 Try.underlying26 hj hy0 hy1 hy2 rfl (by decide) _ 0 [] rfl (World.ownsRow_nil _ _ _ _) ⟨w6.heap.size, 0, none⟩ 1 1 [.int .i64 Kp] rfl rfl (cell_one_new _ _ _) (by intro u hu; simp at hu; subst hu; rfl) (by decide) (by unfold maxLen; omega) (by omega) (by simp) _ rfl ?_) | go_in)
            intro g7 cc7 w7 hown7 hgrow hat hglt
            have hb7 : Below w6.heap.size w6 w7 := ((Below.refl _ _).alloc (Nat.le_refl _) _).grown hgrow (by simp) fun q hq => by cases hq
            clear hgrow hat hglt
            have B7 : Aside (Below w.heap.size w w7) := B6.out.trans (hb7.mono B6.out.size)
            have L7 : Aside (Ints w7 (some ⟨b1, o1, none⟩) lo) := L6.out.keep hb7
            have H7 : Aside (Ints w7 (some ⟨b2, o2, none⟩) up) := H6.out.keep hb7
            have V7 : Aside (table.RowsIn w7 ar qs) := V6.out.keep hb7
            have P7 : Aside (Ints w7 (some ⟨g6, 0, none⟩) (Kp :: up.drop 1)) := P6.out.keep hb7
            clear B6 L6 H6 V6 P6
            clear hown6
            have hnil : lo.drop 1 = [] := List.eq_nil_of_length_eq_zero (by simp [ZL.out.1])
            have Q7 : Aside (Ints w7 (some ⟨g7, 0, none⟩) (Kp :: lo.drop 1)) := by
              have h : w7.ownsRow w6.heap.size 3 1 (.slice (some ⟨g7, 0, none⟩) 1 cc7) 1 (vals [Kp]) := hown7
              obtain ⟨a', c', e', hI', -⟩ := (own_out h).1
              simp only [Value.slice.injEq] at e'
              rw [hnil, e'.1]; exact hI'
            clear hnil
            go_wp2_with (first | (at_builtin; refine wpList_append_zero rfl (.tmp 79) (.tmp 81) 26 rfl w6.heap.size 3 j0 1 Try.underlying26 hj _ 1 [.int .i64 Kp] rfl hown7 _ _ rfl ?_))
            clear hown7
            go_wp2_with fail
            refine (cut_out ar _ _ n3 cr 1 1 qx1 cc6 e1 qs lo (Kp :: up.drop 1) w7 V7.out LQ.out.2 (by omega) LQ.out.1 L7.out ZL.out.1 P7.out ZD.out.1 EE.out.1).mono ?_
            rintro e w8 ⟨v, rfl, hres⟩
            obtain ⟨⟨x1, x2, x3, rfl, -, -, -⟩, hbx⟩ := hres
            have hb8 : Below w7.heap.size w7 w8 := hbx
            have B8 : Aside (Below w.heap.size w w8) := B7.out.trans (hb8.mono B7.out.size)
            have L8 : Aside (Ints w8 (some ⟨b1, o1, none⟩) lo) := L7.out.keep hb8
            have H8 : Aside (Ints w8 (some ⟨b2, o2, none⟩) up) := H7.out.keep hb8
            have V8 : Aside (table.RowsIn w8 ar qs) := V7.out.keep hb8
            have P8 : Aside (Ints w8 (some ⟨g6, 0, none⟩) (Kp :: up.drop 1)) := P7.out.keep hb8
            have Q8 : Aside (Ints w8 (some ⟨g7, 0, none⟩) (Kp :: lo.drop 1)) := Q7.out.keep hb8
            clear hb8 B7 L7 H7 V7 P7 Q7
            go_wp2_with fail
            refine (cut_out ar _ _ n3 cr 1 1 cc7 1 e2 qs (Kp :: lo.drop 1) up w8 V8.out LQ.out.2 (by omega) LQ.out.1 Q8.out ZD.out.2 H8.out ZL.out.2 EE.out.2.1).mono ?_
            rintro e w9 ⟨v, rfl, hres⟩
            obtain ⟨⟨y1, y2, y3, rfl, -, -, -⟩, hbx⟩ := hres
            have hb9 : Below w8.heap.size w8 w9 := hbx
            have B9 : Aside (Below w.heap.size w w9) := B8.out.trans (hb9.mono B8.out.size)
            have L9 : Aside (Ints w9 (some ⟨b1, o1, none⟩) lo) := L8.out.keep hb9
            have H9 : Aside (Ints w9 (some ⟨b2, o2, none⟩) up) := H8.out.keep hb9
            have V9 : Aside (table.RowsIn w9 ar qs) := V8.out.keep hb9
            have P9 : Aside (Ints w9 (some ⟨g6, 0, none⟩) (Kp :: up.drop 1)) := P8.out.keep hb9
            have Q9 : Aside (Ints w9 (some ⟨g7, 0, none⟩) (Kp :: lo.drop 1)) := Q8.out.keep hb9
            clear hb9 B8 L8 H8 V8 P8 Q8
            go_wp2_with fail
            refine (cut_out ar _ _ n3 cr 1 1 qx1 1 (e1 + e2) qs lo up w9 V9.out LQ.out.2 (by omega) LQ.out.1 L9.out ZL.out.1 H9.out ZL.out.2 EE.out.2.2.1).mono ?_
            rintro e w10 ⟨v, rfl, hres⟩
            obtain ⟨⟨z1, z2, z3, rfl, -, -, -⟩, hbx⟩ := hres
            have hb10 : Below w9.heap.size w9 w10 := hbx
            have B10 : Aside (Below w.heap.size w w10) := B9.out.trans (hb10.mono B9.out.size)
            have L10 : Aside (Ints w10 (some ⟨b1, o1, none⟩) lo) := L9.out.keep hb10
            have H10 : Aside (Ints w10 (some ⟨b2, o2, none⟩) up) := H9.out.keep hb10
            have V10 : Aside (table.RowsIn w10 ar qs) := V9.out.keep hb10
            have P10 : Aside (Ints w10 (some ⟨g6, 0, none⟩) (Kp :: up.drop 1)) := P9.out.keep hb10
            have Q10 : Aside (Ints w10 (some ⟨g7, 0, none⟩) (Kp :: lo.drop 1)) := Q9.out.keep hb10
            clear hb10 B9 L9 H9 V9 P9 Q9
            go_wp2
            go_ret
            exact ⟨ret_bool (by simp), B10.out⟩
          · skip
            go_wp2_with (first | (at_builtin; refine wpList_append_lies _ rfl (.tmp 67) (.tmp 69) 26 rfl w5.heap.size 3 j0 _ 1 8 Try.underlying26 hj hy0 hy1 hy2 rfl (by decide) _ 0 [] rfl (World.ownsRow_nil _ _ _ _) ⟨w5.heap.size, 0, none⟩ 1 1 [.int .i64 Kp] rfl rfl (cell_one_new _ _ _) (by intro u hu; simp at hu; subst hu; rfl) (by decide) (by unfold maxLen; omega) (by omega) (by simp) _ rfl ?_) | go_in)
            intro g6 cc6 w6 hown6 hgrow hat hglt
            have hb6 : Below w5.heap.size w5 w6 := ((Below.refl _ _).alloc (Nat.le_refl _) _).grown hgrow (by simp) fun q hq => by cases hq
            clear hgrow hat hglt
            have B6 : Aside (Below w.heap.size w w6) := B5.out.trans (hb6.mono B5.out.size)
            have L6 : Aside (Ints w6 (some ⟨b1, o1, none⟩) lo) := L5.out.keep hb6
            have H6 : Aside (Ints w6 (some ⟨b2, o2, none⟩) up) := H5.out.keep hb6
            have V6 : Aside (table.RowsIn w6 ar qs) := V5.out.keep hb6
            clear B5 L5 H5 V5
            have hnil : up.drop 1 = [] := List.eq_nil_of_length_eq_zero (by simp [ZL.out.2])
            have P6 : Aside (Ints w6 (some ⟨g6, 0, none⟩) (Kp :: up.drop 1)) := by
              have h : w6.ownsRow w5.heap.size 3 1 (.slice (some ⟨g6, 0, none⟩) 1 cc6) 1 (vals [Kp]) := hown6
              obtain ⟨a', c', e', hI', -⟩ := (own_out h).1
              simp only [Value.slice.injEq] at e'
              rw [hnil, e'.1]; exact hI'
            clear hnil
            go_wp2_with (first | (at_builtin; refine wpList_append_zero rfl (.tmp 71) (.tmp 73) 26 rfl w5.heap.size 3 j0 1 Try.underlying26 hj _ 1 [.int .i64 Kp] rfl hown6 _ _ rfl ?_) | (at_builtin; refine wpList_append_lies _ rfl (.tmp 75) (.tmp 77) 26 rfl w6.heap.size 3 j0 _ 1 8 Try.underlying26 hj hy0 hy1 hy2 rfl (by decide) _ 0 [] rfl (World.ownsRow_nil _ _ _ _) ⟨w6.heap.size, 0, none⟩ 1 1 [.int .i64 Kp] rfl rfl (cell_one_new _ _ _) (by intro u hu; simp at hu; subst hu; rfl) (by decide) (by unfold maxLen; omega) (by omega) (by simp) _ rfl ?_) | go_in)
            intro g7 cc7 w7 hown7 hgrow hat hglt
            have hb7 : Below w6.heap.size w6 w7 := ((Below.refl _ _).alloc (Nat.le_refl _) _).grown hgrow (by simp) fun q hq => by cases hq
            clear hgrow hat hglt
            have B7 : Aside (Below w.heap.size w w7) := B6.out.trans (hb7.mono B6.out.size)
            have L7 : Aside (Ints w7 (some ⟨b1, o1, none⟩) lo) := L6.out.keep hb7
            have H7 : Aside (Ints w7 (some ⟨b2, o2, none⟩) up) := H6.out.keep hb7
            have V7 : Aside (table.RowsIn w7 ar qs) := V6.out.keep hb7
            have P7 : Aside (Ints w7 (some ⟨g6, 0, none⟩) (Kp :: up.drop 1)) := P6.out.keep hb7
            clear B6 L6 H6 V6 P6
            clear hown6
            have hnil : lo.drop 1 = [] := List.eq_nil_of_length_eq_zero (by simp [ZL.out.1])
            have Q7 : Aside (Ints w7 (some ⟨g7, 0, none⟩) (Kp :: lo.drop 1)) := by
              have h : w7.ownsRow w6.heap.size 3 1 (.slice (some ⟨g7, 0, none⟩) 1 cc7) 1 (vals [Kp]) := hown7
              obtain ⟨a', c', e', hI', -⟩ := (own_out h).1
              simp only [Value.slice.injEq] at e'
              rw [hnil, e'.1]; exact hI'
            clear hnil
            go_wp2_with (first | (at_builtin; refine wpList_append_zero rfl (.tmp 79) (.tmp 81) 26 rfl w6.heap.size 3 j0 1 Try.underlying26 hj _ 1 [.int .i64 Kp] rfl hown7 _ _ rfl ?_))
            clear hown7
            go_wp2_with fail
            refine (cut_out ar _ _ n3 cr 1 1 qx1 cc6 e1 qs lo (Kp :: up.drop 1) w7 V7.out LQ.out.2 (by omega) LQ.out.1 L7.out ZL.out.1 P7.out ZD.out.1 EE.out.1).mono ?_
            rintro e w8 ⟨v, rfl, hres⟩
            obtain ⟨⟨x1, x2, x3, rfl, -, -, -⟩, hbx⟩ := hres
            have hb8 : Below w7.heap.size w7 w8 := hbx
            have B8 : Aside (Below w.heap.size w w8) := B7.out.trans (hb8.mono B7.out.size)
            have L8 : Aside (Ints w8 (some ⟨b1, o1, none⟩) lo) := L7.out.keep hb8
            have H8 : Aside (Ints w8 (some ⟨b2, o2, none⟩) up) := H7.out.keep hb8
            have V8 : Aside (table.RowsIn w8 ar qs) := V7.out.keep hb8
            have P8 : Aside (Ints w8 (some ⟨g6, 0, none⟩) (Kp :: up.drop 1)) := P7.out.keep hb8
            have Q8 : Aside (Ints w8 (some ⟨g7, 0, none⟩) (Kp :: lo.drop 1)) := Q7.out.keep hb8
            clear hb8 B7 L7 H7 V7 P7 Q7
            go_wp2_with fail
            refine (cut_out ar _ _ n3 cr 1 1 cc7 qx2 e2 qs (Kp :: lo.drop 1) up w8 V8.out LQ.out.2 (by omega) LQ.out.1 Q8.out ZD.out.2 H8.out ZL.out.2 EE.out.2.1).mono ?_
            rintro e w9 ⟨v, rfl, hres⟩
            obtain ⟨⟨y1, y2, y3, rfl, -, -, -⟩, hbx⟩ := hres
            have hb9 : Below w8.heap.size w8 w9 := hbx
            have B9 : Aside (Below w.heap.size w w9) := B8.out.trans (hb9.mono B8.out.size)
            have L9 : Aside (Ints w9 (some ⟨b1, o1, none⟩) lo) := L8.out.keep hb9
            have H9 : Aside (Ints w9 (some ⟨b2, o2, none⟩) up) := H8.out.keep hb9
            have V9 : Aside (table.RowsIn w9 ar qs) := V8.out.keep hb9
            have P9 : Aside (Ints w9 (some ⟨g6, 0, none⟩) (Kp :: up.drop 1)) := P8.out.keep hb9
            have Q9 : Aside (Ints w9 (some ⟨g7, 0, none⟩) (Kp :: lo.drop 1)) := Q8.out.keep hb9
            clear hb9 B8 L8 H8 V8 P8 Q8
            go_wp2_with fail
            refine (cut_out ar _ _ n3 cr 1 1 qx1 qx2 (e1 + e2) qs lo up w9 V9.out LQ.out.2 (by omega) LQ.out.1 L9.out ZL.out.1 H9.out ZL.out.2 EE.out.2.2.1).mono ?_
            rintro e w10 ⟨v, rfl, hres⟩
            obtain ⟨⟨z1, z2, z3, rfl, -, -, -⟩, hbx⟩ := hres
            have hb10 : Below w9.heap.size w9 w10 := hbx
            have B10 : Aside (Below w.heap.size w w10) := B9.out.trans (hb10.mono B9.out.size)
            have L10 : Aside (Ints w10 (some ⟨b1, o1, none⟩) lo) := L9.out.keep hb10
            have H10 : Aside (Ints w10 (some ⟨b2, o2, none⟩) up) := H9.out.keep hb10
            have V10 : Aside (table.RowsIn w10 ar qs) := V9.out.keep hb10
            have P10 : Aside (Ints w10 (some ⟨g6, 0, none⟩) (Kp :: up.drop 1)) := P9.out.keep hb10
            have Q10 : Aside (Ints w10 (some ⟨g7, 0, none⟩) (Kp :: lo.drop 1)) := Q9.out.keep hb10
            clear hb10 B9 L9 H9 V9 P9 Q9
            go_wp2
            go_ret
            exact ⟨ret_bool (by simp), B10.out⟩
      · have hq1 : ¬ qx1 = 1 := by omega
        have hq2 : ¬ qx2 = 1 := by omega
        go_wp2_with (first | (at_builtin; refine wpList_append_lies _ rfl (.tmp 67) (.tmp 69) 26 rfl w5.heap.size 3 j0 _ 1 8 Try.underlying26 hj hy0 hy1 hy2 rfl (by decide) _ 0 [] rfl (World.ownsRow_nil _ _ _ _) ⟨w5.heap.size, 0, none⟩ 1 1 [.int .i64 Kp] rfl rfl (cell_one_new _ _ _) (by intro u hu; simp at hu; subst hu; rfl) (by decide) (by unfold maxLen; omega) (by omega) (by simp) _ rfl ?_) | go_in)
        intro g6 cc6 w6 hown6 hgrow hat hglt
        have hb6 : Below w5.heap.size w5 w6 := ((Below.refl _ _).alloc (Nat.le_refl _) _).grown hgrow (by simp) fun q hq => by cases hq
        clear hgrow hat hglt
        have B6 : Aside (Below w.heap.size w w6) := B5.out.trans (hb6.mono B5.out.size)
        have L6 : Aside (Ints w6 (some ⟨b1, o1, none⟩) lo) := L5.out.keep hb6
        have H6 : Aside (Ints w6 (some ⟨b2, o2, none⟩) up) := H5.out.keep hb6
        have V6 : Aside (table.RowsIn w6 ar qs) := V5.out.keep hb6
        have BO5 := B5
        have LO5 := L5
        have HO5 := H5
        have VO5 := V5
        clear B5 L5 H5 V5
        obtain ⟨b', o', hab, hcb⟩ := H6.out.get (k := 0) (by rw [ZL.out.2]; omega)
        simp only [Option.some.injEq, Addr.mk.injEq, and_true] at hab
        obtain ⟨e1', e2'⟩ := hab
        subst e1'
        subst e2'
        have hnews := ints_news (ints_tail hcb)
        have hvl : (vals (up.drop 1)).length = (n - 1) * 1 := by rw [vals_len, List.length_drop, ZL.out.2]; omega
        go_wp2_with (first | (at_builtin; refine wpList_append_lies _ rfl (.tmp 71) (.tmp 73) 26 rfl w5.heap.size 3 j0 _ 1 8 Try.underlying26 hj hy0 hy1 hy2 rfl (by decide) _ 1 [.int .i64 Kp] rfl hown6 ⟨b2, o2 + 1, none⟩ (n - 1) (qx2 - 1) (vals (up.drop 1)) rfl hvl hnews (vals_one _) (by omega) (by unfold maxLen; omega) (by omega) (by have := hb6.size; omega) _ rfl ?_) | go_in)
        intro g7 cc7 w7 hown7 hgrow hat hglt
        have hb7 : Below w5.heap.size w6 w7 := (Below.refl _ _).grown hgrow (by have := hb6.size; omega) fun q hq => (hown6.lt q hq).1
        clear hgrow hat hglt hnews hvl hcb
        have hbb7 : Below w5.heap.size w5 w7 := hb6.trans hb7
        have B7 : Aside (Below w.heap.size w w7) := BO5.out.trans (hbb7.mono BO5.out.size)
        have L7 : Aside (Ints w7 (some ⟨b1, o1, none⟩) lo) := LO5.out.keep hbb7
        have H7 : Aside (Ints w7 (some ⟨b2, o2, none⟩) up) := HO5.out.keep hbb7
        have V7 : Aside (table.RowsIn w7 ar qs) := VO5.out.keep hbb7
        clear B6 BO5 L6 LO5 H6 HO5 V6 VO5 hb6 hb7 hbb7 hown6
        have P7 : Aside (Ints w7 (some ⟨g7, 0, none⟩) (Kp :: up.drop 1)) := by
          have h : w7.ownsRow w5.heap.size 3 1 (.slice (some ⟨g7, 0, none⟩) n cc7) n (vals (Kp :: up.drop 1)) := by rw [List.drop_one]; exact hown7
          obtain ⟨a', c', e', hI', -⟩ := (own_out h).1
          simp only [Value.slice.injEq] at e'
          rw [e'.1]; exact hI'
        clear hown7
        go_wp2_with (first | (at_builtin; refine wpList_append_lies _ rfl (.tmp 75) (.tmp 77) 26 rfl w7.heap.size 3 j0 _ 1 8 Try.underlying26 hj hy0 hy1 hy2 rfl (by decide) _ 0 [] rfl (World.ownsRow_nil _ _ _ _) ⟨w7.heap.size, 0, none⟩ 1 1 [.int .i64 Kp] rfl rfl (cell_one_new _ _ _) (by intro u hu; simp at hu; subst hu; rfl) (by decide) (by unfold maxLen; omega) (by omega) (by simp) _ rfl ?_) | go_in)
        intro g8 cc8 w8 hown8 hgrow hat hglt
        have hb8 : Below w7.heap.size w7 w8 := ((Below.refl _ _).alloc (Nat.le_refl _) _).grown hgrow (by simp) fun q hq => by cases hq
        clear hgrow hat hglt
        have B8 : Aside (Below w.heap.size w w8) := B7.out.trans (hb8.mono B7.out.size)
        have L8 : Aside (Ints w8 (some ⟨b1, o1, none⟩) lo) := L7.out.keep hb8
        have H8 : Aside (Ints w8 (some ⟨b2, o2, none⟩) up) := H7.out.keep hb8
        have V8 : Aside (table.RowsIn w8 ar qs) := V7.out.keep hb8
        have P8 : Aside (Ints w8 (some ⟨g7, 0, none⟩) (Kp :: up.drop 1)) := P7.out.keep hb8
        have BO7 := B7
        have LO7 := L7
        have HO7 := H7
        have VO7 := V7
        have PO7 := P7
        clear B7 L7 H7 V7 P7
        obtain ⟨b', o', hab, hcb⟩ := L8.out.get (k := 0) (by rw [ZL.out.1]; omega)
        simp only [Option.some.injEq, Addr.mk.injEq, and_true] at hab
        obtain ⟨e1', e2'⟩ := hab
        subst e1'
        subst e2'
        have hnews := ints_news (ints_tail hcb)
        have hvl : (vals (lo.drop 1)).length = (n - 1) * 1 := by rw [vals_len, List.length_drop, ZL.out.1]; omega
        go_wp2_with (first | (at_builtin; refine wpList_append_lies _ rfl (.tmp 79) (.tmp 81) 26 rfl w7.heap.size 3 j0 _ 1 8 Try.underlying26 hj hy0 hy1 hy2 rfl (by decide) _ 1 [.int .i64 Kp] rfl hown8 ⟨b1, o1 + 1, none⟩ (n - 1) (qx1 - 1) (vals (lo.drop 1)) rfl hvl hnews (vals_one _) (by omega) (by unfold maxLen; omega) (by omega) (by have := hb8.size; omega) _ rfl ?_) | go_in)
        intro g9 cc9 w9 hown9 hgrow hat hglt
        have hb9 : Below w7.heap.size w8 w9 := (Below.refl _ _).grown hgrow (by have := hb8.size; omega) fun q hq => (hown8.lt q hq).1
        clear hgrow hat hglt hnews hvl hcb
        have hbb9 : Below w7.heap.size w7 w9 := hb8.trans hb9
        have B9 : Aside (Below w.heap.size w w9) := BO7.out.trans (hbb9.mono BO7.out.size)
        have L9 : Aside (Ints w9 (some ⟨b1, o1, none⟩) lo) := LO7.out.keep hbb9
        have H9 : Aside (Ints w9 (some ⟨b2, o2, none⟩) up) := HO7.out.keep hbb9
        have V9 : Aside (table.RowsIn w9 ar qs) := VO7.out.keep hbb9
        have P9 : Aside (Ints w9 (some ⟨g7, 0, none⟩) (Kp :: up.drop 1)) := PO7.out.keep hbb9
        clear B8 BO7 L8 LO7 H8 HO7 V8 VO7 P8 PO7 hb8 hb9 hbb9 hown8
        have Q9 : Aside (Ints w9 (some ⟨g9, 0, none⟩) (Kp :: lo.drop 1)) := by
          have h : w9.ownsRow w7.heap.size 3 1 (.slice (some ⟨g9, 0, none⟩) n cc9) n (vals (Kp :: lo.drop 1)) := by rw [List.drop_one]; exact hown9
          obtain ⟨a', c', e', hI', -⟩ := (own_out h).1
          simp only [Value.slice.injEq] at e'
          rw [e'.1]; exact hI'
        clear hown9
        go_wp2_with fail
        refine (cut_out ar _ _ n3 cr n n qx1 cc7 e1 qs lo (Kp :: up.drop 1) w9 V9.out LQ.out.2 (by omega) LQ.out.1 L9.out ZL.out.1 P9.out ZD.out.1 EE.out.1).mono ?_
        rintro e w10 ⟨v, rfl, hres⟩
        obtain ⟨⟨x1, x2, x3, rfl, -, -, -⟩, hbx⟩ := hres
        have hb10 : Below w9.heap.size w9 w10 := hbx
        have B10 : Aside (Below w.heap.size w w10) := B9.out.trans (hb10.mono B9.out.size)
        have L10 : Aside (Ints w10 (some ⟨b1, o1, none⟩) lo) := L9.out.keep hb10
        have H10 : Aside (Ints w10 (some ⟨b2, o2, none⟩) up) := H9.out.keep hb10
        have V10 : Aside (table.RowsIn w10 ar qs) := V9.out.keep hb10
        have P10 : Aside (Ints w10 (some ⟨g7, 0, none⟩) (Kp :: up.drop 1)) := P9.out.keep hb10
        have Q10 : Aside (Ints w10 (some ⟨g9, 0, none⟩) (Kp :: lo.drop 1)) := Q9.out.keep hb10
        clear hb10 B9 L9 H9 V9 P9 Q9
        go_wp2_with fail
        refine (cut_out ar _ _ n3 cr n n cc9 qx2 e2 qs (Kp :: lo.drop 1) up w10 V10.out LQ.out.2 (by omega) LQ.out.1 Q10.out ZD.out.2 H10.out ZL.out.2 EE.out.2.1).mono ?_
        rintro e w11 ⟨v, rfl, hres⟩
        obtain ⟨⟨y1, y2, y3, rfl, -, -, -⟩, hbx⟩ := hres
        have hb11 : Below w10.heap.size w10 w11 := hbx
        have B11 : Aside (Below w.heap.size w w11) := B10.out.trans (hb11.mono B10.out.size)
        have L11 : Aside (Ints w11 (some ⟨b1, o1, none⟩) lo) := L10.out.keep hb11
        have H11 : Aside (Ints w11 (some ⟨b2, o2, none⟩) up) := H10.out.keep hb11
        have V11 : Aside (table.RowsIn w11 ar qs) := V10.out.keep hb11
        have P11 : Aside (Ints w11 (some ⟨g7, 0, none⟩) (Kp :: up.drop 1)) := P10.out.keep hb11
        have Q11 : Aside (Ints w11 (some ⟨g9, 0, none⟩) (Kp :: lo.drop 1)) := Q10.out.keep hb11
        clear hb11 B10 L10 H10 V10 P10 Q10
        go_wp2_with fail
        refine (cut_out ar _ _ n3 cr n n qx1 qx2 (e1 + e2) qs lo up w11 V11.out LQ.out.2 (by omega) LQ.out.1 L11.out ZL.out.1 H11.out ZL.out.2 EE.out.2.2.1).mono ?_
        rintro e w12 ⟨v, rfl, hres⟩
        obtain ⟨⟨z1, z2, z3, rfl, -, -, -⟩, hbx⟩ := hres
        have hb12 : Below w11.heap.size w11 w12 := hbx
        have B12 : Aside (Below w.heap.size w w12) := B11.out.trans (hb12.mono B11.out.size)
        have L12 : Aside (Ints w12 (some ⟨b1, o1, none⟩) lo) := L11.out.keep hb12
        have H12 : Aside (Ints w12 (some ⟨b2, o2, none⟩) up) := H11.out.keep hb12
        have V12 : Aside (table.RowsIn w12 ar qs) := V11.out.keep hb12
        have P12 : Aside (Ints w12 (some ⟨g7, 0, none⟩) (Kp :: up.drop 1)) := P11.out.keep hb12
        have Q12 : Aside (Ints w12 (some ⟨g9, 0, none⟩) (Kp :: lo.drop 1)) := Q11.out.keep hb12
        clear hb12 B11 L11 H11 V11 P11 Q11
        go_wp2
        go_ret
        exact ⟨ret_bool (by simp), B12.out⟩
end Go.Proofs.Ythbjfbkjbggkbaa.dice
