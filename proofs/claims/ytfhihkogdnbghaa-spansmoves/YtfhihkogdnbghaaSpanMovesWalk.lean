/-
  The walk of SpansMoves: a split moves those members alone that it is asked to.
-/
import Derived.Test.YtfhihkogdnbghaaSpanSplitsWalk
namespace Go.Proofs.Ytfhihkogdnbghaa.spans
open Go.ChangeShapes Go.WideShapes Go.ChangeAt Go.RowKit Go.Deep
open Go.Proofs.Ytfhihkogdnbghaa.bytes (ret_bool hid nth addr_add cell_lt own_below own_mono)
set_option linter.unusedVariables false
set_option maxRecDepth 100000
set_option linter.unusedSimpArgs false

/-- what a split is, of a map that may be and of a range within it -/
theorem split_told {s n : Int} {l : List Sp} {ep a b t : Int} (h : Snd s n l) (h0 : 0 ≤ a) (h1 : a < b) (h2 : b ≤ s) (hs : s ≤ 10000) (ht : 0 ≤ t ∧ t < min n 6) :
    ((∀ v, a ≤ v → v < b → find l v = t) ∧ splitE ep l s n a b t = (0, [], 120)) ∨
    ((∃ v, a ≤ v ∧ v < b ∧ find l v ≠ t) ∧ splitE ep l s n a b t = (0, [], 3) ∧ 39 ≤ l.length) ∨
    ((∃ v, a ≤ v ∧ v < b ∧ find l v ≠ t) ∧ splitE ep l s n a b t = ((ep + 1) % 4294967296, given l s a b t, 0) ∧ Snd s n (given l s a b t) ∧ ∀ v, 0 ≤ v → v < s → find (given l s a b t) v = if a ≤ v ∧ v < b then t else find l v) := by
  have hN := nodes_one h h0 h1 (show b ≤ 10000 by omega) (node := t)
  have hex : ∀ (_ : nodesOf l a b ≠ [t]), ∃ v, a ≤ v ∧ v < b ∧ find l v ≠ t := fun hne => by
    by_cases h3 : ∃ v, a ≤ v ∧ v < b ∧ find l v ≠ t
    · exact h3
    · refine absurd (hN.2 fun v h4 h5 => ?_) hne
      by_cases h6 : find l v = t
      · exact h6
      · exact absurd ⟨v, h4, h5, h6⟩ h3
  have hmay : nodesOf l a b ≠ [t] → mayB l s n a b t = true := fun hne => mayB_iff.2 ⟨h, hs, h0, h1, h2, ht, hne⟩
  rcases splitE_cases ep l s n a b t with ⟨e, hm⟩ | ⟨hm, e, h4⟩ | ⟨hm, e, h4⟩
  · refine .inl ⟨hN.1 ?_, e⟩
    by_cases h3 : nodesOf l a b = [t]
    · exact h3
    · rw [hmay h3] at hm; cases hm
  · have hM := mayB_iff.1 hm
    refine .inr (.inl ⟨hex hM.other, e, ?_⟩)
    have h5 := given_len l s a b t h.can.rise h1
    omega
  · have hM := mayB_iff.1 hm
    obtain ⟨_, _, _, hf⟩ := given_all h h0 h1 h2 ht
    exact .inr (.inr ⟨hex hM.other, e, given_snd hM h4, fun v hv1 hv2 => hf v hv2⟩)
theorem oth_step {l : List Sp} {t a : Int} {o : Bool} {j : Nat} (h : o = true ↔ ∃ v, a ≤ v ∧ v < a + (j : Int) ∧ find l v ≠ t) : (o || !decide (find l (a + j) = t)) = true ↔ ∃ v, a ≤ v ∧ v < a + ((j + 1 : Nat) : Int) ∧ find l v ≠ t := by
  constructor
  · intro hb
    cases o with
    | true =>
      obtain ⟨v, h1, h2, h3⟩ := h.1 rfl
      exact ⟨v, h1, by omega, h3⟩
    | false =>
      have h4 : find l (a + j) ≠ t := by simpa using hb
      exact ⟨a + j, by omega, by omega, h4⟩
  · rintro ⟨v, h1, h2, h3⟩
    by_cases e : v = a + (j : Int)
    · subst e; simp [h3]
    · rw [h.2 ⟨v, h1, by omega, h3⟩]; rfl

set_option maxRecDepth 100000 in
set_option maxHeartbeats 4000000 in
theorem movesLaw_walk (ca : Option Addr) (cn cc : Nat) (cs : List Ct) (zs zn x0 x1 x2 : Int) (w : World) (hC : CutsIn w ca cs) (hcn : cs.length = cn) (hcn9 : cn ≤ 9223372036854775807) (ts : 0 ≤ zs ∧ zs ≤ 65535) (tn : 0 ≤ zn ∧ zn ≤ 255) (t0 : 0 ≤ x0 ∧ x0 ≤ 65535) (t1 : 0 ≤ x1 ∧ x1 ≤ 65535) (t2 : 0 ≤ x2 ∧ x2 ≤ 255) :
    Calls Try.prog 8 #[.slice ca cn cc, .int .u16 zs, .int .u8 zn, .agg #[.int .u16 x0, .int .u16 x1, .int .u8 x2]] w fun e w' => e = .returned (.bool true) ∧ Below w.heap.size w w' := by
  obtain ⟨t00, t01⟩ := t0
  obtain ⟨t10, t11⟩ := t1
  obtain ⟨t20, t21⟩ := t2
  obtain ⟨ts0, ts1⟩ := ts
  obtain ⟨tn0, tn1⟩ := tn
  obtain ⟨W0, hW0⟩ : ∃ W0, w.alloc (.cells #[.int .u16 x0, .int .u16 x1, .int .u8 x2] 25) = W0 := ⟨_, rfl⟩
  have hb0 : Below w.heap.size w W0 := by rw [← hW0]; exact (Below.refl _ w).alloc (Nat.le_refl _) _
  have hR : Bx W0 w.heap.size #[.int .u16 x0, .int .u16 x1, .int .u8 x2] 25 := by rw [← hW0]; exact Bx.new _ _ _
  -- the numbers
  obtain ⟨zn5, hzn⟩ : ∃ z, zn % 5 = z := ⟨_, rfl⟩
  have g0 : 0 ≤ zn5 := by rw [← hzn]; exact Int.emod_nonneg _ (by omega)
  have g1 : zn5 < 5 := by rw [← hzn]; exact Int.emod_lt_of_pos _ (by omega)
  have g2 : zn.tmod 5 = zn5 := by rw [tmod_pos tn0, hzn]
  obtain ⟨nn, hnn⟩ : ∃ nn, 2 + zn5 = nn := ⟨_, rfl⟩
  obtain ⟨zs2, hzs⟩ : ∃ z, zs % 200 = z := ⟨_, rfl⟩
  have g3 : 0 ≤ zs2 := by rw [← hzs]; exact Int.emod_nonneg _ (by omega)
  have g4 : zs2 < 200 := by rw [← hzs]; exact Int.emod_lt_of_pos _ (by omega)
  have g5 : zs.tmod 200 = zs2 := by rw [tmod_pos ts0, hzs]
  obtain ⟨ss, hss⟩ : ∃ ss, 2 + zs2 = ss := ⟨_, rfl⟩
  have n1 : 2 ≤ nn := by omega
  have n2 : nn ≤ 6 := by omega
  have s1 : 2 ≤ ss := by omega
  have s2 : ss ≤ 201 := by omega
  obtain ⟨fa, hfa⟩ : ∃ fa, x0 % ss = fa := ⟨_, rfl⟩
  have q0 : 0 ≤ fa := by rw [← hfa]; exact Int.emod_nonneg _ (by omega)
  have q1 : fa < ss := by rw [← hfa]; exact Int.emod_lt_of_pos _ (by omega)
  obtain ⟨rb, hrb⟩ : ∃ rb, x1 % (ss - fa) = rb := ⟨_, rfl⟩
  have q2 : 0 ≤ rb := by rw [← hrb]; exact Int.emod_nonneg _ (by omega)
  have q3 : rb < ss - fa := by rw [← hrb]; exact Int.emod_lt_of_pos _ (by omega)
  obtain ⟨nd, hnd⟩ : ∃ nd, x2 % nn = nd := ⟨_, rfl⟩
  have q4 : 0 ≤ nd := by rw [← hnd]; exact Int.emod_nonneg _ (by omega)
  have q5 : nd < nn := by rw [← hnd]; exact Int.emod_lt_of_pos _ (by omega)
  have y0 : x0.tmod ss = fa := by rw [tmod_pos t00, hfa]
  have y1 : x1.tmod (ss - fa) = rb := by rw [tmod_pos t10, hrb]
  have y2 : x2.tmod nn = nd := by rw [tmod_pos t20, hnd]
  obtain ⟨tb, htb⟩ : ∃ tb, fa + 1 + rb = tb := ⟨_, rfl⟩
  have ns0 : ¬ ss = 0 := by omega
  have ns1 : ¬ ss - fa = 0 := by omega
  have ns2 : ¬ nn = 0 := by omega
  have htf : fa < tb := by omega
  have hts : tb ≤ ss := by omega
  have HOf := asd (of_any ca cn cc cs ss nn W0 (hC.keep hb0) hcn hcn9 (by omega) (by omega))
  have hok := ofM_ok (s := ss) (n := nn) (by omega) (by omega) (cs.take 30)
  generalize ofM ss nn (cs.take 30) = M at HOf hok
  have HW : Hid (w.alloc (.cells #[.int .u16 x0, .int .u16 x1, .int .u8 x2] 25) = W0) := hW0
  have HB := asd (show Below w.heap.size w W0 ∧ Bx W0 w.heap.size #[.int .u16 x0, .int .u16 x1, .int .u8 x2] 25 ∧ MOk ss nn M from ⟨hb0, hR, hok⟩)
  obtain ⟨mp, mL⟩ := M
  have HT := asd (split_told (ep := mp) hok.snd q0 htf hts (by omega) (t := nd) (by omega))
  obtain ⟨⟨e1, L1, er⟩, hE⟩ : ∃ E, splitE mp mL ss nn fa tb nd = E := ⟨_, rfl⟩
  rw [hE] at HT
  have CS := asd (show ∀ W b am nm cm, MB W b mp am nm cm mL → nm ≤ 40 → Calls Try.prog 14 #[.agg #[.int .u32 mp, .slice am nm cm], .int .i64 ss, .int .i64 nn, .int .i64 fa, .int .i64 tb, .int .i64 nd] W (SpOut .u16 (e1, L1, er) W) from fun W b am nm cm hm h40 => by have := split_any mp am nm cm mL ss nn fa tb nd W hm.sp hok.ep (by unfold maxLen; omega); rwa [hE] at this)
  have hK := fun W => known_any W
  have HFi := asd (show ∀ W b (e1 : Int) (a1 : Option Addr) (n1 c1 : Nat) (L : List Sp) (v : Int), MB W b e1 a1 n1 c1 L → Calls Try.prog 19 #[.agg #[.int .u32 e1, .slice a1 n1 c1], .int .i64 v] W fun e w' => e = .returned (.int .i64 (find L v)) ∧ Below W.heap.size W w' from fun W b e1 a1 n1 c1 L v h => find_any e1 a1 n1 c1 L v W h.sp)
  have HSo := asd (show ∀ W b (e1 : Int) (a1 : Option Addr) (n1 c1 : Nat) (L : List Sp), MB W b e1 a1 n1 c1 L → Calls Try.prog 17 #[.agg #[.int .u32 e1, .slice a1 n1 c1], .int .i64 ss, .int .i64 nn] W fun e w' => e = .returned (.bool (sndB ss nn L)) ∧ Below W.heap.size W w' from fun W b e1 a1 n1 c1 L h => sound_any e1 a1 n1 c1 L ss nn W h.sp)
  clear hb0 hR hC hcn hW0 hok hE hfa hrb hnd hzn hzs
  go_enter Try.func8, Try.ntmps8
  go_wp2_with fail
  rw [HW.out]
  go_upto_region 4 with (go_at_call 11; refine Calls.mono HOf.out ?_; rintro e v1 ⟨am, nm, cm, rfl, hsp, h40, hb1⟩; unfold mapV)
  obtain ⟨W1, hW1⟩ : ∃ W1, v1.alloc (.cells (mapC mp am nm cm) 29) = W1 := ⟨_, rfl⟩
  have ka : Below v1.heap.size v1 W1 := by rw [← hW1]; exact (Below.refl _ _).alloc (Nat.le_refl _) _
  have m1 : MB W1 v1.heap.size mp am nm cm mL := by rw [← hW1]; exact MB.new hsp
  have hR1 := (HB.out.2.1.below hb1).below ka
  have HB1 := asd (show Below w.heap.size w W1 from HB.out.1.trans ((hb1.trans (ka.mono hb1.size)).mono HB.out.1.size))
  have HW1 : Hid (v1.alloc (.cells #[.int .u32 mp, .slice am nm cm] 29) = W1) := hW1
  rw [HW1.out]
  obtain ⟨mb, hmb⟩ : ∃ mb, v1.heap.size = mb := ⟨_, rfl⟩
  rw [hmb] at m1
  try rw [hmb]
  have S1 := asd m1
  have r0 := hR1.cell (j := 0) (x := .int .u16 x0) rfl
  have r1 := hR1.cell (j := 1) (x := .int .u16 x1) rfl
  have r2 := hR1.cell (j := 2) (x := .int .u8 x2) rfl
  have p0 := m1.c0
  have p1 := m1.c1
  clear hb1 ka m1 hR1 hW1 HW1 hmb hsp HOf HW
  go_upto_region 8 with (go_at_call 14; (with_reducible refine Calls.mono (CS.out _ _ _ _ _ S1.out h40) ?_); rintro e v2 ⟨a2, n2', c2, rfl, hs2, -, hb2⟩; unfold mapV)
  obtain ⟨W2, hW2⟩ : ∃ W2, v2.alloc (.cells (mapC e1 a2 n2' c2) 29) = W2 := ⟨_, rfl⟩
  have ka : Below v2.heap.size v2 W2 := by rw [← hW2]; exact (Below.refl _ _).alloc (Nat.le_refl _) _
  have m2 : MB W2 v2.heap.size e1 a2 n2' c2 L1 := by rw [← hW2]; exact MB.new hs2
  have kb := hb2.trans (ka.mono hb2.size)
  have HB2 := asd (show Below w.heap.size w W2 from HB1.out.trans (kb.mono HB1.out.size))
  have HW2 : Hid (v2.alloc (.cells #[.int .u32 e1, .slice a2 n2' c2] 29) = W2) := hW2
  rw [HW2.out]
  obtain ⟨xb, hxb⟩ : ∃ xb, v2.heap.size = xb := ⟨_, rfl⟩
  rw [hxb] at m2
  try rw [hxb]
  have S := asd (show MB W2 mb mp am nm cm mL ∧ MB W2 xb e1 a2 n2' c2 L1 from ⟨S1.out.keep kb, m2⟩)
  clear p0 p1 r0 r1 r2 hs2 hb2 ka m2 kb hW2 HW2 hxb S1 HB1 CS y0 y1 y2 ns0 ns1 ns2 htb
  go_wp2_with fail
  go_loopg [17, 18] (tb - fa).toNat (fun g1 v17 v18 wr => ∃ (j : Nat) (o : Bool), v17 = .bool o ∧ v18 = .int .i64 (fa + j) ∧ fa + (j : Int) ≤ tb ∧ (tb - fa).toNat - j ≤ g1 ∧ Aside ((o = true ↔ ∃ v, fa ≤ v ∧ v < fa + (j : Int) ∧ find mL v ≠ nd) ∧ Below W2.heap.size W2 wr))
  case atStart => exact ⟨0, false, rfl, by simp, by omega, by omega, ⟨fun h => (by cases h), fun ⟨v, h1, h2, _⟩ => (by omega)⟩, Below.refl _ _⟩
  case round =>
    obtain ⟨j, o, rfl, rfl, hj, hg1, SJ⟩ := hrel
    have SW := asd (show MB wr mb mp am nm cm mL ∧ MB wr xb e1 a2 n2' c2 L1 ∧ Below w.heap.size w wr from ⟨S.out.1.keep SJ.out.2, S.out.2.keep SJ.out.2, HB2.out.trans (SJ.out.2.mono HB2.out.size)⟩)
    have p0 := SW.out.1.c0
    have p1 := SW.out.1.c1
    by_cases hlt : fa + (j : Int) < tb
    · have hst := asd (oth_step SJ.out.1)
      have hn1 : fa + (j : Int) + 1 = fa + ((j + 1 : Nat) : Int) := by omega
      obtain ⟨z, hz⟩ : ∃ z, find mL (fa + (j : Int)) = z := ⟨_, rfl⟩
      have hF := HFi.out wr mb mp am nm cm mL (fa + (j : Int)) SW.out.1
      rw [hz] at hF hst
      clear hz
      cases o with
      | true =>
        have E := asd (show ∃ v, fa ≤ v ∧ v < fa + ((j + 1 : Nat) : Int) ∧ find mL v ≠ nd from hst.out.1 rfl)
        clear hF hst
        go_wp2
        go_roundg ((tb - fa).toNat - (j + 1))
        case measure => omega
        case rel => exact ⟨j + 1, true, rfl, by go_num, by omega, by omega, ⟨fun _ => E.out, fun _ => rfl⟩, SJ.out.2⟩
      | false =>
        by_cases he : z = nd
        · have d1 : (z != nd) = false := by simp [he]
          have E := asd (show (false = true ↔ ∃ v, fa ≤ v ∧ v < fa + ((j + 1 : Nat) : Int) ∧ find mL v ≠ nd) from by have := hst.out; rw [decide_eq_true he] at this; exact this)
          clear he hst
          go_wp2_with (go_at_call 19; refine hF.mono ?_; rintro e w3 ⟨rfl, hb3⟩)
          go_roundg ((tb - fa).toNat - (j + 1))
          case measure => omega
          case rel => exact ⟨j + 1, false, rfl, by go_num, by omega, by omega, E.out, SJ.out.2.trans (hb3.mono SJ.out.2.size)⟩
        · have d1 : (z != nd) = true := by simp [he]
          have E := asd (show ∃ v, fa ≤ v ∧ v < fa + ((j + 1 : Nat) : Int) ∧ find mL v ≠ nd from by have := hst.out; rw [decide_eq_false he] at this; exact this.1 rfl)
          clear he hst
          go_wp2_with (go_at_call 19; refine hF.mono ?_; rintro e w3 ⟨rfl, hb3⟩)
          go_roundg ((tb - fa).toNat - (j + 1))
          case measure => omega
          case rel => exact ⟨j + 1, true, rfl, by go_num, by omega, by omega, ⟨fun _ => E.out, fun _ => rfl⟩, SJ.out.2.trans (hb3.mono SJ.out.2.size)⟩
    · have hO : o = true ↔ ∃ v, fa ≤ v ∧ v < tb ∧ find mL v ≠ nd := by
        have := SJ.out.1
        rwa [show fa + (j : Int) = tb by omega] at this
      have hlt2 : ¬ fa + (j : Int) < tb := hlt
      rcases HT.out with ⟨h1, hE⟩ | ⟨h1, hE, h39⟩ | ⟨h1, hE, hsn, hfd⟩
      · injection hE with e3 e4
        injection e4 with e5 e6
        have ho : o = false := by
          cases o with
          | false => rfl
          | true =>
            obtain ⟨v, h3, h4, h5⟩ := hO.1 rfl
            exact absurd (h1 v h3 h4) h5
        subst e3 e5 e6 ho
        clear hO h1 HT
        go_wp2_with (go_at_call 13; refine (hK _).mono ?_; rintro e w3 ⟨rfl, hb3⟩)
        go_ret
        exact ⟨rfl, SW.out.2.2.trans (hb3.mono SW.out.2.2.size)⟩
      · injection hE with e3 e4
        injection e4 with e5 e6
        have ho : o = true := hO.2 h1
        have hnm : nm = mL.length := S.out.1.sp.len.symm
        have h39z : (39 : Int) ≤ (nm : Int) := by omega
        subst e3 e5 e6 ho
        clear hO h1 HT hnm h39
        go_wp2_with (go_at_call 13; refine (hK _).mono ?_; rintro e w3 ⟨rfl, hb3⟩; have p2 := (SW.out.1.keep hb3).c0; have p3 := (SW.out.1.keep hb3).c1)
        go_ret
        exact ⟨rfl, SW.out.2.2.trans (hb3.mono SW.out.2.2.size)⟩
      · injection hE with e3 e4
        injection e4 with e5 e6
        have ho : o = true := hO.2 h1
        subst ho e6
        have HFd := asd (show (∀ v, 0 ≤ v → v < ss → find L1 v = if fa ≤ v ∧ v < tb then nd else find mL v) ∧ sndB ss nn L1 = true ∧ e1 = (mp + 1) % 4294967296 from ⟨by rw [e5]; exact hfd, by rw [e5]; exact sndB_iff.2 hsn, e3⟩)
        clear hO h1 HT hsn hfd e3 e5 p0 p1
        obtain ⟨W3, hW3⟩ : ∃ W3, wr = W3 := ⟨_, rfl⟩
        rw [hW3] at SW ⊢
        clear hW3 SJ
        go_wp2_with fail
        go_loopg [19, 20] ss.toNat (fun g1 v19 v20 wr => ∃ (j : Nat), v19 = .int .i64 j ∧ (j : Int) ≤ ss ∧ ss.toNat - j ≤ g1 ∧ Aside (Below W3.heap.size W3 wr))
        case atStart => exact ⟨0, rfl, by omega, by omega, Below.refl _ _⟩
        case round =>
          obtain ⟨j2, rfl, hj2, hg2, SV⟩ := hrel
          have SX := asd (show MB wr mb mp am nm cm mL ∧ MB wr xb e1 a2 n2' c2 L1 ∧ Below w.heap.size w wr from ⟨SW.out.1.keep SV.out, SW.out.2.1.keep SV.out, SW.out.2.2.trans (SV.out.mono SW.out.2.2.size)⟩)
          have p0 := SX.out.1.c0
          have p1 := SX.out.1.c1
          by_cases hl2 : (j2 : Int) < ss
          · have hfv := HFd.out.1 j2 (by omega) hl2
            have hF := HFi.out wr mb mp am nm cm mL (j2 : Int) SX.out.1
            have HF2 := asd (show ∀ W, Below wr.heap.size wr W → Calls Try.prog 19 #[.agg #[.int .u32 e1, .slice a2 n2' c2], .int .i64 j2] W fun e w' => e = .returned (.int .i64 (find L1 j2)) ∧ Below W.heap.size W w' from fun W hb => HFi.out W xb e1 a2 n2' c2 L1 (j2 : Int) (SX.out.2.1.keep hb))
            generalize find mL (j2 : Int) = z at hF hfv
            generalize find L1 (j2 : Int) = z2 at HF2 hfv
            by_cases hin : fa ≤ (j2 : Int)
            · by_cases hin2 : (j2 : Int) < tb
              · rw [if_pos ⟨hin, hin2⟩] at hfv
                subst hfv
                go_wp2_with (first
                  | (go_at_call 19; (with_reducible refine hF.mono ?_); rintro e w4 ⟨rfl, hb4⟩; have p2 := (SX.out.2.1.keep hb4).c0; have p3 := (SX.out.2.1.keep hb4).c1)
                  | (go_at_call 19; (with_reducible refine Calls.mono (HF2.out _ hb4) ?_); rintro e w5 ⟨rfl, hb5⟩))
                go_roundg (ss.toNat - (j2 + 1))
                case measure => omega
                case rel => exact ⟨j2 + 1, by go_num, by omega, by omega, SV.out.trans ((hb4.trans (hb5.mono hb4.size)).mono SV.out.size)⟩
              · rw [if_neg (fun h => hin2 h.2)] at hfv
                subst hfv
                go_wp2_with (first
                  | (go_at_call 19; (with_reducible refine hF.mono ?_); rintro e w4 ⟨rfl, hb4⟩; have p2 := (SX.out.2.1.keep hb4).c0; have p3 := (SX.out.2.1.keep hb4).c1)
                  | (go_at_call 19; (with_reducible refine Calls.mono (HF2.out _ hb4) ?_); rintro e w5 ⟨rfl, hb5⟩))
                go_roundg (ss.toNat - (j2 + 1))
                case measure => omega
                case rel => exact ⟨j2 + 1, by go_num, by omega, by omega, SV.out.trans ((hb4.trans (hb5.mono hb4.size)).mono SV.out.size)⟩
            · rw [if_neg (fun h => hin h.1)] at hfv
              subst hfv
              go_wp2_with (first
                | (go_at_call 19; (with_reducible refine hF.mono ?_); rintro e w4 ⟨rfl, hb4⟩; have p2 := (SX.out.2.1.keep hb4).c0; have p3 := (SX.out.2.1.keep hb4).c1)
                | (go_at_call 19; (with_reducible refine Calls.mono (HF2.out _ hb4) ?_); rintro e w5 ⟨rfl, hb5⟩))
              go_roundg (ss.toNat - (j2 + 1))
              case measure => omega
              case rel => exact ⟨j2 + 1, by go_num, by omega, by omega, SV.out.trans ((hb4.trans (hb5.mono hb4.size)).mono SV.out.size)⟩
          · have hl3 : ¬ (j2 : Int) < ss := hl2
            have w9 : IntKind.u32.wrap (mp + 1) = e1 := by rw [HFd.out.2.2]; rfl
            have HSo2 := asd (show ∀ W, Below wr.heap.size wr W → Calls Try.prog 17 #[.agg #[.int .u32 e1, .slice a2 n2' c2], .int .i64 ss, .int .i64 nn] W fun e w' => e = .returned (.bool true) ∧ Below W.heap.size W w' from fun W hb => by have := HSo.out W xb e1 a2 n2' c2 L1 (SX.out.2.1.keep hb); rwa [HFd.out.2.1] at this)
            clear p0 p1
            go_wp2_with (first
              | (go_at_call 13; refine (hK _).mono ?_; rintro e w4 ⟨rfl, hb4⟩; have p2 := (SX.out.2.1.keep hb4).c0; have p3 := (SX.out.2.1.keep hb4).c1)
              | (go_at_call 17; (with_reducible refine Calls.mono (HSo2.out _ hb4) ?_); rintro e w5 ⟨rfl, hb5⟩; have k5 := hb4.trans (hb5.mono hb4.size); have p4 := (SX.out.2.1.keep k5).c0; have p5 := (SX.out.1.keep k5).c0))
            go_ret
            exact ⟨rfl, SX.out.2.2.trans (k5.mono SX.out.2.2.size)⟩
end Go.Proofs.Ytfhihkogdnbghaa.spans
