/-
  The walk of SpansBack: a range that is given, and given back, is where it was.
-/
import Derived.Test.YtfhihkogdnbghaaSpanMovesWalk
namespace Go.Proofs.Ytfhihkogdnbghaa.spans
open Go.ChangeShapes Go.WideShapes Go.ChangeAt Go.RowKit Go.Deep
open Go.Proofs.Ytfhihkogdnbghaa.bytes (ret_bool hid nth addr_add cell_lt own_below own_mono)
set_option linter.unusedVariables false
set_option maxRecDepth 100000
set_option linter.unusedSimpArgs false

theorem back_same {s n : Int} {l x : List Sp} {a b t z : Int} (h : Snd s n l) (hx : Snd s n x) (h0 : 0 ≤ a) (h1 : a < b) (h2 : b ≤ s) (ht : 0 ≤ t ∧ t < min n 6) (hz : 0 ≤ z ∧ z < min n 6)
    (hl : ∀ v, a ≤ v → v < b → find l v = z) (hf : ∀ v, 0 ≤ v → v < s → find x v = if a ≤ v ∧ v < b then t else find l v) : given x s a b z = l := by
  obtain ⟨c1, c2, _, c4⟩ := given_all hx h0 h1 h2 hz
  obtain ⟨N, rfl⟩ := Int.eq_ofNat_of_zero_le (show 0 ≤ s by omega)
  refine can_eq c1 h.can N (fun t ht => (c2 t ht).1) (fun t ht => (h.all t ht).1) fun v hv => ?_
  rw [c4 v (by omega)]
  unfold gOf
  by_cases hr : a ≤ (v : Int) ∧ (v : Int) < b
  · rw [if_pos hr, hl v hr.1 hr.2]
  · rw [if_neg hr, hf v (by omega) (by omega), if_neg hr]
theorem back_told {s n : Int} {l x : List Sp} {ep a b t z : Int} (h : Snd s n l) (hx : Snd s n x) (h0 : 0 ≤ a) (h1 : a < b) (h2 : b ≤ s) (hs : s ≤ 10000) (ht : 0 ≤ t ∧ t < min n 6) (hz : 0 ≤ z ∧ z < min n 6) (hne : t ≠ z)
    (hl : ∀ v, a ≤ v → v < b → find l v = z) (hf : ∀ v, 0 ≤ v → v < s → find x v = if a ≤ v ∧ v < b then t else find l v) : splitE ep x s n a b z = ((ep + 1) % 4294967296, l, 0) := by
  have hG := back_same h hx h0 h1 h2 ht hz hl hf
  have hxa : find x a = t := by rw [hf a h0 (by omega), if_pos ⟨by omega, h1⟩]
  have hN := nodes_one hx h0 h1 (show b ≤ 10000 by omega) (node := z)
  have hm : mayB x s n a b z = true := mayB_iff.2 ⟨hx, hs, h0, h1, h2, hz, fun e => by have := hN.1 e a (by omega) h1; rw [hxa] at this; exact hne this⟩
  unfold splitE
  rw [if_pos hm, hG, if_neg (by have := h.len; omega)]

set_option maxRecDepth 100000 in
set_option maxHeartbeats 4000000 in
theorem backLaw_walk (ca : Option Addr) (cn cc : Nat) (cs : List Ct) (zs x0 x1 x2 : Int) (w : World) (hC : CutsIn w ca cs) (hcn : cs.length = cn) (hcn9 : cn ≤ 9223372036854775807) (ts : 0 ≤ zs ∧ zs ≤ 65535) (t0 : 0 ≤ x0 ∧ x0 ≤ 65535) (t1 : 0 ≤ x1 ∧ x1 ≤ 65535) (t2 : 0 ≤ x2 ∧ x2 ≤ 255) :
    Calls Try.prog 3 #[.slice ca cn cc, .int .u16 zs, .agg #[.int .u16 x0, .int .u16 x1, .int .u8 x2]] w fun e w' => e = .returned (.bool true) ∧ Below w.heap.size w w' := by
  obtain ⟨t00, t01⟩ := t0
  obtain ⟨t10, t11⟩ := t1
  obtain ⟨t20, t21⟩ := t2
  obtain ⟨ts0, ts1⟩ := ts
  obtain ⟨W0, hW0⟩ : ∃ W0, w.alloc (.cells #[.int .u16 x0, .int .u16 x1, .int .u8 x2] 25) = W0 := ⟨_, rfl⟩
  have hb0 : Below w.heap.size w W0 := by rw [← hW0]; exact (Below.refl _ w).alloc (Nat.le_refl _) _
  have hR : Bx W0 w.heap.size #[.int .u16 x0, .int .u16 x1, .int .u8 x2] 25 := by rw [← hW0]; exact Bx.new _ _ _
  obtain ⟨zs2, hzs⟩ : ∃ z, zs % 200 = z := ⟨_, rfl⟩
  have g3 : 0 ≤ zs2 := by rw [← hzs]; exact Int.emod_nonneg _ (by omega)
  have g4 : zs2 < 200 := by rw [← hzs]; exact Int.emod_lt_of_pos _ (by omega)
  have g5 : zs.tmod 200 = zs2 := by rw [tmod_pos ts0, hzs]
  obtain ⟨ss, hss⟩ : ∃ ss, 2 + zs2 = ss := ⟨_, rfl⟩
  have s1 : 2 ≤ ss := by omega
  have s2 : ss ≤ 201 := by omega
  obtain ⟨fa, hfa⟩ : ∃ fa, x0 % ss = fa := ⟨_, rfl⟩
  have q0 : 0 ≤ fa := by rw [← hfa]; exact Int.emod_nonneg _ (by omega)
  have q1 : fa < ss := by rw [← hfa]; exact Int.emod_lt_of_pos _ (by omega)
  obtain ⟨rb, hrb⟩ : ∃ rb, x1 % (ss - fa) = rb := ⟨_, rfl⟩
  have q2 : 0 ≤ rb := by rw [← hrb]; exact Int.emod_nonneg _ (by omega)
  have q3 : rb < ss - fa := by rw [← hrb]; exact Int.emod_lt_of_pos _ (by omega)
  have y0 : x0.tmod ss = fa := by rw [tmod_pos t00, hfa]
  have y1 : x1.tmod (ss - fa) = rb := by rw [tmod_pos t10, hrb]
  obtain ⟨tb, htb⟩ : ∃ tb, fa + 1 + rb = tb := ⟨_, rfl⟩
  have ns0 : ¬ ss = 0 := by omega
  have ns1 : ¬ ss - fa = 0 := by omega
  have htf : fa < tb := by omega
  have hts : tb ≤ ss := by omega
  have HOf := asd (of_any ca cn cc cs ss 3 W0 (hC.keep hb0) hcn hcn9 (by omega) (by omega))
  have hok := ofM_ok (s := ss) (n := 3) (by omega) (by omega) (cs.take 30)
  generalize ofM ss 3 (cs.take 30) = M at HOf hok
  have HW : Hid (w.alloc (.cells #[.int .u16 x0, .int .u16 x1, .int .u8 x2] 25) = W0) := hW0
  have HB := asd (show Below w.heap.size w W0 ∧ Bx W0 w.heap.size #[.int .u16 x0, .int .u16 x1, .int .u8 x2] 25 from ⟨hb0, hR⟩)
  obtain ⟨mp, mL⟩ := M
  have Hok := asd hok
  have hK := fun W => known_any W
  have HN := asd (show ∀ W b am nm cm, MB W b mp am nm cm mL → nm ≤ 40 → Calls Try.prog 12 #[.agg #[.int .u32 mp, .slice am nm cm], .int .i64 fa, .int .i64 tb] W fun e w' => ∃ a2 q c2, e = .returned (.slice a2 q c2) ∧ Aside (q = (nodesOf mL fa tb).length ∧ Ints w' a2 (nodesOf mL fa tb) ∧ Below W.heap.size W w') ∧ q ≤ 6 from fun W b am nm cm hm h40 => nodesS_any mp am nm cm mL fa tb W hm.sp (by unfold maxLen; omega))
  clear hb0 hR hC hcn hW0 hok hfa hrb hzs
  go_enter Try.func3, Try.ntmps3
  go_wp2_with fail
  rw [HW.out]
  go_upto_region 3 with (go_at_call 11; refine Calls.mono HOf.out ?_; rintro e v1 ⟨am, nm, cm, rfl, hsp, h40, hb1⟩; unfold mapV)
  obtain ⟨W1, hW1⟩ : ∃ W1, v1.alloc (.cells (mapC mp am nm cm) 29) = W1 := ⟨_, rfl⟩
  have ka : Below v1.heap.size v1 W1 := by rw [← hW1]; exact (Below.refl _ _).alloc (Nat.le_refl _) _
  have m1 : MB W1 v1.heap.size mp am nm cm mL := by rw [← hW1]; exact MB.new hsp
  have hR1 := (HB.out.2.below hb1).below ka
  have HB1 := asd (show Below w.heap.size w W1 from HB.out.1.trans ((hb1.trans (ka.mono hb1.size)).mono HB.out.1.size))
  have HW1 : Hid (v1.alloc (.cells #[.int .u32 mp, .slice am nm cm] 29) = W1) := hW1
  rw [HW1.out]
  obtain ⟨mb, hmb⟩ : ∃ mb, v1.heap.size = mb := ⟨_, rfl⟩
  rw [hmb] at m1
  try rw [hmb]
  have S1 := asd (And.intro m1 hR1)
  have r0 := hR1.cell (j := 0) (x := .int .u16 x0) rfl
  have r1 := hR1.cell (j := 1) (x := .int .u16 x1) rfl
  have p0 := m1.c0
  have p1 := m1.c1
  clear hb1 ka m1 hR1 hW1 HW1 hmb hsp HOf HW
  go_upto_region 6 with (go_at_call 12; (with_reducible refine Calls.mono (HN.out _ _ _ _ _ S1.out.1 h40) ?_); rintro e w2 ⟨aN, qN, cN, rfl, hN, hqN⟩)
  have S2 := asd (show MB w2 mb mp am nm cm mL ∧ Bx w2 w.heap.size #[.int .u16 x0, .int .u16 x1, .int .u8 x2] 25 ∧ Below w.heap.size w w2 ∧ Ints w2 aN (nodesOf mL fa tb) ∧ qN = (nodesOf mL fa tb).length from ⟨S1.out.1.keep hN.out.2.2, S1.out.2.below hN.out.2.2, HB1.out.trans (hN.out.2.2.mono HB1.out.size), hN.out.2.1, hN.out.1⟩)
  clear hN S1 HB1 p0 p1 r0 r1 HN y0 y1 ns0 ns1 htb
  by_cases hq1 : qN = 1
  rotate_left
  · have hz1 : ((qN : Int) != 1) = true := by simp; omega
    clear hq1
    go_wp2_with (go_at_call 13; refine (hK _).mono ?_; rintro e w3 ⟨rfl, hb3⟩)
    go_ret
    exact ⟨rfl, S2.out.2.2.1.trans (hb3.mono S2.out.2.2.1.size)⟩
  subst hq1
  -- one node's
  obtain ⟨z, hz⟩ : ∃ z, nodesOf mL fa tb = [z] := by
    have := S2.out.2.2.2.2
    match h : nodesOf mL fa tb, this with
    | [z], _ => exact ⟨z, rfl⟩
  have hall := (nodes_one Hok.out.snd q0 htf (by omega) (node := z)).1 hz
  have hz3 : 0 ≤ z ∧ z < 3 := by
    have h1 := Hok.out.snd.find_ok q0
    rw [hall fa (by omega) htf] at h1
    omega
  obtain ⟨hz30, hz31⟩ := hz3
  obtain ⟨bN, oN, haN, hcN⟩ := S2.out.2.2.2.1.get (k := 0) (by rw [hz]; exact Nat.zero_lt_one)
  have c0 := hcN 0 (by rw [hz]; exact Nat.zero_lt_one)
  rw [hz] at c0
  simp only [Nat.add_zero] at c0
  have c0' : w2.cell? ⟨bN, oN, none⟩ = some (.int .i64 z) := c0
  subst haN
  obtain ⟨rd, hrd⟩ : ∃ rd, x2 % 2 = rd := ⟨_, rfl⟩
  have d0 : 0 ≤ rd ∧ rd < 2 := by rw [← hrd]; exact ⟨Int.emod_nonneg _ (by omega), Int.emod_lt_of_pos _ (by omega)⟩
  obtain ⟨d01, d02⟩ := d0
  have y2 : x2.tmod 2 = rd := by rw [tmod_pos t20, hrd]
  obtain ⟨to3, hto⟩ : ∃ t, (z + 1 + rd) % 3 = t := ⟨_, rfl⟩
  have y3 : (z + 1 + rd).tmod 3 = to3 := by rw [tmod_pos (by omega), hto]
  have hto0 : 0 ≤ to3 ∧ to3 < 3 := by rw [← hto]; exact ⟨Int.emod_nonneg _ (by omega), Int.emod_lt_of_pos _ (by omega)⟩
  have htz : to3 ≠ z := by omega
  obtain ⟨hto1, hto2⟩ := hto0
  have HT := asd (split_told (ep := mp) Hok.out.snd q0 htf hts (by omega) (t := to3) (by omega))
  have HA := asd (show (∀ v, fa ≤ v → v < tb → find mL v = z) ∧ to3 ≠ z from ⟨hall, htz⟩)
  obtain ⟨⟨e1, L1, er⟩, hE⟩ : ∃ E, splitE mp mL ss 3 fa tb to3 = E := ⟨_, rfl⟩
  rw [hE] at HT
  have CS := asd (show ∀ W b am nm cm, MB W b mp am nm cm mL → nm ≤ 40 → Calls Try.prog 14 #[.agg #[.int .u32 mp, .slice am nm cm], .int .i64 ss, .int .i64 3, .int .i64 fa, .int .i64 tb, .int .i64 to3] W (SpOut .u16 (e1, L1, er) W) from fun W b am nm cm hm h40 => by have := split_any mp am nm cm mL ss 3 fa tb to3 W hm.sp Hok.out.ep (by unfold maxLen; omega); rwa [hE] at this)
  have r2 := S2.out.2.1.cell (j := 2) (x := .int .u8 x2) rfl
  have wz : IntKind.i64.wrap x2 = x2 := by rw [IntKind.wrap_i64]; omega
  clear hE hall htz hrd hto hz hcN c0
  go_upto_region 8 with fail
  go_quiet (fail)
  have k3 : Below w2.heap.size w2 (w2.drewN nq) := below_drewN (Below.refl _ _) nq
  have S3 := asd (show MB (w2.drewN nq) mb mp am nm cm mL ∧ Below w.heap.size w (w2.drewN nq) ∧ (w2.drewN nq).cell? ⟨bN, oN, none⟩ = some (.int .i64 z) from ⟨S2.out.1.keep k3, S2.out.2.2.1.trans (k3.mono S2.out.2.2.1.size), (k3.cell (p := ⟨bN, oN, none⟩) (cell_lt c0')).trans c0'⟩)
  clear k3 S2 c0' r2
  generalize w2.drewN nq = w3 at S3 ⊢
  have p0 := S3.out.1.c0
  have p1 := S3.out.1.c1
  go_upto_region 10 with (go_at_call 14; (with_reducible refine Calls.mono (CS.out _ _ _ _ _ S3.out.1 h40) ?_); rintro e v2 ⟨a2, n2', c2, rfl, hs2, -, hb2⟩; unfold mapV)
  obtain ⟨W4, hW4⟩ : ∃ W4, v2.alloc (.cells (mapC e1 a2 n2' c2) 29) = W4 := ⟨_, rfl⟩
  have ka : Below v2.heap.size v2 W4 := by rw [← hW4]; exact (Below.refl _ _).alloc (Nat.le_refl _) _
  have m2 : MB W4 v2.heap.size e1 a2 n2' c2 L1 := by rw [← hW4]; exact MB.new hs2
  have kb := hb2.trans (ka.mono hb2.size)
  have HW4 : Hid (v2.alloc (.cells #[.int .u32 e1, .slice a2 n2' c2] 29) = W4) := hW4
  rw [HW4.out]
  obtain ⟨xb, hxb⟩ : ∃ xb, v2.heap.size = xb := ⟨_, rfl⟩
  rw [hxb] at m2
  try rw [hxb]
  have S4 := asd (show MB W4 mb mp am nm cm mL ∧ MB W4 xb e1 a2 n2' c2 L1 ∧ Below w.heap.size w W4 ∧ W4.cell? ⟨bN, oN, none⟩ = some (.int .i64 z) from ⟨S3.out.1.keep kb, m2, S3.out.2.1.trans (kb.mono S3.out.2.1.size), (kb.cell (p := ⟨bN, oN, none⟩) (cell_lt S3.out.2.2)).trans S3.out.2.2⟩)
  clear hs2 hb2 ka m2 kb hW4 HW4 hxb S3 CS p0 p1 y2 y3 wz
  rcases HT.out with ⟨h1, hE⟩ | ⟨h1, hE, h39⟩ | ⟨h1, hE, hsn, hfd⟩
  · have h2 := h1 fa (by omega) htf
    rw [HA.out.1 fa (by omega) htf] at h2
    exact absurd h2.symm HA.out.2
  · injection hE with e3 e4
    injection e4 with e5 e6
    subst e6
    clear h1 HT h39 e3 e5
    go_wp2_with (go_at_call 13; refine (hK _).mono ?_; rintro e w5 ⟨rfl, hb5⟩)
    go_ret
    exact ⟨rfl, S4.out.2.2.1.trans (hb5.mono S4.out.2.2.1.size)⟩
  · injection hE with e3 e4
    injection e4 with e5 e6
    subst e6
    have hep1 : U32 e1 := by rw [e3]; unfold U32; omega
    have hBk := back_told (ep := e1) (x := L1) Hok.out.snd (by rw [e5]; exact hsn) q0 htf hts (by omega) (t := to3) (z := z) (by omega) (by omega) HA.out.2 HA.out.1 (by rw [e5]; exact hfd)
    have hl1 : n2' ≤ 40 := by rw [← S4.out.2.1.sp.len, e5]; exact hsn.len
    obtain ⟨e2, he2⟩ : ∃ e2, (e1 + 1) % 4294967296 = e2 := ⟨_, rfl⟩
    rw [he2] at hBk
    have HEp := asd (show e1 = (mp + 1) % 4294967296 ∧ (e1 + 1) % 4294967296 = e2 ∧ U32 mp from ⟨e3, he2, Hok.out.ep⟩)
    have CS2 := asd (show ∀ W, MB W xb e1 a2 n2' c2 L1 → Calls Try.prog 14 #[.agg #[.int .u32 e1, .slice a2 n2' c2], .int .i64 ss, .int .i64 3, .int .i64 fa, .int .i64 tb, .int .i64 z] W (SpOut .u16 (e2, mL, 0) W) from fun W hm => by have := split_any e1 a2 n2' c2 L1 ss 3 fa tb z W hm.sp hep1 (by unfold maxLen; omega); rwa [hBk] at this)
    clear h1 HT hsn hfd e3 e5 hBk he2 hl1 hep1
    have CS3 := asd (show ∀ W, Below W4.heap.size W4 W → Calls Try.prog 14 #[.agg #[.int .u32 e1, .slice a2 n2' c2], .int .i64 ss, .int .i64 3, .int .i64 fa, .int .i64 tb, .int .i64 z] W fun e w' => ∃ a3 n3 c3, e = .returned (.tuple #[.agg #[.int .u32 e2, .slice a3 n3 c3], .int .u16 0]) ∧ Aside (Sps w' a3 n3 c3 mL ∧ Below W4.heap.size W4 w' ∧ Below W.heap.size W w' ∧ (∀ p, a3 = some p → W.heap.size ≤ p.block)) from fun W hb => (CS2.out W (S4.out.2.1.keep hb)).mono fun e w' ⟨a3, n3, c3, g1, g2, g4, g3⟩ => ⟨a3, n3, c3, g1, g2, hb.trans (g3.mono hb.size), g3, g4⟩)
    have HD : Aside (Below W4.heap.size W4 W4.drew) := (Below.refl _ _).drew
    have HD2 : Aside (Below W4.heap.size W4 (W4.alloc (.cells #[.int .u32 0, .slice none 0 0] 29)).drew) := ((Below.refl _ _).alloc (Nat.le_refl _) _).drew
    have HX : Aside (Bx (W4.alloc (.cells #[.int .u32 0, .slice none 0 0] 29)).drew W4.heap.size #[.int .u32 0, .slice none 0 0] 29) := Bx.new _ _ _
    have p0 := S4.out.2.1.c0
    have p1 := S4.out.2.1.c1
    have c0 := S4.out.2.2.2
    have hl1 : xb < W4.heap.size := cell_lt p0
    have hl2 : bN < W4.heap.size := cell_lt c0
    go_upto_region 12 with fail
    go_cut [15, 16] from 74 to 84 (fun v15 v16 wx => ∃ h a3 n3 c3, v15 = .pointer (some ⟨h, 0, none⟩) ∧ v16 = .int .u16 0 ∧ Aside (MB wx h e2 a3 n3 c3 mL ∧ Below W4.heap.size W4 wx))
    case first =>
      go_region_with (go_at_call 14; first
        | ((with_reducible refine Calls.mono (CS3.out _ HD.out) ?_); rintro e w5 ⟨a3, n3, c3, rfl, hw5⟩)
        | ((with_reducible refine Calls.mono (CS3.out _ HD2.out) ?_); rintro e w5 ⟨a3, n3, c3, rfl, hw5⟩; have hx := HX.out.below hw5.out.2.2.1; have v0 := hx.cell (j := 0) (x := .int .u32 0) rfl; have v1 := hx.cell (j := 1) (x := .slice none 0 0) rfl; have f0 := hx.frz 0; have f1 := hx.frz 1))
      all_goals
        go_wp2_with fail
        go_meet
        refine ⟨_, a3, n3, c3, rfl, rfl, ?_⟩
        first
          | exact ⟨MB.new hw5.out.1, hw5.out.2.1.alloc hw5.out.2.1.size _⟩
          | exact ⟨⟨hx.set2 _ _, (hw5.out.1.other (fun p hp => by have := hw5.out.2.2.2 p hp; simp at this; omega) _ _).other (fun p hp => by have := hw5.out.2.2.2 p hp; simp at this; omega) _ _⟩, (hw5.out.2.1.setCell (Nat.le_refl _) _).setCell (Nat.le_refl _) _⟩
    case rest =>
      obtain ⟨h, a3, n3, c3, rfl, rfl, HR⟩ := hcut
      obtain ⟨W5, hW5⟩ : ∃ W5, wc = W5 := ⟨_, rfl⟩
      rw [hW5] at HR ⊢
      clear hW5 HD HD2 HX CS3 CS2 p0 p1 c0 hl1 hl2
      have S5 := asd (show MB W5 mb mp am nm cm mL ∧ MB W5 h e2 a3 n3 c3 mL ∧ Below w.heap.size w W5 from ⟨S4.out.1.keep HR.out.2, HR.out.1, S4.out.2.2.1.trans (HR.out.2.mono S4.out.2.2.1.size)⟩)
      have hmm : n3 = nm := by rw [← S5.out.2.1.sp.len, S5.out.1.sp.len]
      subst hmm
      have w9 : IntKind.u32.wrap (mp + 2) = e2 := by
        obtain ⟨g1, g2, g3⟩ := HEp.out
        unfold U32 at g3
        show (mp + 2) % 4294967296 = e2
        omega
      have hne : ¬ e2 = mp := by
        obtain ⟨g1, g2, g3⟩ := HEp.out
        unfold U32 at g3
        omega
      have HSa := asd (show ∀ W, Below W5.heap.size W5 W → Calls Try.prog 15 #[.agg #[.int .u32 e2, .slice a3 n3 c3], .agg #[.int .u32 mp, .slice am n3 cm]] W fun e w' => e = .returned (.bool false) ∧ Below W.heap.size W w' from fun W hb => (same_any W e2 mp a3 am mL mL n3 n3 c3 cm (S5.out.2.1.sp.keep hb) (S5.out.1.sp.keep hb)).mono fun e w' ⟨g1, g2⟩ => ⟨by rw [g1, decide_eq_false hne]; rfl, g2⟩)
      have p0 := S5.out.1.c0
      have p1 := S5.out.1.c1
      have p2 := S5.out.2.1.c0
      have p3 := S5.out.2.1.c1
      clear hne S4 HA HR
      go_wp2_with fail
      go_loopg [17] n3 (fun g1 v17 wr => ∃ (k : Nat), v17 = .int .i64 k ∧ k ≤ n3 ∧ n3 - k ≤ g1 ∧ Aside (Below W5.heap.size W5 wr))
      case atStart => exact ⟨0, rfl, Nat.zero_le _, Nat.le_refl _, Below.refl _ _⟩
      case round =>
        clear p0 p1 p2 p3
        obtain ⟨k, rfl, hk, hg1, SK⟩ := hrel
        have p0 := (S5.out.1.keep SK.out).c0
        have p1 := (S5.out.1.keep SK.out).c1
        have p2 := (S5.out.2.1.keep SK.out).c0
        have p3 := (S5.out.2.1.keep SK.out).c1
        by_cases hlt : k < n3
        · have hltz : (k : Int) < (n3 : Int) := by omega
          have hkl : k < mL.length := by rw [S5.out.1.sp.len]; exact hlt
          obtain ⟨b1, o1, ha1, hc1⟩ := (S5.out.1.sp.mem.keep SK.out).get hkl
          obtain ⟨b2, o2, ha2, hc2⟩ := (S5.out.2.1.sp.mem.keep SK.out).get hkl
          subst ha1 ha2
          obtain ⟨u1, u2, -, -⟩ := hc1 k hkl
          obtain ⟨u3, u4, -, -⟩ := hc2 k hkl
          clear hc1 hc2
          generalize (spn mL k).1 = x at u1 u3
          generalize (spn mL k).2 = y at u2 u4
          go_wp2_with fail
          go_quiet (fail)
          have SB := asd (show Below W5.heap.size W5 (wr.drewN nq) from below_drewN SK.out nq)
          go_wp2
          go_roundg (n3 - (k + 1))
          case measure => omega
          case rel => exact ⟨k + 1, by go_num, by omega, by omega, SB.out⟩
        · have hltz : ¬ (k : Int) < (n3 : Int) := by omega
          have HBW := asd (S5.out.2.2.trans (SK.out.mono S5.out.2.2.size))
          go_wp2_with (first
            | (go_at_call 13; refine (hK _).mono ?_; rintro e w6 ⟨rfl, hb6⟩; have p4 := (S5.out.1.keep (SK.out.trans (hb6.mono SK.out.size))).c0; have p5 := (S5.out.1.keep (SK.out.trans (hb6.mono SK.out.size))).c1; have p6 := (S5.out.2.1.keep (SK.out.trans (hb6.mono SK.out.size))).c0; have p7 := (S5.out.2.1.keep (SK.out.trans (hb6.mono SK.out.size))).c1)
            | (go_at_call 15; (with_reducible refine Calls.mono (HSa.out _ (SK.out.trans (hb6.mono SK.out.size))) ?_); rintro e w7 ⟨rfl, hb7⟩))
          go_ret
          exact ⟨rfl, HBW.out.trans ((hb6.trans (hb7.mono hb6.size)).mono HBW.out.size)⟩
end Go.Proofs.Ytfhihkogdnbghaa.spans
