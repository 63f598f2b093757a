/-
  The walk of SpansNodes: the nodes of a range are those of its halves, each once, rising.
-/
import Derived.Test.YtfhihkogdnbghaaSpanKnown
import Derived.Test.YtfhihkogdnbghaaSpanOf
import Derived.Test.YtfhihkogdnbghaaByteGrows
namespace Go.Proofs.Ytfhihkogdnbghaa.spans
open Go.ChangeShapes Go.WideShapes Go.ChangeAt Go.RowKit Go.Deep
open Go.Proofs.Ytfhihkogdnbghaa.bytes (ret_bool hid nth addr_add cell_lt own_below own_mono Grw wp_region_grow grow_same grow_of)
set_option linter.unusedVariables false
set_option maxRecDepth 100000
set_option linter.unusedSimpArgs false


theorem nodes_halves {l : List Sp} {a k b : Int} (h0 : 0 ≤ a) (h1 : a ≤ k) (h2 : k ≤ b) (h3 : b ≤ 10000) (x : Int) : x ∈ nodesOf l a b ↔ x ∈ nodesOf l a k ∨ x ∈ nodesOf l k b := by
  rw [nodes_mem, nodes_mem, nodes_mem]
  constructor
  · rintro ⟨hx, v, hv1, hv2, hv3⟩
    by_cases hk : v < k
    · exact .inl ⟨hx, v, by omega, by omega, hv3⟩
    · exact .inr ⟨hx, v, by omega, by omega, hv3⟩
  · rintro (⟨hx, v, hv1, hv2, hv3⟩ | ⟨hx, v, hv1, hv2, hv3⟩)
    · exact ⟨hx, v, by omega, by omega, hv3⟩
    · exact ⟨hx, v, by omega, by omega, hv3⟩
theorem nodes_none (l : List Sp) (a : Int) : nodesOf l a a = [] := by
  refine List.filter_eq_nil_iff.2 fun x hx => ?_
  intro h
  obtain ⟨v, h1, h2, _⟩ := holdsB_iff.1 h
  omega
theorem nodes_some {s n : Int} {l : List Sp} {a b : Int} (h : Snd s n l) (h0 : 0 ≤ a) (h1 : a < b) (h3 : b ≤ 10000) : 0 < (nodesOf l a b).length := by
  have hf := h.find_ok h0
  have : find l a ∈ nodesOf l a b := nodes_mem.2 ⟨⟨hf.1, by omega⟩, a, by omega, by omega, rfl⟩
  exact List.length_pos_of_mem this
theorem nodes_lt {l : List Sp} {a b : Int} {i : Nat} (hi : i + 1 < (nodesOf l a b).length) : nth (nodesOf l a b) i < nth (nodesOf l a b) (i + 1) := by
  rw [nth_eq (by omega), nth_eq hi]
  exact List.pairwise_iff_getElem.1 (nodes_rise l a b) i (i + 1) (by omega) hi (by omega)

set_option maxRecDepth 100000 in
set_option maxHeartbeats 4000000 in
theorem nodesLaw_walk (a : Option Addr) (n c : Nat) (cs : List Ct) (x0 x1 x2 x3 : Int) (w : World) (hC : CutsIn w a cs) (hn : cs.length = n) (hn9 : n ≤ 9223372036854775807) (t0 : 0 ≤ x0 ∧ x0 ≤ 65535) (t1 : 0 ≤ x1 ∧ x1 ≤ 65535) (t3 : 0 ≤ x3 ∧ x3 ≤ 65535) :
    Calls Try.prog 4 #[.slice a n c, .agg #[.int .u16 x0, .int .u16 x1, .int .u8 x2], .int .u16 x3] w fun e w' => e = .returned (.bool true) ∧ Below w.heap.size w w' := by
  obtain ⟨t00, t01⟩ := t0
  obtain ⟨t10, t11⟩ := t1
  obtain ⟨t30, t31⟩ := t3
  obtain ⟨W0, hW0⟩ : ∃ W0, w.alloc (.cells #[.int .u16 x0, .int .u16 x1, .int .u8 x2] 25) = W0 := ⟨_, rfl⟩
  have hb0 : Below w.heap.size w W0 := by rw [← hW0]; exact (Below.refl _ w).alloc (Nat.le_refl _) _
  have hR : Bx W0 w.heap.size #[.int .u16 x0, .int .u16 x1, .int .u8 x2] 25 := by rw [← hW0]; exact Bx.new _ _ _
  have hOf := of_any a n c cs 200 4 W0 (hC.keep hb0) hn hn9 (by omega) (by omega)
  have hok := ofM_ok (s := 200) (n := 4) (by omega) (by omega) (cs.take 30)
  generalize ofM 200 4 (cs.take 30) = M at hOf hok
  have HOf : Aside (_) := hOf
  have HW : Hid (w.alloc (.cells #[.int .u16 x0, .int .u16 x1, .int .u8 x2] 25) = W0) := hW0
  have HB : Aside (Below w.heap.size w W0 ∧ Bx W0 w.heap.size #[.int .u16 x0, .int .u16 x1, .int .u8 x2] 25 ∧ MOk 200 4 M) := ⟨hb0, hR, hok⟩
  have hK := fun W => known_any W
  clear hb0 hR hC hn hW0 hOf hok
  go_enter Try.func4, Try.ntmps4
  go_wp2_with fail
  rw [HW.out]
  go_wp2_with (go_at_call 11; refine Calls.mono HOf.out ?_; rintro e w1 ⟨am, nm, cm, rfl, hsp, hnm, hb1⟩; unfold mapV; refine Hid.out ?_)
  refine hid ?_
  obtain ⟨W1, hW1⟩ : ∃ W1, w1.alloc (.cells (mapC M.1 am nm cm) 29) = W1 := ⟨_, rfl⟩
  have ka : Below w1.heap.size w1 W1 := by rw [← hW1]; exact (Below.refl _ w1).alloc (Nat.le_refl _) _
  have hX : Bx W1 w1.heap.size (mapC M.1 am nm cm) 29 := by rw [← hW1]; exact Bx.new _ _ _
  have hR1 := (HB.out.2.1.below hb1).below ka
  have HB1 : Aside (Below w.heap.size w W1) := HB.out.1.trans ((hb1.trans (ka.mono hb1.size)).mono HB.out.1.size)
  have HS : Aside (Sps W1 am nm cm M.2 ∧ nm ≤ maxLen) := ⟨hsp.keep ka, by unfold maxLen; omega⟩
  have HW1 : Hid (w1.alloc (.cells #[.int .u32 M.1, .slice am nm cm] 29) = W1) := hW1
  obtain ⟨mb, hmb⟩ : ∃ mb, w1.heap.size = mb := ⟨_, rfl⟩
  rw [hmb] at hX
  have HMb : Hid (w1.heap.size = mb) := hmb
  have HP : Aside (∀ W, Below W1.heap.size W1 W → W.cell? ⟨mb, 0, none⟩ = some (.int .u32 M.1) ∧ W.cell? ⟨mb, 1, none⟩ = some (.slice am nm cm)) := fun W hb => ⟨(hX.below hb).cell (j := 0) rfl, (hX.below hb).cell (j := 1) rfl⟩
  have p0 := hX.cell (j := 0) (x := .int .u32 M.1) rfl
  have p1 := hX.cell (j := 1) (x := .slice am nm cm) rfl
  have r0 := hR1.cell (j := 0) (x := .int .u16 x0) rfl
  have r1 := hR1.cell (j := 1) (x := .int .u16 x1) rfl
  -- the numbers
  obtain ⟨fa, hfa⟩ : ∃ fa, x0 % 200 = fa := ⟨_, rfl⟩
  have q0 : 0 ≤ fa := by rw [← hfa]; exact Int.emod_nonneg _ (by omega)
  have q1 : fa < 200 := by rw [← hfa]; exact Int.emod_lt_of_pos _ (by omega)
  obtain ⟨rb, hrb⟩ : ∃ rb, x1 % (200 - fa) = rb := ⟨_, rfl⟩
  have q2 : 0 ≤ rb := by rw [← hrb]; exact Int.emod_nonneg _ (by omega)
  have q3 : rb < 200 - fa := by rw [← hrb]; exact Int.emod_lt_of_pos _ (by omega)
  have y0 : x0.tmod 200 = fa := by rw [tmod_pos t00, hfa]
  have y1 : x1.tmod (200 - fa) = rb := by rw [tmod_pos t10, hrb]
  obtain ⟨tb, htb⟩ : ∃ tb, fa + 1 + rb = tb := ⟨_, rfl⟩
  obtain ⟨rk, hrk⟩ : ∃ rk, x3 % (tb - fa + 1) = rk := ⟨_, rfl⟩
  have q4 : 0 ≤ rk := by rw [← hrk]; exact Int.emod_nonneg _ (by omega)
  have q5 : rk < tb - fa + 1 := by rw [← hrk]; exact Int.emod_lt_of_pos _ (by omega)
  have y3 : x3.tmod (tb - fa + 1) = rk := by rw [tmod_pos t30, hrk]
  obtain ⟨kb, hkb⟩ : ∃ kb, fa + rk = kb := ⟨_, rfl⟩
  have ns1 : ¬ 200 - fa = 0 := by omega
  have ns3 : ¬ tb - fa + 1 = 0 := by omega
  have hb200 : tb ≤ 200 := by omega
  have htf : fa < tb := by omega
  have hk1 : fa ≤ kb := by omega
  have hk2 : kb ≤ tb := by omega
  -- the nodes
  have CN : ∀ f t W, Below W1.heap.size W1 W → Calls Try.prog 12 #[.agg #[.int .u32 M.1, .slice am nm cm], .int .i64 f, .int .i64 t] W fun e w' => ∃ a2 q c2, e = .returned (.slice a2 q c2) ∧ Aside (q = (nodesOf M.2 f t).length ∧ Ints w' a2 (nodesOf M.2 f t) ∧ Below W.heap.size W w') ∧ q ≤ 6 := fun f t W hb => nodesS_any M.1 am nm cm M.2 f t W (HS.out.1.keep hb) HS.out.2
  have HCN := asd CN
  have HA : Aside ((∀ x, x ∈ nodesOf M.2 fa tb ↔ x ∈ nodesOf M.2 fa kb ∨ x ∈ nodesOf M.2 kb tb) ∧ 0 < (nodesOf M.2 fa tb).length ∧ (nodesOf M.2 fa fa).length = 0 ∧ ∀ i, i + 1 < (nodesOf M.2 fa tb).length → nth (nodesOf M.2 fa tb) i < nth (nodesOf M.2 fa tb) (i + 1)) := ⟨nodes_halves q0 hk1 hk2 (by omega), nodes_some HB.out.2.2.snd q0 htf (by omega), by rw [nodes_none]; rfl, fun i hi => nodes_lt hi⟩
  clear hfa hrb hrk CN hX hR1 ka hb1 hsp hnm hW1 hmb
  go_upto_region 2 with fail
  rw [HW1.out]
  try simp only [HMb.out]
  go_upto_region 8 with (first
    | (go_at_call 12; (with_reducible refine Calls.mono (HCN.out fa tb _ (Below.refl _ _)) ?_); rintro e w2 ⟨aA, qA, cA, rfl, hA, hqA⟩; obtain ⟨p0, p1⟩ := HP.out w2 hA.out.2.2)
    | (go_at_call 12; (with_reducible refine Calls.mono (HCN.out fa kb _ hA.out.2.2) ?_); rintro e w3 ⟨aX, qX, cX, rfl, hX, hqX⟩; obtain ⟨p0, p1⟩ := HP.out w3 (hA.out.2.2.trans (hX.out.2.2.mono hA.out.2.2.size)))
    | (go_at_call 12; (with_reducible refine Calls.mono (HCN.out kb tb _ (hA.out.2.2.trans (hX.out.2.2.mono hA.out.2.2.size))) ?_); rintro e w4 ⟨aY, qY, cY, rfl, hY, hqY⟩))
  have k3 := hA.out.2.2.trans (hX.out.2.2.mono hA.out.2.2.size)
  have k4 := k3.trans (hY.out.2.2.mono k3.size)
  have HN : Aside ((Ints w4 aA (nodesOf M.2 fa tb) ∧ qA = (nodesOf M.2 fa tb).length) ∧ (Ints w4 aX (nodesOf M.2 fa kb) ∧ qX = (nodesOf M.2 fa kb).length) ∧ (Ints w4 aY (nodesOf M.2 kb tb) ∧ qY = (nodesOf M.2 kb tb).length) ∧ Below W1.heap.size W1 w4) := ⟨⟨(hA.out.2.1.keep hX.out.2.2).keep hY.out.2.2, hA.out.1⟩, ⟨hX.out.2.1.keep hY.out.2.2, hX.out.1⟩, ⟨hY.out.2.1, hY.out.1⟩, k4⟩
  have CZ : ∀ W, Below W1.heap.size W1 W → Calls Try.prog 12 #[.agg #[.int .u32 M.1, .slice am nm cm], .int .i64 fa, .int .i64 fa] W fun e w' => ∃ a2 c2, e = .returned (.slice a2 0 c2) ∧ Below W1.heap.size W1 w' := fun W hb => (HCN.out fa fa W hb).mono fun e w' ⟨a2, q, c2, g1, g2, g3⟩ => by
    have e0 : q = 0 := by rw [g2.out.1, HA.out.2.2.1]
    subst e0
    exact ⟨a2, c2, g1, hb.trans (g2.out.2.2.mono hb.size)⟩
  have HCZ := asd CZ
  generalize nodesOf M.2 fa tb = A at HN HA
  generalize nodesOf M.2 fa kb = X at HN HA
  generalize nodesOf M.2 kb tb = Y at HN HA
  have hqA0 : 0 < qA := by rw [HN.out.1.2]; exact HA.out.2.1
  clear k3 k4 hA hX hY HCN CZ p0 p1
  clear y0 y1 y3 ns1 ns3 r0 r1 htb hkb
  go_wp2_with fail
  go_loopg [14] qA (fun g1 v14 wr => ∃ (k : Nat), v14 = .int .i64 k ∧ k ≤ qA ∧ qA - k ≤ g1 ∧ Aside (Below w4.heap.size w4 wr))
  case atStart => exact ⟨0, rfl, Nat.zero_le _, Nat.le_refl _, Below.refl _ _⟩
  case round =>
    obtain ⟨k, rfl, hk, hg1, SK⟩ := hrel
    by_cases hlt : k < qA
    · have hltz : (k : Int) < (qA : Int) := by omega
      have hkl : k < A.length := by rw [← HN.out.1.2]; exact hlt
      obtain ⟨bA, oA, ha, hc⟩ := (HN.out.1.1.keep SK.out).get hkl
      subst ha
      have a0 := hc k hkl
      have a1 := fun (h : 0 < k) => hc (k - 1) (by omega)
      have hup := fun (h : 0 < k) => HA.out.2.2.2 (k - 1) (by omega)
      have hin := (HA.out.1 (nth A k)).1 (nth_mem hkl)
      clear hc
      have cX := fun gw : Grw wr => has_any gw.X aX X qX cX (nth A k) ((HN.out.2.1.1.keep SK.out).keep gw.bel) HN.out.2.1.2.symm (by omega)
      have cY := fun gw : Grw wr => has_any gw.X aY Y qY cY (nth A k) ((HN.out.2.2.1.1.keep SK.out).keep gw.bel) HN.out.2.2.1.2.symm (by omega)
      have hor : decide (nth A k ∈ X) = true ∨ (decide (nth A k ∈ X) = false ∧ decide (nth A k ∈ Y) = true) := by
        by_cases h : nth A k ∈ X
        · exact .inl (decide_eq_true h)
        · exact .inr ⟨decide_eq_false h, decide_eq_true (hin.resolve_left h)⟩
      generalize decide (nth A k ∈ X) = dX at cX hor
      generalize decide (nth A k ∈ Y) = dY at cY hor
      clear hin
      by_cases h0 : k = 0
      · have hkz : ¬ (0 : Int) < (k : Int) := by omega
        have hkd : decide ((0 : Int) < (k : Int)) = false := decide_eq_false hkz
        have hkn : ¬ 0 < k := by omega
        have hkm : decide (0 < k) = false := decide_eq_false hkn
        generalize nth A k = x at a0 cX cY
        clear a1 hup h0
        have A0 := fun gw : Grw wr => gw.cell a0
        clear a0
        go_upto_region 11 with fail
        have hNE : Nonempty (Grw wr) := ⟨⟨wr, Below.refl _ _⟩⟩
        rcases hor with rfl | ⟨rfl, rfl⟩
        · refine wp_region_grow (by kernel_rfl) (by kernel_rfl) ?_
          repeat (go_big_quiet_step (first | (go_at_call 16; with_reducible refine grow_same (cX _)) | (go_at_call 16; with_reducible refine grow_same (cY _))))
          refine wpQuiet_nil ?_
          rintro _ ⟨gw, rfl⟩
          have S2 := asd (SK.out.trans (gw.bel.mono SK.out.size))
          go_wp2
          go_roundg (qA - (k + 1))
          case measure => omega
          case rel => exact ⟨k + 1, by go_num, by omega, by omega, S2.out⟩
        · refine wp_region_grow (by kernel_rfl) (by kernel_rfl) ?_
          repeat (go_big_quiet_step (first | (go_at_call 16; with_reducible refine grow_same (cX _)) | (go_at_call 16; with_reducible refine grow_same (cY _))))
          refine wpQuiet_nil ?_
          rintro _ ⟨gw, rfl⟩
          have S2 := asd (SK.out.trans (gw.bel.mono SK.out.size))
          go_wp2
          go_roundg (qA - (k + 1))
          case measure => omega
          case rel => exact ⟨k + 1, by go_num, by omega, by omega, S2.out⟩
      · have hk0 : 0 < k := by omega
        have B1 := a1 hk0
        have B2 := hup hk0
        clear a1 hup
        obtain ⟨k', rfl⟩ : ∃ k', k = k' + 1 := ⟨k - 1, by omega⟩
        have hkp : ((k' + 1 : Nat) : Int) - 1 = (k' : Int) := by omega
        have hkz : (0 : Int) < ((k' + 1 : Nat) : Int) := by omega
        have hkn : (k' : Int) < (qA : Int) := by omega
        rw [Nat.add_sub_cancel] at B1 B2
        generalize nth A (k' + 1) = x at a0 cX cY B2
        generalize nth A k' = y at B1 B2
        have hxy : ¬ x ≤ y := by omega
        have hxd : decide (x ≤ y) = false := decide_eq_false hxy
        have A0 := fun gw : Grw wr => gw.cell a0
        have A1 := fun gw : Grw wr => gw.cell B1
        clear a0 B1 B2 h0
        go_upto_region 11 with fail
        have hNE : Nonempty (Grw wr) := ⟨⟨wr, Below.refl _ _⟩⟩
        rcases hor with rfl | ⟨rfl, rfl⟩
        · refine wp_region_grow (by kernel_rfl) (by kernel_rfl) ?_
          repeat (go_big_quiet_step (first | (go_at_call 16; with_reducible refine grow_same (cX _)) | (go_at_call 16; with_reducible refine grow_same (cY _))))
          refine wpQuiet_nil ?_
          rintro _ ⟨gw, rfl⟩
          have S2 := asd (SK.out.trans (gw.bel.mono SK.out.size))
          go_wp2
          go_roundg (qA - (k' + 1 + 1))
          case measure => omega
          case rel => exact ⟨k' + 1 + 1, by go_num, by omega, by omega, S2.out⟩
        · refine wp_region_grow (by kernel_rfl) (by kernel_rfl) ?_
          repeat (go_big_quiet_step (first | (go_at_call 16; with_reducible refine grow_same (cX _)) | (go_at_call 16; with_reducible refine grow_same (cY _))))
          refine wpQuiet_nil ?_
          rintro _ ⟨gw, rfl⟩
          have S2 := asd (SK.out.trans (gw.bel.mono SK.out.size))
          go_wp2
          go_roundg (qA - (k' + 1 + 1))
          case measure => omega
          case rel => exact ⟨k' + 1 + 1, by go_num, by omega, by omega, S2.out⟩
    · have hltz : ¬ (k : Int) < (qA : Int) := by omega
      obtain rfl : k = qA := by omega
      obtain ⟨W5, hW5⟩ : ∃ W5, wr = W5 := ⟨_, rfl⟩
      rw [hW5] at SK ⊢
      clear hW5
      go_wp2_with fail
      go_loopg [15] qX (fun g1 v15 wr => ∃ (j : Nat), v15 = .int .i64 j ∧ j ≤ qX ∧ qX - j ≤ g1 ∧ Aside (Below w4.heap.size w4 wr))
      case atStart => exact ⟨0, rfl, Nat.zero_le _, Nat.le_refl _, SK.out⟩
      case round =>
        clear SK
        obtain ⟨j, rfl, hj, hg2, SK⟩ := hrel
        by_cases hlj : j < qX
        · have hljz : (j : Int) < (qX : Int) := by omega
          have hjl : j < X.length := by rw [← HN.out.2.1.2]; exact hlj
          obtain ⟨bX, oX, ha, hc⟩ := (HN.out.2.1.1.keep SK.out).get hjl
          subst ha
          have a0 := hc j hjl
          clear hc
          have cA := has_any wr aA A k cA (nth X j) (HN.out.1.1.keep SK.out) HN.out.1.2.symm (by omega)
          rw [decide_eq_true ((HA.out.1 (nth X j)).2 (.inl (nth_mem hjl)))] at cA
          generalize nth X j = x at a0 cA
          go_wp2_with (go_at_call 16; refine cA.mono ?_; rintro e w6 ⟨rfl, rfl⟩)
          go_roundg (qX - (j + 1))
          case measure => omega
          case rel => exact ⟨j + 1, by go_num, by omega, by omega, SK.out⟩
        · have hljz : ¬ (j : Int) < (qX : Int) := by omega
          have k5 := HN.out.2.2.2.trans (SK.out.mono HN.out.2.2.2.size)
          have HK5 := asd k5
          have hqz : (0 : Int) < (k : Int) := by omega
          clear k5
          go_wp2_with (first
            | (go_at_call 13; refine (hK _).mono ?_; rintro e w6 ⟨rfl, hb6⟩; obtain ⟨p0, p1⟩ := HP.out w6 (HK5.out.trans (hb6.mono HK5.out.size)))
            | (go_at_call 12; (with_reducible refine Calls.mono (HCZ.out _ (HK5.out.trans (hb6.mono HK5.out.size))) ?_); rintro e w7 ⟨a7, c7, rfl, hb7⟩))
          go_ret
          exact ⟨rfl, HB1.out.trans (hb7.mono HB1.out.size)⟩
end Go.Proofs.Ytfhihkogdnbghaa.spans
