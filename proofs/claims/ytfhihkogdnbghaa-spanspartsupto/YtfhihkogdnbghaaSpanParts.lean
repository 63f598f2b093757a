/-
  The contract of spans.Parts.
-/
import Derived.Test.YtfhihkogdnbghaaSpanFacts
import Derived.Test.YtfhihkogdnbghaaSpanFind
import Derived.Test.YtfhihkogdnbghaaByteGrows
import Derived.Deep.RegionHeldLaw
namespace Go.Proofs.Ytfhihkogdnbghaa.spans
open Go.ChangeShapes Go.WideShapes Go.ChangeAt Go.RowKit Go.Deep
open Go.Proofs.Ytfhihkogdnbghaa.bytes (ret_bool hid nth addr_add cell_lt own_below own_mono Grw wp_region_grow grow_same grow_of)
set_option linter.unusedVariables false
set_option maxRecDepth 100000
set_option linter.unusedSimpArgs false

theorem part_skip {l : List Sp} {fs : List Ft} {node : Int} {k : Nat} (hk : k < fs.length) (h : inPart l node (ftn fs k) = false) : (fs.take (k + 1)).filter (inPart l node) = (fs.take k).filter (inPart l node) := by
  rw [take_ftn fs k hk, List.filter_append, List.filter_cons_of_neg (by simp [h])]; simp
theorem part_take {l : List Sp} {fs : List Ft} {node : Int} {k : Nat} (hk : k < fs.length) (h : inPart l node (ftn fs k) = true) : (fs.take (k + 1)).filter (inPart l node) = (fs.take k).filter (inPart l node) ++ [ftn fs k] := by
  rw [take_ftn fs k hk, List.filter_append, List.filter_cons_of_pos h]; rfl
/-- what stays of three reads over new memory -/
theorem three_keep {W0 w1 w2 : World} {B b : Nat} {x0 x1 : Value} (hb : Below w1.heap.size w1 w2) (h : Below B W0 w1 ∧ B ≤ w1.heap.size ∧ w1.cell? ⟨b, 0, none⟩ = some x0 ∧ w1.cell? ⟨b, 1, none⟩ = some x1) : Below B W0 w2 ∧ B ≤ w2.heap.size ∧ w2.cell? ⟨b, 0, none⟩ = some x0 ∧ w2.cell? ⟨b, 1, none⟩ = some x1 := by
  obtain ⟨h1, h2, h3, h4⟩ := h
  exact ⟨h1.trans (hb.mono h2), Nat.le_trans h2 hb.size, (hb.cell (p := ⟨b, 0, none⟩) (cell_lt h3)).trans h3, (hb.cell (p := ⟨b, 1, none⟩) (cell_lt h4)).trans h4⟩
theorem three_grown {W0 w1 w2 : World} {B b : Nat} {x0 x1 : Value} {row : Option Nat} (hg : w1.grownBy w2 row) (hr : ∀ q, row = some q → B ≤ q) (hne : row ≠ some b) (h : Below B W0 w1 ∧ B ≤ w1.heap.size ∧ w1.cell? ⟨b, 0, none⟩ = some x0 ∧ w1.cell? ⟨b, 1, none⟩ = some x1) : Below B W0 w2 ∧ B ≤ w2.heap.size ∧ w2.cell? ⟨b, 0, none⟩ = some x0 ∧ w2.cell? ⟨b, 1, none⟩ = some x1 := by
  obtain ⟨h1, h2, h3, h4⟩ := h
  have hb := (Below.refl B w1).grown hg h2 hr
  exact ⟨h1.trans hb, Nat.le_trans h2 hg.size, (hg.cell (a := ⟨b, 0, none⟩) h3 fun e => hne e.symm), (hg.cell (a := ⟨b, 1, none⟩) h4 fun e => hne e.symm)⟩
theorem cells_two_new (w : World) (x0 x1 : Value) (t : TypeId) : ∀ j u, [x0, x1][j]? = some u → (w.alloc (.cells #[x0, x1] t)).cell? ((⟨w.heap.size, 0, none⟩ : Addr).add j) = some u := by
  intro j u hj
  match j, hj with
  | 0, hj => simp at hj; subst hj; simp [Addr.add, go_sem]
  | 1, hj => simp at hj; subst hj; simp [Addr.add, go_sem]
  | j + 2, hj => simp at hj

set_option maxRecDepth 100000 in
set_option maxHeartbeats 8000000 in
theorem parts_any (ep : Int) (a : Option Addr) (n c : Nat) (l : List Sp) (fa : Option Addr) (fn fc : Nat) (fs : List Ft) (node : Int) (w : World) (h : Sps w a n c l) (hF : FactsIn w fa fs) (hfn : fs.length = fn) (hm : fn ≤ 1000000) :
    Calls Try.prog 23 #[mapV ep a n c, .slice fa fn fc, .int .i64 node] w (FsOut w ((partsOf l fs node).map pf)) := by
  obtain ⟨W0, hW0⟩ : ∃ W0, w.alloc (.cells (mapC ep a n c) 29) = W0 := ⟨_, rfl⟩
  have hb0 : Below w.heap.size w W0 := by rw [← hW0]; exact (Below.refl _ w).alloc (Nat.le_refl _) _
  have hM : Bx W0 w.heap.size (mapC ep a n c) 29 := by rw [← hW0]; exact Bx.new _ _ _
  have HS : Aside (Sps W0 a n c l ∧ Bx W0 w.heap.size (mapC ep a n c) 29 ∧ FactsIn W0 fa fs ∧ fs.length = fn ∧ Below w.heap.size w W0) := ⟨h.keep hb0, hM, hF.keep hb0, hfn, hb0⟩
  have HW : Hid (w.alloc (.cells #[.int .u32 ep, .slice a n c] 29) = W0) := hW0
  obtain ⟨i0, hi, hz0, hz1, hz2⟩ := info_parts info_fact
  clear h hb0 hM hF hfn hW0
  unfold mapV
  go_enter Try.func23, Try.ntmps23
  go_wp2_with fail
  rw [HW.out]
  go_loopg [7, 9, 12] fn (fun g1 v7 v9 vi wr => ∃ (k : Nat), vi = .int .i64 k ∧ k ≤ fn ∧ fn - k ≤ g1 ∧ Aside (∃ gs, FsOwn W0.heap.size wr v7 gs ∧ gs.map pf = ((fs.take k).filter (inPart l node)).map pf ∧ Below W0.heap.size W0 wr ∧ gs.length ≤ k))
  case atStart => exact ⟨0, rfl, Nat.zero_le _, Nat.le_refl _, [], FsOwn.nil _ _, rfl, Below.refl _ _, Nat.le_refl _⟩
  case round =>
    obtain ⟨k, rfl, hk, hg1, SK0⟩ := hrel
    obtain ⟨gs, hO, hpf, hb, hgl⟩ := SK0.out
    have SK : Aside (FsOwn W0.heap.size wr u7 gs ∧ gs.map pf = ((fs.take k).filter (inPart l node)).map pf ∧ Below W0.heap.size W0 wr ∧ gs.length ≤ k) := ⟨hO, hpf, hb, hgl⟩
    clear SK0 hO hpf hb hgl
    by_cases hlt : k < fn
    · have hltz : (k : Int) < (fn : Int) := by omega
      have hkl : k < fs.length := by rw [HS.out.2.2.2.1]; exact hlt
      obtain ⟨b, off, ha, hc⟩ := (HS.out.2.2.1.keep SK.out.2.2.1).get hkl
      subst ha
      obtain ⟨r0, r1, hok⟩ := hc k hkl
      clear hc
      have HA : Aside ((inPart l node (ftn fs k) = false → (fs.take (k + 1)).filter (inPart l node) = (fs.take k).filter (inPart l node)) ∧ (inPart l node (ftn fs k) = true → (fs.take (k + 1)).filter (inPart l node) = (fs.take k).filter (inPart l node) ++ [ftn fs k])) := ⟨part_skip hkl, part_take hkl⟩
      obtain ⟨f, hf⟩ : ∃ f, ftn fs k = f := ⟨_, rfl⟩
      rw [hf] at r0 r1 hok HA
      have HK : Aside (FtOk wr f) := hok
      have HI0 : Aside (Ints W0 f.a f.k) := by rw [← hf]; exact (HS.out.2.2.1.all _ (ftn_mem hkl)).mem
      clear hok hf
      obtain ⟨kn, hkn⟩ : ∃ kn, f.k.length = kn := ⟨_, rfl⟩
      have HFN : Hid (f.k.length = kn) := hkn
      rw [hkn] at r0
      have hk8 : kn * 8 ≤ 140737488355328 := by rw [← hkn]; exact HK.out.len
      clear hkn
      obtain ⟨fv, hfv⟩ : ∃ fv, f.v = fv := ⟨_, rfl⟩
      have HFV : Hid (f.v = fv) := hfv
      rw [hfv] at r1
      clear hfv
      go_upto_region 5 with fail
      obtain ⟨W1, hW1⟩ : ∃ W1, wr.alloc (.cells #[.slice f.a kn f.cap, .int .i64 fv] 56) = W1 := ⟨_, rfl⟩
      have hbA : Below wr.heap.size wr W1 := by rw [← hW1]; exact (Below.refl _ _).alloc (Nat.le_refl _) _
      have hX : Bx W1 wr.heap.size #[.slice f.a kn f.cap, .int .i64 fv] 56 := by rw [← hW1]; exact Bx.new _ _ _
      rw [hW1]
      have hltb : wr.heap.size < W1.heap.size := hX.lt
      have e0 := hX.cell (j := 0) (x := .slice f.a kn f.cap) rfl
      have e1 := hX.cell (j := 1) (x := .int .i64 fv) rfl
      have hneb : ∀ q, u7.ownBlock = some q → q < wr.heap.size := fun q hq => (SK.out.1.own.lt q hq).2
      have SK1 : Aside (FsOwn W0.heap.size W1 u7 gs ∧ gs.map pf = ((fs.take k).filter (inPart l node)).map pf ∧ Below W0.heap.size W0 W1 ∧ gs.length ≤ k ∧ FtOk W1 f ∧ Bx W1 wr.heap.size #[.slice f.a kn f.cap, .int .i64 fv] 56 ∧ W0.heap.size ≤ wr.heap.size) := ⟨SK.out.1.keep hbA, SK.out.2.1, SK.out.2.2.1.trans (hbA.mono SK.out.2.2.1.size), SK.out.2.2.2, HK.out.keep hbA, hX, SK.out.2.2.1.size⟩
      clear hX hW1 hbA r0 r1 SK HK
      obtain ⟨rb, hrb⟩ : ∃ rb, wr.heap.size = rb := ⟨_, rfl⟩
      rw [hrb] at SK1 e0 e1 hltb hneb ⊢
      clear hrb
      by_cases h0 : kn = 0
      · have hz : ¬ (0 : Int) < (kn : Int) := by omega
        have hzn : ¬ 0 < kn := by omega
        have hzd : decide (0 < kn) = false := decide_eq_false hzn
        have E : Aside ((fs.take (k + 1)).filter (inPart l node) = (fs.take k).filter (inPart l node)) := HA.out.1 (by unfold inPart; rw [HFN.out, h0]; rfl)
        clear HA h0
        go_quiet (fail)
        have S2 : Aside (∃ gs, FsOwn W0.heap.size (W1.drewN nq) u7 gs ∧ gs.map pf = ((fs.take (k + 1)).filter (inPart l node)).map pf ∧ Below W0.heap.size W0 (W1.drewN nq) ∧ gs.length ≤ k + 1) := by
          have hd : Below W1.heap.size W1 (W1.drewN nq) := below_drewN (Below.refl _ _) nq
          exact ⟨gs, SK1.out.1.keep hd, by rw [E.out]; exact SK1.out.2.1, below_drewN SK1.out.2.2.1 nq, Nat.le_succ_of_le SK1.out.2.2.2.1⟩
        clear SK1 e0 e1
        generalize W1.drewN nq = W2 at S2 ⊢
        go_wp2
        go_roundg (fn - (k + 1))
        case measure => omega
        case rel => exact ⟨k + 1, by go_num, by omega, by omega, S2.out⟩
      · have hz : (0 : Int) < (kn : Int) := by omega
        have hzn : 0 < kn := by omega
        have hzd : decide (0 < kn) = true := decide_eq_true hzn
        obtain ⟨kb, ko, hka, hkc⟩ := SK1.out.2.2.2.2.1.mem.get (k := 0) (by rw [HFN.out]; omega)
        have k0 := hkc 0 (by rw [HFN.out]; omega)
        simp only [Nat.add_zero] at k0
        clear hkc
        obtain ⟨q, hq⟩ : ∃ q, decide (find l (key0 f) = node) = q := ⟨_, rfl⟩
        have HQ : Aside (inPart l node f = q) := by
          show _ = _
          unfold inPart
          rw [hq, HFN.out, decide_eq_true (show 0 < kn by omega), Bool.true_and]
        obtain ⟨z, hzz⟩ : ∃ z, find l (key0 f) = z := ⟨_, rfl⟩
        have hFn : ∀ W, Below W1.heap.size W1 W → Calls Try.prog 19 #[.agg #[.int .u32 ep, .slice a n c], .int .i64 (nth f.k 0)] W fun e w' => e = .returned (.int .i64 z) ∧ Below W.heap.size W w' := fun W hb => by
          rw [← hzz]
          exact find_any ep a n c l (key0 f) W ((HS.out.1.keep SK1.out.2.2.1).keep hb)
        rw [hzz] at hq
        clear hzz
        generalize nth f.k 0 = v0 at k0 hFn
        have HQ2 : Hid (decide (z = node) = q) := hq
        clear hq
        have m0 := (HS.out.2.1.below SK1.out.2.2.1).cell (j := 0) (x := .int .u32 ep) rfl
        have m1 := (HS.out.2.1.below SK1.out.2.2.1).cell (j := 1) (x := .slice a n c) rfl
        rw [hka] at e0 SK1
        have E0 := fun gw : Grw W1 => gw.cell e0
        have E1 := fun gw : Grw W1 => gw.cell e1
        have K0 := fun gw : Grw W1 => gw.cell k0
        have M0 := fun gw : Grw W1 => gw.cell m0
        have M1 := fun gw : Grw W1 => gw.cell m1
        have hFg := fun gw : Grw W1 => hFn gw.X gw.bel
        have D1 : Aside (∀ gw : Grw W1, gw.X.cell? ⟨rb, 0, none⟩ = some (.slice (some ⟨kb, ko, none⟩) kn f.cap) ∧ gw.X.cell? ⟨rb, 1, none⟩ = some (.int .i64 fv) ∧ FsOwn W0.heap.size gw.X u7 gs ∧ Below W0.heap.size W0 gw.X ∧ FtOk gw.X f ∧ rb < gw.X.heap.size) := fun gw => ⟨gw.cell e0, gw.cell e1, SK1.out.1.keep gw.bel, SK1.out.2.2.1.trans (gw.bel.mono SK1.out.2.2.1.size), SK1.out.2.2.2.2.1.keep gw.bel, Nat.lt_of_lt_of_le hltb gw.bel.size⟩
        clear e0 e1 k0 m0 m1 hFn
        have hNE : Nonempty (Grw W1) := ⟨⟨W1, Below.refl _ _⟩⟩
        refine wp_region_grow (by kernel_rfl) (by kernel_rfl) ?_
        repeat (go_big_quiet_step (first | (go_at_call 19; refine grow_of (hFg _))))
        refine wpQuiet_nil ?_
        rintro _ ⟨gw, rfl⟩
        obtain ⟨d0, d1, hO2, hB2, hK2, hrl⟩ := D1.out gw
        have S2 : Aside (FsOwn W0.heap.size gw.X u7 gs ∧ gs.map pf = ((fs.take k).filter (inPart l node)).map pf ∧ Below W0.heap.size W0 gw.X ∧ gs.length ≤ k) := ⟨hO2, SK1.out.2.1, hB2, SK1.out.2.2.2.1⟩
        have HKL : Aside (FtOk gw.X f) := hK2
        clear hO2 hB2 hK2 D1 E0 E1 K0 M0 M1 hFg SK1
        generalize gw.X = W2 at S2 d0 d1 HKL hrl ⊢
        clear hNE gw hltb
        by_cases he : z = node
        rotate_left
        · have hq1 : (z == node) = false := by simp [he]
          have E : Aside ((fs.take (k + 1)).filter (inPart l node) = (fs.take k).filter (inPart l node)) := HA.out.1 (by rw [HQ.out, ← HQ2.out]; exact decide_eq_false he)
          have S3 : Aside (∃ gs, FsOwn W0.heap.size W2 u7 gs ∧ gs.map pf = ((fs.take (k + 1)).filter (inPart l node)).map pf ∧ Below W0.heap.size W0 W2 ∧ gs.length ≤ k + 1) := ⟨gs, S2.out.1, by rw [E.out]; exact S2.out.2.1, S2.out.2.2.1, Nat.le_succ_of_le S2.out.2.2.2⟩
          clear he d0 d1 S2 HKL
          go_wp2
          go_roundg (fn - (k + 1))
          case measure => omega
          case rel => exact ⟨k + 1, by go_num, by omega, by omega, S3.out⟩
        have hq1 : (z == node) = true := by simp [he]
        have E : Aside ((fs.take (k + 1)).filter (inPart l node) = (fs.take k).filter (inPart l node) ++ [f]) := HA.out.2 (by rw [HQ.out, ← HQ2.out]; exact decide_eq_true he)
        clear he
        have KI : Aside (∀ W, Below W0.heap.size W0 W → Ints W (some ⟨kb, ko, none⟩) f.k) := fun W hW => by
          rw [← hka]
          exact (HI0.out.keep hW)
        obtain ⟨gl, hgl⟩ : ∃ gl, gs.length = gl := ⟨_, rfl⟩
        have HGL : Aside (gs.length = gl) := hgl
        have hglk : gl ≤ 1000000 := by rw [← hgl]; have := S2.out.2.2.2; omega
        have hown : W2.ownsRow W0.heap.size 56 2 u7 gl (flatF gs) := by rw [← hgl]; exact S2.out.1.own
        have hbq : ∀ q, u7.ownBlock = some q → W0.heap.size ≤ q := fun q hq => (hown.lt q hq).1
        have hne2 : u7.ownBlock ≠ some rb := fun e => by have := hneb _ e; omega
        have hbl := S2.out.2.2.1
        have hsz := hbl.size
        clear hgl hneb HKL
        have hka2 := hka
        clear hka
        go_wp2_with fail
        go_region_held_law (fun w' => Below W0.heap.size W0 w' ∧ W0.heap.size ≤ w'.heap.size ∧ w'.cell? ⟨rb, 0, none⟩ = some (.slice (some ⟨kb, ko, none⟩) kn f.cap) ∧ w'.cell? ⟨rb, 1, none⟩ = some (.int .i64 fv))
          (first | assumption | (exact ⟨hbl.drew, hsz, d0, d1⟩) | (exact ⟨hbl, hsz, d0, d1⟩) | (refine three_keep (W0 := W0) (B := W0.heap.size) (b := rb) (x0 := .slice (some ⟨kb, ko, none⟩) kn f.cap) (x1 := .int .i64 fv) hb3 ?_; assumption) | (refine three_keep (W0 := W0) (B := W0.heap.size) (b := rb) (x0 := .slice (some ⟨kb, ko, none⟩) kn f.cap) (x1 := .int .i64 fv) ((Below.refl _ _).alloc (Nat.le_refl _) _) ?_; assumption) | (refine three_grown (W0 := W0) (B := W0.heap.size) (b := rb) (x0 := .slice (some ⟨kb, ko, none⟩) kn f.cap) (x1 := .int .i64 fv) hgrow hbq hne2 ?_; assumption))
          (first | (go_at_call 42; refine (clone_any _ (some ⟨kb, ko, none⟩) f.k kn f.cap (KI.out _ (by apply And.left; assumption)) HFN.out hzn hk8).mono ?_; rintro e w3 ⟨gk, ck, rfl, ho3, hb3⟩) | (refine step_append_lies _ rfl (.tmp 30) (.tmp 37) 46 rfl W0.heap.size 56 i0 _ 2 32 Try.underlying46 hi hz0 hz1 hz2 rfl (by decide) u7 gl (flatF gs) rfl ((own_below hown.drew hb3).alloc _) ⟨w3.heap.size, 0, none⟩ 1 1 [.slice (some ⟨gk, 0, none⟩) kn ck, .int .i64 fv] rfl rfl (cells_two_new _ _ _ _) (by intro u hu; simp at hu; rcases hu with rfl | rfl <;> rfl) (by decide) (by unfold maxLen; omega) (by omega) (by have := hb3.size; have e : W2.drew.heap.size = W2.heap.size := rfl; simp; omega) _ rfl ?_; intro g4 cap4 w4 hown4 hgrow hat hglt))
        have S4 : Aside (∃ gs, FsOwn W0.heap.size w4 (.slice (some ⟨g4, 0, none⟩) (gl + 1) cap4) gs ∧ gs.map pf = ((fs.take (k + 1)).filter (inPart l node)).map pf ∧ Below W0.heap.size W0 w4 ∧ gs.length ≤ k + 1) := by
          have hb : Below W2.heap.size W2 w3 := ((Below.refl _ _).drew).trans hb3
          have ka := (Below.refl _ w3).alloc (Nat.le_refl _) (.cells #[.slice (some ⟨gk, 0, none⟩) kn ck, .int .i64 fv] 56)
          have hb4 := S2.out.2.2.1.trans ((hb.trans (ka.mono hb.size)).mono hsz)
          refine ⟨gs ++ [⟨some ⟨gk, 0, none⟩, ck, f.k, fv⟩], ((S2.out.1.keep hb).keep ka).push ?_ ?_ hgrow, ?_, ?_, ?_⟩
          · show IntsOwn _ _ (.slice (some ⟨gk, 0, none⟩) f.k.length ck) f.k
            rw [HFN.out]
            exact (ho3.mono hsz).keep ka
          · unfold Fo
            rw [flatF_app, List.length_append, HGL.out]
            show w4.ownsRow _ _ _ _ _ (flatF gs ++ [.slice (some ⟨gk, 0, none⟩) f.k.length ck, .int .i64 fv])
            rw [HFN.out]
            exact hown4
          · rw [List.map_append, S2.out.2.1, E.out, List.map_append]
            show _ ++ [(f.k, fv)] = _ ++ [(f.k, f.v)]
            rw [HFV.out]
          · exact hb4.trans ((Below.refl _ _).grown hgrow hb4.size hbq)
          · rw [List.length_append]; have := S2.out.2.2.2; simp; omega
        clear ho3 hb3 hown4 hgrow hat hglt S2 hown
        go_wp2
        go_roundg (fn - (k + 1))
        case measure => omega
        case rel => exact ⟨k + 1, by go_num, by omega, by omega, S4.out⟩
    · have hltz : ¬ (k : Int) < (fn : Int) := by omega
      have E : Aside (FsOut w ((partsOf l fs node).map pf) (.returned u7) wr) := by
        have e : fs.take k = fs := List.take_of_length_le (by rw [HS.out.2.2.2.1]; omega)
        have hp := SK.out.2.1
        rw [e] at hp
        obtain ⟨a2, c2, e2, hF2, hc2, _⟩ := SK.out.1.out (pf_len hp fun f hf => (HS.out.2.2.1.all f (List.mem_filter.1 hf).1).len)
        subst e2
        exact ⟨a2, _, c2, gs, rfl, rfl, hp, hF2, hc2, HS.out.2.2.2.2.trans (SK.out.2.2.1.mono HS.out.2.2.2.2.size)⟩
      go_wp2
      go_ret
      exact E.out
end Go.Proofs.Ytfhihkogdnbghaa.spans
