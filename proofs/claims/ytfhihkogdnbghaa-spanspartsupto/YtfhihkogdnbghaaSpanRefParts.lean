/-
  The contract of the chapter's own Parts.
-/
import Derived.Test.YtfhihkogdnbghaaSpanParts
import Derived.Test.YtfhihkogdnbghaaSpanSmall
namespace Go.Proofs.Ytfhihkogdnbghaa.spans
open Go.ChangeShapes Go.WideShapes Go.ChangeAt Go.RowKit Go.Deep
open Go.Proofs.Ytfhihkogdnbghaa.bytes (ret_bool hid nth addr_add cell_lt own_below own_mono Grw wp_region_grow grow_same grow_of)
set_option linter.unusedVariables false
set_option maxRecDepth 100000
set_option linter.unusedSimpArgs false

set_option maxRecDepth 100000 in
set_option maxHeartbeats 8000000 in
theorem refParts_any (ep : Int) (a : Option Addr) (n c : Nat) (l : List Sp) (fa : Option Addr) (fn fc : Nat) (fs : List Ft) (node : Int) (w : World) (h : Sps w a n c l) (hF : FactsIn w fa fs) (hfn : fs.length = fn) (hm : fn ≤ 1000000) :
    Calls Try.prog 24 #[mapV ep a n c, .slice fa fn fc, .int .i64 node] w (FsOut w ((partsOf l fs node).map pf)) := by
  obtain ⟨W0, hW0⟩ : ∃ W0, w.alloc (.cells (mapC ep a n c) 29) = W0 := ⟨_, rfl⟩
  have hb0 : Below w.heap.size w W0 := by rw [← hW0]; exact (Below.refl _ w).alloc (Nat.le_refl _) _
  have hM : Bx W0 w.heap.size (mapC ep a n c) 29 := by rw [← hW0]; exact Bx.new _ _ _
  have HS : Aside (Sps W0 a n c l ∧ Bx W0 w.heap.size (mapC ep a n c) 29 ∧ FactsIn W0 fa fs ∧ fs.length = fn ∧ Below w.heap.size w W0) := ⟨h.keep hb0, hM, hF.keep hb0, hfn, hb0⟩
  have HW : Hid (w.alloc (.cells #[.int .u32 ep, .slice a n c] 29) = W0) := hW0
  clear h hb0 hM hF hfn hW0
  unfold mapV
  go_enter Try.func24, Try.ntmps24
  go_wp2_with fail
  rw [HW.out]
  go_loopg [7, 8] fn (fun g1 v7 vi wr => ∃ (k : Nat), vi = .int .i64 k ∧ k ≤ fn ∧ fn - k ≤ g1 ∧ Aside (Fo W0.heap.size wr v7 ((fs.take k).filter (inPart l node)) ∧ Below W0.heap.size W0 wr ∧ ((fs.take k).filter (inPart l node)).length ≤ k))
  case atStart => exact ⟨0, rfl, Nat.zero_le _, Nat.le_refl _, Fo.nil _ _, Below.refl _ _, Nat.le_refl _⟩
  case round =>
    obtain ⟨k, rfl, hk, hg1, SK⟩ := hrel
    by_cases hlt : k < fn
    · have hltz : (k : Int) < (fn : Int) := by omega
      have hkl : k < fs.length := by rw [HS.out.2.2.2.1]; exact hlt
      obtain ⟨b, off, ha, hc⟩ := (HS.out.2.2.1.keep SK.out.2.1).get hkl
      subst ha
      obtain ⟨r0, r1, hok⟩ := hc k hkl
      clear hc
      have HA : Aside ((inPart l node (ftn fs k) = false → (fs.take (k + 1)).filter (inPart l node) = (fs.take k).filter (inPart l node)) ∧ (inPart l node (ftn fs k) = true → (fs.take (k + 1)).filter (inPart l node) = (fs.take k).filter (inPart l node) ++ [ftn fs k])) := ⟨part_skip hkl, part_take hkl⟩
      obtain ⟨f, hf⟩ : ∃ f, ftn fs k = f := ⟨_, rfl⟩
      rw [hf] at r0 r1 hok HA
      have HK : Aside (FtOk wr f) := hok
      clear hok hf
      obtain ⟨kn, hkn⟩ : ∃ kn, f.k.length = kn := ⟨_, rfl⟩
      have HFN : Hid (f.k.length = kn) := hkn
      rw [hkn] at r0
      have hk8 : kn * 8 ≤ 140737488355328 := by rw [← hkn]; exact HK.out.len
      clear hkn
      obtain ⟨fv, hfv⟩ : ∃ fv, f.v = fv := ⟨_, rfl⟩
      have HFV : Hid (f.v = fv) := hfv
      rw [hfv] at r1
      clear hfv
      go_upto_region 5 with fail
      obtain ⟨W1, hW1⟩ : ∃ W1, wr = W1 := ⟨_, rfl⟩
      rw [hW1] at r0 r1 HK SK
      rw [hW1]
      clear hW1
      by_cases h0 : kn = 0
      · have hz : ¬ (0 : Int) < (kn : Int) := by omega
        have hzn : ¬ 0 < kn := by omega
        have hzd : decide (0 < kn) = false := decide_eq_false hzn
        have E : Aside ((fs.take (k + 1)).filter (inPart l node) = (fs.take k).filter (inPart l node)) := HA.out.1 (by unfold inPart; rw [HFN.out, h0]; rfl)
        clear HA h0
        go_quiet (fail)
        have S2 : Aside (Fo W0.heap.size (W1.drewN nq) u7 ((fs.take (k + 1)).filter (inPart l node)) ∧ Below W0.heap.size W0 (W1.drewN nq) ∧ ((fs.take (k + 1)).filter (inPart l node)).length ≤ k + 1) := by
          have hd : Below W1.heap.size W1 (W1.drewN nq) := below_drewN (Below.refl _ _) nq
          rw [E.out]
          exact ⟨SK.out.1.keep hd, below_drewN SK.out.2.1 nq, Nat.le_succ_of_le SK.out.2.2⟩
        clear SK r0 r1 HK
        generalize W1.drewN nq = W2 at S2 ⊢
        go_wp2
        go_roundg (fn - (k + 1))
        case measure => omega
        case rel => exact ⟨k + 1, by go_num, by omega, by omega, S2.out⟩
      · have hz : (0 : Int) < (kn : Int) := by omega
        have hzn : 0 < kn := by omega
        have hzd : decide (0 < kn) = true := decide_eq_true hzn
        obtain ⟨kb, ko, hka, hkc⟩ := HK.out.mem.get (k := 0) (by rw [HFN.out]; omega)
        have k0 := hkc 0 (by rw [HFN.out]; omega)
        simp only [Nat.add_zero] at k0
        clear hkc
        obtain ⟨q, hq⟩ : ∃ q, decide (find l (key0 f) = node) = q := ⟨_, rfl⟩
        have HQ : Aside (inPart l node f = q) := by
          show _ = _
          unfold inPart
          rw [hq, HFN.out, decide_eq_true (show 0 < kn by omega), Bool.true_and]
        obtain ⟨z, hzz⟩ : ∃ z, find l (key0 f) = z := ⟨_, rfl⟩
        have hFn : ∀ W, Below W1.heap.size W1 W → Calls Try.prog 20 #[.agg #[.int .u32 ep, .slice a n c], .int .i64 (nth f.k 0)] W fun e w' => e = .returned (.int .i64 z) ∧ Below W.heap.size W w' := fun W hb => by
          rw [← hzz]
          exact refFind_any ep a n c l (key0 f) W ((HS.out.1.keep SK.out.2.1).keep hb)
        rw [hzz] at hq
        clear hzz
        generalize nth f.k 0 = v0 at k0 hFn
        have HQ2 : Hid (decide (z = node) = q) := hq
        clear hq
        have m0 := (HS.out.2.1.below SK.out.2.1).cell (j := 0) (x := .int .u32 ep) rfl
        have m1 := (HS.out.2.1.below SK.out.2.1).cell (j := 1) (x := .slice a n c) rfl
        rw [hka] at r0
        have E0 := fun gw : Grw W1 => gw.cell r0
        have E1 := fun gw : Grw W1 => gw.cell r1
        have K0 := fun gw : Grw W1 => gw.cell k0
        have M0 := fun gw : Grw W1 => gw.cell m0
        have M1 := fun gw : Grw W1 => gw.cell m1
        have hFg := fun gw : Grw W1 => hFn gw.X gw.bel
        have D1 : Aside (∀ gw : Grw W1, gw.X.cell? ⟨b, off + k * 2, none⟩ = some (.slice (some ⟨kb, ko, none⟩) kn f.cap) ∧ gw.X.cell? ⟨b, off + k * 2 + 1, none⟩ = some (.int .i64 fv) ∧ Fo W0.heap.size gw.X u7 ((fs.take k).filter (inPart l node)) ∧ Below W0.heap.size W0 gw.X) := fun gw => ⟨gw.cell r0, gw.cell r1, SK.out.1.keep gw.bel, SK.out.2.1.trans (gw.bel.mono SK.out.2.1.size)⟩
        clear r0 r1 k0 m0 m1 hFn
        have hNE : Nonempty (Grw W1) := ⟨⟨W1, Below.refl _ _⟩⟩
        refine wp_region_grow (by kernel_rfl) (by kernel_rfl) ?_
        repeat (go_big_quiet_step (first | (go_at_call 20; refine grow_of (hFg _))))
        refine wpQuiet_nil ?_
        rintro _ ⟨gw, rfl⟩
        obtain ⟨d0, d1, hO2, hB2⟩ := D1.out gw
        have S2 : Aside (Fo W0.heap.size gw.X u7 ((fs.take k).filter (inPart l node)) ∧ Below W0.heap.size W0 gw.X ∧ ((fs.take k).filter (inPart l node)).length ≤ k) := ⟨hO2, hB2, SK.out.2.2⟩
        clear hO2 hB2 D1 E0 E1 K0 M0 M1 hFg SK HK
        generalize gw.X = W2 at S2 d0 d1 ⊢
        clear hNE gw
        by_cases he : z = node
        rotate_left
        · have hq1 : (z == node) = false := by simp [he]
          have E : Aside ((fs.take (k + 1)).filter (inPart l node) = (fs.take k).filter (inPart l node)) := HA.out.1 (by rw [HQ.out, ← HQ2.out]; exact decide_eq_false he)
          have S3 : Aside (Fo W0.heap.size W2 u7 ((fs.take (k + 1)).filter (inPart l node)) ∧ Below W0.heap.size W0 W2 ∧ ((fs.take (k + 1)).filter (inPart l node)).length ≤ k + 1) := by
            rw [E.out]; exact ⟨S2.out.1, S2.out.2.1, Nat.le_succ_of_le S2.out.2.2⟩
          clear he d0 d1 S2
          go_wp2
          go_roundg (fn - (k + 1))
          case measure => omega
          case rel => exact ⟨k + 1, by go_num, by omega, by omega, S3.out⟩
        have hq1 : (z == node) = true := by simp [he]
        have E : Aside ((fs.take (k + 1)).filter (inPart l node) = (fs.take k).filter (inPart l node) ++ [f]) := HA.out.2 (by rw [HQ.out, ← HQ2.out]; exact decide_eq_true he)
        clear he
        have HKA : Hid (f.a = some ⟨kb, ko, none⟩) := hka
        clear hka
        obtain ⟨gl, hgl⟩ : ∃ gl, ((fs.take k).filter (inPart l node)).length + 1 = gl := ⟨_, rfl⟩
        have HGL : Aside (((fs.take k).filter (inPart l node)).length + 1 = gl ∧ gl ≤ 100000000) := ⟨hgl, by have := S2.out.2.2; omega⟩
        clear hgl
        go_wp2_with (at_builtin; refine wpList_fact rfl (.tmp 35) (.tmp 40) rfl W0.heap.size u7 _ rfl (S2.out.1.keep ((Below.refl _ _).alloc (Nat.le_refl _) _)) W2.heap.size f rfl (by rw [HKA.out, HFN.out]; simp [go_sem]) (by rw [HFV.out]; simp [go_sem]) gl HGL.out.1 HGL.out.2 (by have := S2.out.2.1.size; simp; omega) ?_; intro a4 c4 w4 hown4 hg4; refine Hid.out ?_)
        refine hid ?_
        have S4 : Aside (Fo W0.heap.size w4 (.slice a4 gl c4) ((fs.take (k + 1)).filter (inPart l node)) ∧ Below W0.heap.size W0 w4 ∧ ((fs.take (k + 1)).filter (inPart l node)).length ≤ k + 1) := by
          have ka := (Below.refl _ W2).alloc (Nat.le_refl _) (.cells #[.slice (some ⟨kb, ko, none⟩) kn f.cap, .int .i64 fv] 56)
          rw [E.out]
          have k2 := S2.out.2.1.trans (ka.mono S2.out.2.1.size)
          exact ⟨hown4, k2.trans (own_bel (S2.out.1.keep ka) hg4 (Nat.le_refl _) k2.size), by rw [List.length_append]; have := S2.out.2.2; simp; omega⟩
        clear hown4 hg4 S2 d0 d1
        go_wp2
        go_roundg (fn - (k + 1))
        case measure => omega
        case rel => exact ⟨k + 1, by go_num, by omega, by omega, S4.out⟩
    · have hltz : ¬ (k : Int) < (fn : Int) := by omega
      have e : fs.take k = fs := List.take_of_length_le (by rw [HS.out.2.2.2.1]; omega)
      have hO := SK.out.1
      have hl := SK.out.2.2
      rw [e] at hO hl
      obtain ⟨a2, c2, e2, hF2, hc2, _⟩ := hO.out fun f hf => (HS.out.2.2.1.all f (List.mem_filter.1 hf).1).keep SK.out.2.1
      have hC := copy_any wr a2 (fs.filter (inPart l node)) _ c2 hF2 rfl (by omega)
      have HC : Aside (_) := hC
      have HB : Aside (Below w.heap.size w wr) := HS.out.2.2.2.2.trans (SK.out.2.1.mono HS.out.2.2.2.2.size)
      clear hC hO hl hF2 hc2 SK e
      subst e2
      generalize (fs.filter (inPart l node)).length = gl at HC ⊢
      go_wp2_with (go_at_call 43; refine Calls.mono HC.out ?_; rintro e w2 ⟨a3, n3, c3, gs, rfl, h1, h2, h3, h4, h5⟩)
      go_ret
      subst h1
      exact ⟨a3, gs.length, c3, gs, rfl, rfl, h2, h3, h4, HB.out.trans (h5.mono HB.out.size)⟩
end Go.Proofs.Ytfhihkogdnbghaa.spans
