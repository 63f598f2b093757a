/-
  The contract of the statements' own Of: a map that splits make.
-/
import Derived.Test.YtfhihkogdnbghaaSpanCuts
import Derived.Test.YtfhihkogdnbghaaSpanRefSplit
import Derived.Deep.RegionHeld3
namespace Go.Proofs.Ytfhihkogdnbghaa.spans
open Go.ChangeShapes Go.WideShapes Go.ChangeAt Go.RowKit Go.Deep
open Go.Proofs.Ytfhihkogdnbghaa.bytes (ret_bool hid nth addr_add cell_lt own_below own_mono)
set_option linter.unusedVariables false
set_option maxRecDepth 100000
set_option linter.unusedSimpArgs false

theorem results_cell_map1 {fn : Func} {p : Tmp} (h : fn.results = #[.cell p 29]) (tmps : Array Value) (w : World) (g : Nat) (ep : Int) (a : Option Addr) (n c : Nat) (hp : tmps.getD p undef = .pointer (some ⟨g, 0, none⟩)) (hc : Bx w g (mapC ep a n c) 29) : (results fn tmps).run Try.prog w = .ok (mapV ep a n c) w := results_cell_map h tmps w g ep a n c hp hc
/-- a map that splits have made -/
def OfOut (w : World) (m : Mp) (e : Ending) (w' : World) : Prop := ∃ a n c, e = .returned (mapV m.1 a n c) ∧ Sps w' a n c m.2 ∧ n ≤ 40 ∧ Below w.heap.size w w'
theorem tmod_pos {x s : Int} (hx : 0 ≤ x) : x.tmod s = x % s := Int.tmod_eq_emod_of_nonneg hx
theorem rng_ok {s : Int} (hs : 1 ≤ s) {c : Ct} (hc : CtOk c) : 0 ≤ c.1 % s ∧ c.1 % s < s ∧ 0 ≤ c.2.1 % (s - c.1 % s) ∧ c.2.1 % (s - c.1 % s) < s - c.1 % s := by
  have h1 := Int.emod_nonneg c.1 (show s ≠ 0 by omega)
  have h2 := Int.emod_lt_of_pos c.1 (show 0 < s by omega)
  exact ⟨h1, h2, Int.emod_nonneg _ (by omega), Int.emod_lt_of_pos _ (by omega)⟩

set_option maxRecDepth 100000 in
set_option maxHeartbeats 4000000 in
theorem of_any (a : Option Addr) (n c : Nat) (cs : List Ct) (s nn : Int) (w : World) (hC : CutsIn w a cs) (hn : cs.length = n) (hn9 : n ≤ 9223372036854775807) (hs : 1 ≤ s ∧ s ≤ 100000) (hnn : 1 ≤ nn ∧ nn ≤ 100) :
    Calls Try.prog 11 #[.int .i64 s, .int .i64 nn, .slice a n c] w (OfOut w (ofM s nn (cs.take 30))) := by
  obtain ⟨hs1, hs2⟩ := hs
  obtain ⟨hnn1, hnn2⟩ := hnn
  obtain ⟨W0, hW0⟩ : ∃ W0, w.alloc (.cells (mapC 0 none 0 0) 29) = W0 := ⟨_, rfl⟩
  have hb0 : Below w.heap.size w W0 := by rw [← hW0]; exact (Below.refl _ w).alloc (Nat.le_refl _) _
  have hR : Bx W0 w.heap.size (mapC 0 none 0 0) 29 := by rw [← hW0]; exact Bx.new _ _ _
  have hN := refNew_any W0
  unfold MapOut at hN
  have HH : Aside (CutsIn w a cs ∧ cs.length = n) := ⟨hC, hn⟩
  have HB : Aside (Below w.heap.size w W0 ∧ Bx W0 w.heap.size (mapC 0 none 0 0) 29) := ⟨hb0, hR⟩
  have HW : Hid (w.alloc (.cells #[.int .u32 0, .slice none 0 0] 29) = W0) := hW0
  clear hb0 hR hC hn hW0
  go_enter Try.func11, Try.ntmps11
  go_wp2_with fail
  rw [HW.out]
  go_wp2_with (go_at_call 29; refine hN.mono ?_; rintro e w1 ⟨a1, n1, c1, rfl, hs1', hnew, hb1⟩; unfold mapV; refine Hid.out ?_)
  refine hid ?_
  have S1 : Aside (∃ am nm cm, Bx (w1.alloc (.cells #[.int .u32 1, .slice a1 n1 c1] 29)) w.heap.size (mapC 0 none 0 0) 29 ∧ Bx (w1.alloc (.cells #[.int .u32 1, .slice a1 n1 c1] 29)) w1.heap.size (mapC (ofM s nn (cs.take 0)).1 am nm cm) 29 ∧ Sps (w1.alloc (.cells #[.int .u32 1, .slice a1 n1 c1] 29)) am nm cm (ofM s nn (cs.take 0)).2 ∧ (∀ p, am = some p → w.heap.size < p.block) ∧ Below w.heap.size w (w1.alloc (.cells #[.int .u32 1, .slice a1 n1 c1] 29))) := by
    have ka := (Below.refl _ w1).alloc (Nat.le_refl _) (.cells #[.int .u32 1, .slice a1 n1 c1] 29)
    have k1 := HB.out.1.trans (hb1.mono HB.out.1.size)
    have hw0 : w.heap.size < W0.heap.size := HB.out.2.lt
    exact ⟨a1, n1, c1, (HB.out.2.below hb1).below ka, Bx.new _ _ _, hs1'.keep ka, fun p hp => Nat.lt_of_lt_of_le hw0 (hnew (by simp) p hp), k1.trans (ka.mono k1.size)⟩
  have HMB : Aside (w.heap.size < w1.heap.size) := (HB.out.2.below hb1).lt
  clear hs1' hnew hb1 hN HB HW
  go_upto_region 2 with fail
  generalize w1.alloc (.cells #[.int .u32 1, .slice a1 n1 c1] 29) = W2 at S1 ⊢
  generalize w1.heap.size = mb at S1 HMB ⊢
  go_wp2_with fail
  go_loopg [8, 9, 10, 11, 12] (min n 30) (fun g1 v8 v9 v10 v11 v12 wr => ∃ (k : Nat), v8 = .int .i64 k ∧ k ≤ n ∧ k ≤ 30 ∧ min n 30 - k ≤ g1 ∧ Aside (∃ am nm cm, Bx wr w.heap.size (mapC 0 none 0 0) 29 ∧ Bx wr mb (mapC (ofM s nn (cs.take k)).1 am nm cm) 29 ∧ Sps wr am nm cm (ofM s nn (cs.take k)).2 ∧ (∀ p, am = some p → w.heap.size < p.block) ∧ Below w.heap.size w wr))
  case atStart => exact ⟨0, rfl, Nat.zero_le _, Nat.zero_le _, Nat.le_refl _, S1.out⟩
  case round =>
    clear S1
    obtain ⟨k, rfl, hk, hk30, hg1, SK0⟩ := hrel
    obtain ⟨am, nm, cm, e1, e2, e3, e5, e4⟩ := SK0.out
    have hok := ofM_ok hs1 hnn1 (cs.take k)
    by_cases hlt : k < n ∧ k < 30
    · obtain ⟨hlt1, hlt2⟩ := hlt
      have hltz : (k : Int) < (n : Int) := by omega
      have hltz2 : (k : Int) < 30 := by omega
      have hkl : k < cs.length := by rw [HH.out.2]; exact hlt1
      obtain ⟨b, off, ha, hc⟩ := (HH.out.1.keep e4).get hkl
      subst ha
      obtain ⟨r0, r1, r2, hct⟩ := hc k hkl
      clear hc
      have HM : Aside (ofM s nn (cs.take (k + 1)) = stepM s nn (ofM s nn (cs.take k)) (ctn cs k)) := by
        show _ = _
        rw [take_ctn hkl, ofM_snoc]
      obtain ⟨q0, q1, q2, q3⟩ := rng_ok hs1 hct
      obtain ⟨⟨t00, t01⟩, ⟨t10, t11⟩, t20, t21⟩ := hct
      obtain ⟨M, hM⟩ : ∃ M, ofM s nn (cs.take k) = M := ⟨_, rfl⟩
      rw [hM] at hok HM e2 e3
      have SK : Aside (Bx wr w.heap.size (mapC 0 none 0 0) 29 ∧ Bx wr mb (mapC M.1 am nm cm) 29 ∧ Sps wr am nm cm M.2 ∧ Below w.heap.size w wr ∧ MOk s nn M ∧ (∀ p, am = some p → w.heap.size < p.block)) := ⟨e1, e2, e3, e4, hok, e5⟩
      have z0 := e2.cell (j := 0) (x := .int .u32 M.1) rfl
      have z1 := e2.cell (j := 1) (x := .slice am nm cm) rfl
      clear SK0 e1 e2 e3 e4 e5 hok hM
      have HR : Aside (rng s (ctn cs k) = ((ctn cs k).1 % s, (ctn cs k).1 % s + 1 + (ctn cs k).2.1 % (s - (ctn cs k).1 % s))) := rfl
      have HM2 : Aside (stepM s nn M (ctn cs k) = if (splitE M.1 M.2 s nn (rng s (ctn cs k)).1 (rng s (ctn cs k)).2 ((ctn cs k).2.2 % nn)).2.2 = 0 then ((splitE M.1 M.2 s nn (rng s (ctn cs k)).1 (rng s (ctn cs k)).2 ((ctn cs k).2.2 % nn)).1, (splitE M.1 M.2 s nn (rng s (ctn cs k)).1 (rng s (ctn cs k)).2 ((ctn cs k).2.2 % nn)).2.1) else M) := rfl
      generalize rng s (ctn cs k) = R at HR HM2
      obtain ⟨fa, hfa⟩ : ∃ fa, (ctn cs k).1 % s = fa := ⟨_, rfl⟩
      rw [hfa] at HR q0 q1 q2 q3
      obtain ⟨rb, hrb⟩ : ∃ rb, (ctn cs k).2.1 % (s - fa) = rb := ⟨_, rfl⟩
      rw [hrb] at HR q2 q3
      obtain ⟨nd, hnd⟩ : ∃ nd, (ctn cs k).2.2 % nn = nd := ⟨_, rfl⟩
      rw [hnd] at HM2
      have y0 : ((ctn cs k).1).tmod s = fa := by rw [tmod_pos t00, hfa]
      have y1 : ((ctn cs k).2.1).tmod (s - fa) = rb := by rw [tmod_pos t10, hrb]
      have y2 : ((ctn cs k).2.2).tmod nn = nd := by rw [tmod_pos t20, hnd]
      have hnd0 : 0 ≤ nd ∧ nd < nn := by rw [← hnd]; exact ⟨Int.emod_nonneg _ (by omega), Int.emod_lt_of_pos _ (by omega)⟩
      obtain ⟨hnd1, hnd2⟩ := hnd0
      rw [HR.out] at HM2
      dsimp only at HM2
      clear hfa hrb hnd HR
      generalize (ctn cs k).1 = x0 at r0 y0 t00 t01 HM HM2
      generalize (ctn cs k).2.1 = x1 at r1 y1 t10 t11 HM HM2
      generalize (ctn cs k).2.2 = x2 at r2 y2 t20 t21 HM HM2
      have ns0 : ¬ s = 0 := by omega
      have ns1 : ¬ s - fa = 0 := by omega
      have ns2 : ¬ nn = 0 := by omega
      go_upto_region 7 with fail
      obtain ⟨tb, htb⟩ : ∃ tb, fa + 1 + rb = tb := ⟨_, rfl⟩
      rw [htb] at HM2 ⊢
      obtain ⟨E, hE⟩ : ∃ E, splitE M.1 M.2 s nn fa tb nd = E := ⟨_, rfl⟩
      rw [hE] at HM2
      have CS : ∀ W, Below wr.heap.size wr W → Calls Try.prog 27 #[.agg #[.int .u32 M.1, .slice am nm cm], .int .i64 s, .int .i64 nn, .int .i64 fa, .int .i64 tb, .int .i64 nd] W fun e w' => ∃ a2 n2 c2, e = .returned (.tuple #[.agg #[.int .u32 E.1, .slice a2 n2 c2], .int .i64 E.2.2]) ∧ Aside (Sps w' a2 n2 c2 E.2.1 ∧ Below wr.heap.size wr w' ∧ Below W.heap.size W w' ∧ (∀ p, a2 = some p → W.heap.size ≤ p.block)) := fun W hb => by
        have := refSplit_any M.1 am nm cm M.2 s nn fa tb nd W (SK.out.2.2.1.keep hb) SK.out.2.2.2.2.1.ep
        rw [hE] at this
        exact this.mono fun e w' ⟨a2, n2, c2, g1, g2, g4, g3⟩ => ⟨a2, n2, c2, g1, g2, hb.trans (g3.mono hb.size), g3, g4⟩
      have HEp : Aside (MOk s nn (stepM s nn M (x0, x1, x2))) := stepM_ok SK.out.2.2.2.2.1 _
      obtain ⟨ep, hep⟩ : ∃ ep, M.1 = ep := ⟨_, rfl⟩
      rw [hep] at z0 CS
      clear hE htb
      obtain ⟨ee, hee⟩ : ∃ ee, E.2.2 = ee := ⟨_, rfl⟩
      obtain ⟨e1, he1⟩ : ∃ e1, E.1 = e1 := ⟨_, rfl⟩
      rw [hee] at CS HM2
      rw [he1] at CS HM2
      have HE1 : Hid (E.2.2 = ee ∧ E.1 = e1 ∧ M.1 = ep) := ⟨hee, he1, hep⟩
      clear hee he1 hep
      have w1 : IntKind.i64.wrap x2 = x2 := by rw [IntKind.wrap_i64]; omega
      have w2 : IntKind.i64.wrap (x2.tmod nn) = nd := by rw [IntKind.wrap_i64, y2]; omega
      have w3 : IntKind.i64.wrap nd = nd := by rw [IntKind.wrap_i64]; omega
      have b6 : (0 : Int) ≤ (k : Int) := by omega
      have HD : Aside (Below wr.heap.size wr wr.drew) := (Below.refl _ _).drew
      have HD2 : Aside (Below wr.heap.size wr (wr.alloc (.cells #[.int .u32 0, .slice none 0 0] 29)).drew) := ((Below.refl _ _).alloc (Nat.le_refl _) _).drew
      have HX : Aside (Bx (wr.alloc (.cells #[.int .u32 0, .slice none 0 0] 29)).drew wr.heap.size #[.int .u32 0, .slice none 0 0] 29) := Bx.new _ _ _
      have HCS : Aside (_) := CS
      have hlb : b < wr.heap.size := cell_lt r2
      have hlm : mb < wr.heap.size := cell_lt z0
      clear w2 w3 CS
      go_cut [11, 12] from 45 to 61 (fun v11 v12 wx => ∃ h a2 n2 c2, v11 = .pointer (some ⟨h, 0, none⟩) ∧ v12 = .int .i64 ee ∧ Aside (Bx wx h (mapC e1 a2 n2 c2) 29 ∧ Sps wx a2 n2 c2 E.2.1 ∧ Below wr.heap.size wr wx ∧ (∀ p, a2 = some p → wr.heap.size ≤ p.block)))
      case first =>
        go_region_with (go_at_call 27; first
          | ((with_reducible refine Calls.mono (HCS.out _ HD.out) ?_); rintro e w5 ⟨a2, n2, c2, rfl, hw5⟩)
          | ((with_reducible refine Calls.mono (HCS.out _ HD2.out) ?_); rintro e w5 ⟨a2, n2, c2, rfl, hw5⟩; have hx := HX.out.below hw5.out.2.2.1; have v0 := hx.cell (j := 0) (x := .int .u32 0) rfl; have v1 := hx.cell (j := 1) (x := .slice none 0 0) rfl; have f0 := hx.frz 0; have f1 := hx.frz 1))
        all_goals
          go_wp2_with fail
          go_meet
          refine ⟨_, a2, n2, c2, rfl, rfl, ?_⟩
          first
            | exact ⟨Bx.new _ _ _, hw5.out.1.keep ((Below.refl _ _).alloc (Nat.le_refl _) _), hw5.out.2.1.alloc hw5.out.2.1.size _, fun p hp => by have := hw5.out.2.2.2 p hp; simp at this; omega⟩
            | exact ⟨hx.set2 _ _, (hw5.out.1.other (fun p hp => by have := hw5.out.2.2.2 p hp; simp at this; omega) _ _).other (fun p hp => by have := hw5.out.2.2.2 p hp; simp at this; omega) _ _, (hw5.out.2.1.setCell (Nat.le_refl _) _).setCell (Nat.le_refl _) _, fun p hp => by have := hw5.out.2.2.2 p hp; simp at this; omega⟩
      case rest =>
        obtain ⟨h, a2, n2, c2, rfl, rfl, HR⟩ := hcut
        have HW5 : Aside (w.heap.size < mb) := HMB.out
        have m0 := HR.out.1.cell (j := 0) (x := .int .u32 e1) rfl
        have m1 := HR.out.1.cell (j := 1) (x := .slice a2 n2 c2) rfl
        have hxm := SK.out.2.1.below HR.out.2.2.1
        have o0 := hxm.cell (j := 0) (x := .int .u32 M.1) rfl
        have o1 := hxm.cell (j := 1) (x := .slice am nm cm) rfl
        have f0 := hxm.frz 0
        have f1 := hxm.frz 1
        have HXm : Aside (Bx wc mb (mapC M.1 am nm cm) 29 ∧ Bx wc w.heap.size (mapC 0 none 0 0) 29 ∧ Below w.heap.size w wc) := ⟨hxm, SK.out.1.below HR.out.2.2.1, SK.out.2.2.2.1.trans (HR.out.2.2.1.mono SK.out.2.2.2.1.size)⟩
        have Hlm : Aside (mb < wr.heap.size ∧ w.heap.size < wr.heap.size) := ⟨hlm, by have := SK.out.1.lt; exact this⟩
        clear hxm hlm hlb HCS HD HD2 HX z0 z1 r0 r1 r2
        by_cases he : ee = 0
        · have d1 : (ee == 0) = true := by simp [he]
          have E1 : Aside (ofM s nn (cs.take (k + 1)) = (e1, E.2.1)) := by show _ = _; rw [HM.out, HM2.out, if_pos he]
          clear he HM HM2
          go_wp2
          go_roundg (min n 30 - (k + 1))
          case measure => omega
          case rel =>
            refine ⟨k + 1, by go_num, by omega, by omega, by omega, a2, n2, c2, ?_, ?_, ?_, ?_, ?_⟩
            · exact (HXm.out.2.1.other (by have := HW5.out; omega) _ _).other (by have := HW5.out; omega) _ _
            · rw [E1.out]; exact HXm.out.1.set2 _ _
            · rw [E1.out]
              exact (HR.out.2.1.other (fun p hp => by have := HR.out.2.2.2 p hp; have := Hlm.out.1; omega) _ _).other (fun p hp => by have := HR.out.2.2.2 p hp; have := Hlm.out.1; omega) _ _
            · exact fun p hp => by have := HR.out.2.2.2 p hp; have := Hlm.out.2; omega
            · exact (HXm.out.2.2.setCell (by have := HW5.out; show w.heap.size ≤ mb; omega) _).setCell (by have := HW5.out; show w.heap.size ≤ mb; omega) _
        · have d1 : (ee == 0) = false := by simp [he]
          have E1 : Aside (ofM s nn (cs.take (k + 1)) = M) := by show _ = _; rw [HM.out, HM2.out, if_neg he]
          clear he HM HM2
          go_wp2
          go_roundg (min n 30 - (k + 1))
          case measure => omega
          case rel => exact ⟨k + 1, by go_num, by omega, by omega, by omega, am, nm, cm, HXm.out.2.1, by rw [E1.out]; exact HXm.out.1, by rw [E1.out]; exact SK.out.2.2.1.keep HR.out.2.2.1, SK.out.2.2.2.2.2, HXm.out.2.2⟩
    · have HT : Aside (cs.take k = cs.take 30) := by
        by_cases h3 : k = 30
        · subst h3; exact rfl
        · have h4 : k = n := by omega
          show _ = _
          rw [List.take_of_length_le (by rw [HH.out.2]; omega), List.take_of_length_le (by rw [HH.out.2]; omega)]
      have z0 := e2.cell (j := 0) (x := .int .u32 (ofM s nn (cs.take k)).1) rfl
      have z1 := e2.cell (j := 1) (x := .slice am nm cm) rfl
      have y0 := e1.cell (j := 0) (x := .int .u32 0) rfl
      have y1 := e1.cell (j := 1) (x := .slice none 0 0) rfl
      have f0 := e1.frz 0
      have f1 := e1.frz 1
      have SK : Aside (Bx wr w.heap.size (mapC 0 none 0 0) 29 ∧ Sps wr am nm cm (ofM s nn (cs.take k)).2 ∧ Below w.heap.size w wr ∧ MOk s nn (ofM s nn (cs.take k)) ∧ (∀ p, am = some p → w.heap.size < p.block)) := ⟨e1, e3, e4, hok, e5⟩
      rw [HT.out] at SK z0
      obtain ⟨M, hM⟩ : ∃ M, ofM s nn (cs.take 30) = M := ⟨_, rfl⟩
      rw [hM] at SK z0
      have HMe : Hid (ofM s nn (cs.take 30) = M) := hM
      clear hM
      obtain ⟨ep, hep⟩ : ∃ ep, M.1 = ep := ⟨_, rfl⟩
      rw [hep] at z0
      have HEp : Hid (M.1 = ep) := hep
      clear SK0 e1 e2 e3 e4 e5 hok hep HT
      have hfin : ∀ W', W' = ((wr.setCell ⟨w.heap.size, 0, none⟩ (.int .u32 ep)).setCell ⟨w.heap.size, 1, none⟩ (.slice am nm cm)) → Aside (Bx W' w.heap.size (mapC ep am nm cm) 29 ∧ OfOut w (ofM s nn (cs.take 30)) (.returned (mapV ep am nm cm)) W') := fun W' hW' => by
        rw [hW', HMe.out]
        refine ⟨SK.out.1.set2 _ _, am, nm, cm, by rw [HEp.out], ?_, ?_, ?_⟩
        · exact (SK.out.2.1.other (fun p hp => by have := SK.out.2.2.2.2 p hp; omega) _ _).other (fun p hp => by have := SK.out.2.2.2.2 p hp; omega) _ _
        · rw [← SK.out.2.1.len]; exact SK.out.2.2.2.1.snd.len
        · exact (SK.out.2.2.1.setCell (Nat.le_refl _) _).setCell (Nat.le_refl _) _
      have HFin : Aside (_) := hfin
      clear hfin
      by_cases h1 : k < n
      · have h1z : (k : Int) < (n : Int) := by omega
        have h2z : ¬ (k : Int) < 30 := by omega
        go_wp2
        exact bodyPost_ret (results_cell_map1 rfl _ _ w.heap.size ep am nm cm rfl (HFin.out _ rfl).out.1) rfl (HFin.out _ rfl).out.2
      · have h1z : ¬ (k : Int) < (n : Int) := by omega
        go_wp2
        exact bodyPost_ret (results_cell_map1 rfl _ _ w.heap.size ep am nm cm rfl (HFin.out _ rfl).out.1) rfl (HFin.out _ rfl).out.2
end Go.Proofs.Ytfhihkogdnbghaa.spans
