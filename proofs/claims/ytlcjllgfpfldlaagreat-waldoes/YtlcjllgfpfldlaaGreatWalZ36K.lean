/-
 The statements' own Make, of a kind that is 1.
 The statements' own Make, of a kind that is 2.
 The statements' own Make, of a kind that is 3.
 The statements' own Make, of a kind that is 4.
 The statements' own Make, of a kind that is 5.
 The statements' own Make, of a kind that is 6.
-/
import Derived.Test.YtlcjllgfpfldlaaGreatWalZ31K
import Derived.Test.YtlcjllgfpfldlaaGreatWalZ35K
set_option maxHeartbeats 32000000
open Go.ChangeShapes Go.WideShapes Go.ChangeAt Go.RowKit Go.Deep
set_option linter.unusedVariables false
set_option maxRecDepth 100000
set_option linter.unusedSimpArgs false
namespace Go.Proofs.YtlcjllgfpfldlaaGreat
namespace code
open dims (nth cell_lt vals own_mono)
theorem make_1 (kind id at_ nodes frm til : Int) (fa sa ea : Option Addr) (fn fc sn sc en ec : Nat) (fs : List Ft) (ss : List Int) (es : List Et) (w : World) (hk : kind % 7 = 0) (hk0 : 0 ≤ kind ∧ kind ≤ 255) (hid : U32 id) (hat : U32 at_) (hn0 : 0 ≤ nodes ∧ nodes ≤ 255)
  (hF : FactsIn w fa fs) (hf : fs.length = fn) (hfm : fn ≤ 9223372036854775807) (hS : dims.Nums .u16 w sa sn sc ss) (hfr : 0 ≤ frm ∧ frm ≤ 65535) (hti : 0 ≤ til ∧ til ≤ 65535) (hE : EntsIn w ea es) (he : es.length = en) (hem : en ≤ 9223372036854775807) :
  Calls Tryz.prog 33 #[.int .u8 kind, .int .u32 id, .int .u32 at_, .int .u8 nodes, .slice fa fn fc, .slice sa sn sc, .int .u16 frm, .int .u16 til, .slice ea en ec] w fun e w' => ∃ v, e = .returned v ∧ MkRes 1 (ss = []) (mkQ kind id at_ nodes frm til fs es) v w' ∧ Below w.heap.size w w' := by
 obtain ⟨i0, hi, hz0, hz1, hz2⟩ := info_parts info_int2
 have htm : kind.tmod 7 = 0 := by rw [Int.tmod_eq_emod_of_nonneg hk0.1]; exact hk
 have hb2 : Below w.heap.size w ((w.alloc (.cells #[.int .u8 0, .int .u32 0, .int .u32 0, .slice none 0 0, .slice none 0 0, .int .u32 0, .slice none 0 0, .int .i64 0, .int .i64 0, .slice none 0 0] 46)).alloc (.cells #[.int .u8 1, .int .u32 id, .int .u32 0, .slice none 0 0, .slice none 0 0, .int .u32 0, .slice none 0 0, .int .i64 0, .int .i64 0, .slice none 0 0] 46)) := ((Below.refl _ _).alloc (nrQ _) _).alloc (by simp) _
 have hx0 : Boxed ((w.alloc (.cells #[.int .u8 0, .int .u32 0, .int .u32 0, .slice none 0 0, .slice none 0 0, .int .u32 0, .slice none 0 0, .int .i64 0, .int .i64 0, .slice none 0 0] 46)).alloc (.cells #[.int .u8 1, .int .u32 id, .int .u32 0, .slice none 0 0, .slice none 0 0, .int .u32 0, .slice none 0 0, .int .i64 0, .int .i64 0, .slice none 0 0] 46)) w.heap.size #[.int .u8 0, .int .u32 0, .int .u32 0, .slice none 0 0, .slice none 0 0, .int .u32 0, .slice none 0 0, .int .i64 0, .int .i64 0, .slice none 0 0] 46 := (Boxed.new w #[.int .u8 0, .int .u32 0, .int .u32 0, .slice none 0 0, .slice none 0 0, .int .u32 0, .slice none 0 0, .int .i64 0, .int .i64 0, .slice none 0 0] 46).below ((Below.refl _ _).alloc (nrQ _) _)
 have hx1 : Boxed ((w.alloc (.cells #[.int .u8 0, .int .u32 0, .int .u32 0, .slice none 0 0, .slice none 0 0, .int .u32 0, .slice none 0 0, .int .i64 0, .int .i64 0, .slice none 0 0] 46)).alloc (.cells #[.int .u8 1, .int .u32 id, .int .u32 0, .slice none 0 0, .slice none 0 0, .int .u32 0, .slice none 0 0, .int .i64 0, .int .i64 0, .slice none 0 0] 46)) (w.heap.size + 1) #[.int .u8 1, .int .u32 id, .int .u32 0, .slice none 0 0, .slice none 0 0, .int .u32 0, .slice none 0 0, .int .i64 0, .int .i64 0, .slice none 0 0] 46 := by
  have := Boxed.new (w.alloc (.cells #[.int .u8 0, .int .u32 0, .int .u32 0, .slice none 0 0, .slice none 0 0, .int .u32 0, .slice none 0 0, .int .i64 0, .int .i64 0, .slice none 0 0] 46)) #[.int .u8 1, .int .u32 id, .int .u32 0, .slice none 0 0, .slice none 0 0, .int .u32 0, .slice none 0 0, .int .i64 0, .int .i64 0, .slice none 0 0] 46
  rwa [show (w.alloc (.cells #[.int .u8 0, .int .u32 0, .int .u32 0, .slice none 0 0, .slice none 0 0, .int .u32 0, .slice none 0 0, .int .i64 0, .int .i64 0, .slice none 0 0] 46)).heap.size = w.heap.size + 1 by simp] at this
 have HU : Aside (U32 id ∧ U32 at_) := ⟨hid, hat⟩
 have HA : Aside (FactsIn w fa fs ∧ fs.length = fn ∧ fn ≤ 9223372036854775807 ∧ dims.Nums .u16 w sa sn sc ss ∧ EntsIn w ea es ∧ es.length = en) := ⟨hF, hf, hfm, hS, hE, he⟩
 have hsm : sn ≤ 9223372036854775807 := by have h1 := hS.lec; have h2 := hS.max; rw [maxLen_9] at h2; omega
 have HK : Aside (kind % 7 = 0) := hk
 clear hk hid hat hF hf hS hE he
 go_enter Tryz.func33, Tryz.ntmps33
 go_upto_region 2 with fail
 generalize hW2 : ((w.alloc (.cells #[.int .u8 0, .int .u32 0, .int .u32 0, .slice none 0 0, .slice none 0 0, .int .u32 0, .slice none 0 0, .int .i64 0, .int .i64 0, .slice none 0 0] 46)).alloc (.cells #[.int .u8 1, .int .u32 id, .int .u32 0, .slice none 0 0, .slice none 0 0, .int .u32 0, .slice none 0 0, .int .i64 0, .int .i64 0, .slice none 0 0] 46)) = W2 at hb2 hx0 hx1 ⊢
 have H2 : Aside (Below w.heap.size w W2 ∧ Boxed W2 w.heap.size #[.int .u8 0, .int .u32 0, .int .u32 0, .slice none 0 0, .slice none 0 0, .int .u32 0, .slice none 0 0, .int .i64 0, .int .i64 0, .slice none 0 0] 46 ∧ Boxed W2 (w.heap.size + 1) #[.int .u8 1, .int .u32 id, .int .u32 0, .slice none 0 0, .slice none 0 0, .int .u32 0, .slice none 0 0, .int .i64 0, .int .i64 0, .slice none 0 0] 46) := ⟨hb2, hx0, hx1⟩
 have hlt2 := hx1.lt
 clear hb2 hx0 hx1 hW2
 go_wp2_with fail
 go_loopg [20, 21] 6 (fun g1 vv vi wr => ∃ (k nn : Nat) (av : Option Addr) (cv : Nat), vv = .slice av nn cv ∧ vi = .int .i64 k ∧ k ≤ 6 ∧ 6 - k ≤ g1 ∧ nn ≤ k ∧ Aside (∃ l, l.length = nn ∧ wr.ownsRow W2.heap.size 3 1 (.slice av nn cv) nn (vals l) ∧ NdL nodes l k ∧ Below W2.heap.size W2 wr))
 case atStart => exact ⟨0, 0, none, 0, rfl, rfl, Nat.zero_le _, nrQ _, nrQ _, [], rfl, World.ownsRow_nil _ _ _ _, NdL.nil _, Below.refl _ _⟩
 case round =>
  obtain ⟨k, nn, av, cv, rfl, rfl, hk6, hg1, hnk, SK⟩ := hrel
  by_cases hlt : k < 6
  ·have hltz : (k : Int) < 6 := by omega
   obtain ⟨l, hl1, hown, hl3, hl4⟩ := SK.out
   have HL : Aside (l.length = nn ∧ NdL nodes l k ∧ Below W2.heap.size W2 wr) := ⟨hl1, hl3, hl4⟩
   have hsz := hl4.size
   clear SK hl1 hl3 hl4
   go_wp2_with (at_builtin; refine wpList_append_lies _ rfl _ _ 39 rfl W2.heap.size 3 i0 _ 1 8 Tryz.underlying39 hi hz0 hz1 hz2 rfl (by decide) _ nn _ rfl (hown.alloc _) ⟨wr.heap.size, 0, none⟩ 1 1 [Value.int .i64 k] rfl rfl (cell_one_new _ _ _) (by intro u hu; simp at hu; subst hu; rfl) (by omega) (by unfold maxLen; omega) (by omega) (by simp; omega) (wr.heap.size + 1) (by simp) ?_; intro g c3 w3 hown3 hgrow hat3 hglt)
   ·rename_i hbit
    have S3 : Aside (∃ l, l.length = nn + 1 ∧ w3.ownsRow W2.heap.size 3 1 (.slice (some ⟨g, 0, none⟩) (nn + 1) c3) (nn + 1) (vals l) ∧ NdL nodes l (k + 1) ∧ Below W2.heap.size W2 w3) := by
     refine ⟨l ++ [(k : Int)], by simp [HL.out.1], ?_, HL.out.2.1.push hbit (by omega), ?_⟩
     ·have e1 : vals (l ++ [(k : Int)]) = vals l ++ [Value.int .i64 k] := by simp [vals]
      rw [e1]; exact hown3
     ·exact (HL.out.2.2.alloc hsz _).grown hgrow (by simp; omega) fun q hq => (World.ownsRow.lt hown _ hq).1
    clear hown3 hgrow hat3 hglt hown
    go_wp2
    go_roundg (6 - (k + 1))
    case measure => omega
    case rel => exact ⟨k + 1, nn + 1, _, _, rfl, by go_num, by omega, by omega, by omega, S3⟩
   ·rename_i hbit
    have S3 : Aside (∃ l, l.length = nn ∧ wr.ownsRow W2.heap.size 3 1 (.slice av nn cv) nn (vals l) ∧ NdL nodes l (k + 1) ∧ Below W2.heap.size W2 wr) := ⟨l, HL.out.1, hown, HL.out.2.1.skip hbit, HL.out.2.2⟩
    clear hown
    go_roundg (6 - (k + 1))
    case measure => omega
    case rel => exact ⟨k + 1, nn, _, _, rfl, by go_num, by omega, by omega, by omega, S3⟩
  ·have hltz : ¬ (k : Int) < 6 := by omega
   obtain ⟨l, hl1, hl2, hl3, hl4⟩ := SK.out
   have hke : k = 6 := by omega
   subst hke
   have b0 : Below w.heap.size w wr := H2.out.1.trans (hl4.mono H2.out.1.size)
   have y0 : Boxed wr w.heap.size #[.int .u8 0, .int .u32 0, .int .u32 0, .slice none 0 0, .slice none 0 0, .int .u32 0, .slice none 0 0, .int .i64 0, .int .i64 0, .slice none 0 0] 46 := H2.out.2.1.below hl4
   have x0 : Boxed wr (w.heap.size + 1) #[.int .u8 1, .int .u32 id, .int .u32 0, .slice none 0 0, .slice none 0 0, .int .u32 0, .slice none 0 0, .int .i64 0, .int .i64 0, .slice none 0 0] 46 := H2.out.2.2.below hl4
   have HN : Aside (nodesOk l = true ∧ l.length = nn ∧ l = ndL nodes 6) := ⟨hl3.1, hl1, hl3.2.2⟩
   have n0 : NsOwn w.heap.size wr (.slice av nn cv) l := ⟨by rw [hl1]; exact own_mono hl2 (by omega), hl3.ok (nrQ _)⟩
   clear SK hl1 hl2 hl3 hl4
   generalize wr = w0 at b0 y0 x0 n0 ⊢
   have c0 := x0.cell (j := 0) rfl
   have z0 := x0.frz 0
   have c1 := x0.cell (j := 1) rfl
   have z1 := x0.frz 1
   have c2 := x0.cell (j := 2) rfl
   have z2 := x0.frz 2
   have c3 := x0.cell (j := 3) rfl
   have z3 := x0.frz 3
   have c4 := x0.cell (j := 4) rfl
   have z4 := x0.frz 4
   have c5 := x0.cell (j := 5) rfl
   have z5 := x0.frz 5
   have c6 := x0.cell (j := 6) rfl
   have z6 := x0.frz 6
   have c7 := x0.cell (j := 7) rfl
   have z7 := x0.frz 7
   have c8 := x0.cell (j := 8) rfl
   have z8 := x0.frz 8
   have c9 := x0.cell (j := 9) rfl
   have z9 := x0.frz 9
   go_upto_region 11 with fail
   have x1 : Boxed (w0.setCell ⟨w.heap.size + 1, 3, none⟩ (.slice av nn cv)) (w.heap.size + 1) #[.int .u8 1, .int .u32 id, .int .u32 0, .slice av nn cv, .slice none 0 0, .int .u32 0, .slice none 0 0, .int .i64 0, .int .i64 0, .slice none 0 0] 46 := x0.set 3 _
   have y1 : Boxed (w0.setCell ⟨w.heap.size + 1, 3, none⟩ (.slice av nn cv)) w.heap.size #[.int .u8 0, .int .u32 0, .int .u32 0, .slice none 0 0, .slice none 0 0, .int .u32 0, .slice none 0 0, .int .i64 0, .int .i64 0, .slice none 0 0] 46 := y0.grown (grown_at _ _ _ _) (by simp only [ne_eq, oiQ]; omega)
   have b1 : Below w.heap.size w (w0.setCell ⟨w.heap.size + 1, 3, none⟩ (.slice av nn cv)) := b0.setCell (by simp) _
   have n0 := n0.far (grown_at w0 (w.heap.size + 1) 3 (.slice av nn cv)) (x0.far (by decide))
   generalize (w0.setCell ⟨w.heap.size + 1, 3, none⟩ (.slice av nn cv)) = w1 at x1 y1 b1 n0 ⊢
   clear x0 y0 b0
   clear c0 z0 c1 z1 c2 z2 c3 z3 c4 z4 c5 z5 c6 z6 c7 z7 c8 z8 c9 z9
   have c0 := x1.cell (j := 0) rfl
   have z0 := x1.frz 0
   have c1 := x1.cell (j := 1) rfl
   have z1 := x1.frz 1
   have c2 := x1.cell (j := 2) rfl
   have z2 := x1.frz 2
   have c3 := x1.cell (j := 3) rfl
   have z3 := x1.frz 3
   have c4 := x1.cell (j := 4) rfl
   have z4 := x1.frz 4
   have c5 := x1.cell (j := 5) rfl
   have z5 := x1.frz 5
   have c6 := x1.cell (j := 6) rfl
   have z6 := x1.frz 6
   have c7 := x1.cell (j := 7) rfl
   have z7 := x1.frz 7
   have c8 := x1.cell (j := 8) rfl
   have z8 := x1.frz 8
   have c9 := x1.cell (j := 9) rfl
   have z9 := x1.frz 9
   have hC := facts7_any fa fn fc fs w1 (HA.out.1.keep b1) HA.out.2.1 HA.out.2.2.1
   go_wp2_with (go_at_call 54; refine hC.mono ?_; rintro e wf ⟨vf, rfl, hF7, gf⟩; refine Hid.out ?_)
   refine hid ?_
   obtain ⟨os, ho1, ho2⟩ := hF7
   obtain ⟨af, cf, hvf⟩ := fs_form ho1
   subst hvf
   have f0 : FsOwn w.heap.size wf (.slice af os.length cf) os := ⟨own_mono ho1.own b1.size, fun f hf => ⟨own_mono (ho1.all f hf).own b1.size, (ho1.all f hf).key, (ho1.all f hf).num⟩⟩
   obtain ⟨on, hon⟩ : ∃ on, os.length = on := ⟨_, rfl⟩
   have HO : Aside (os.length = on ∧ os.map pf = (fs.take 60).map mkF) := ⟨hon, ho2⟩
   rw [hon] at f0 ⊢
   have x2 := x1.below gf
   have y2 := y1.below gf
   have b2 := b1.trans (gf.mono b1.size)
   have n0 := n0.far (grown_below gf) (far_none _ _)
   clear hC ho1 ho2 hon gf x1 y1 b1
   clear c0 z0 c1 z1 c2 z2 c3 z3 c4 z4 c5 z5 c6 z6 c7 z7 c8 z8 c9 z9
   have c0 := x2.cell (j := 0) rfl
   have z0 := x2.frz 0
   have c1 := x2.cell (j := 1) rfl
   have z1 := x2.frz 1
   have c2 := x2.cell (j := 2) rfl
   have z2 := x2.frz 2
   have c3 := x2.cell (j := 3) rfl
   have z3 := x2.frz 3
   have c4 := x2.cell (j := 4) rfl
   have z4 := x2.frz 4
   have c5 := x2.cell (j := 5) rfl
   have z5 := x2.frz 5
   have c6 := x2.cell (j := 6) rfl
   have z6 := x2.frz 6
   have c7 := x2.cell (j := 7) rfl
   have z7 := x2.frz 7
   have c8 := x2.cell (j := 8) rfl
   have z8 := x2.frz 8
   have c9 := x2.cell (j := 9) rfl
   have z9 := x2.frz 9
   go_upto_region 31 with fail
   have x3 : Boxed (wf.setCell ⟨w.heap.size + 1, 4, none⟩ (.slice af on cf)) (w.heap.size + 1) #[.int .u8 1, .int .u32 id, .int .u32 0, .slice av nn cv, .slice af on cf, .int .u32 0, .slice none 0 0, .int .i64 0, .int .i64 0, .slice none 0 0] 46 := x2.set 4 _
   have y3 : Boxed (wf.setCell ⟨w.heap.size + 1, 4, none⟩ (.slice af on cf)) w.heap.size #[.int .u8 0, .int .u32 0, .int .u32 0, .slice none 0 0, .slice none 0 0, .int .u32 0, .slice none 0 0, .int .i64 0, .int .i64 0, .slice none 0 0] 46 := y2.grown (grown_at _ _ _ _) (by simp only [ne_eq, oiQ]; omega)
   have b3 : Below w.heap.size w (wf.setCell ⟨w.heap.size + 1, 4, none⟩ (.slice af on cf)) := b2.setCell (by simp) _
   have n0 := n0.far (grown_at wf (w.heap.size + 1) 4 (.slice af on cf)) (x2.far (by decide))
   have f0 := f0.far (grown_at wf (w.heap.size + 1) 4 (.slice af on cf)) (x2.far (by decide)) (x2.far (by decide))
   generalize (wf.setCell ⟨w.heap.size + 1, 4, none⟩ (.slice af on cf)) = w3 at x3 y3 b3 n0 f0 ⊢
   clear x2 y2 b2
   clear c0 z0 c1 z1 c2 z2 c3 z3 c4 z4 c5 z5 c6 z6 c7 z7 c8 z8 c9 z9
   have HF : Aside (∀ W, w3.grownBy W (some w.heap.size) → MkRes 1 (ss = []) (mkQ kind id at_ nodes frm til fs es) (.agg #[.int .u8 1, .int .u32 id, .int .u32 0, .slice av nn cv, .slice af on cf, .int .u32 0, .slice none 0 0, .int .i64 0, .int .i64 0, .slice none 0 0]) W ∧ Below w.heap.size w W) := fun W hG => by
    have hO : RcOwn w.heap.size w3 ⟨1, id, 0, av, cv, l, af, cf, os, 0, none, 0, [], 0, 0, none, 0, []⟩ := ⟨by show (0 : Int) ≤ 1 ∧ (1 : Int) ≤ 255; omega, HU.out.1, u32_nought, by rw [HN.out.2.1]; exact n0, by rw [HO.out.1]; exact f0, u32_nought, ss_nil _ _, i64_nought, i64_nought, es_nil _ _⟩
    refine ⟨⟨⟨1, id, 0, av, cv, l, af, cf, os, 0, none, 0, [], 0, 0, none, 0, []⟩, by unfold rcV rcC; simp [HN.out.2.1, HO.out.1], ⟨_, hO.far hG (y3.far (by decide)) (y3.far (by decide)) (y3.far (by decide)) (y3.far (by decide))⟩, ?_, rfl, fun hss => ?_⟩, b3.grown hG b3.size (fun q hq => by injection hq; omega)⟩
    ·have e1 : (pr ⟨1, id, 0, av, cv, l, af, cf, os, 0, none, 0, [], 0, 0, none, 0, []⟩).facts = (fs.take 60).map mkF := HO.out.2
     show sndRec _ = true
     simp only [sndRec, pr, bareA, bareM, bareR, if_true, List.length_nil, decide_true, Bool.and_self, Bool.true_and, List.map_nil]
     rw [HO.out.2, HN.out.1, mkF_ok]
     rfl
    ·unfold mkQ
     rw [if_pos HK.out]
     show (⟨1, id, 0, l, os.map pf, 0, [], 0, 0, []⟩ : PRec) = _
     rw [HO.out.2, HN.out.2.2]
   have c0 := x3.cell (j := 0) rfl
   have e0 := y3.cell (j := 0) rfl
   have z0 := y3.frz 0
   have c1 := x3.cell (j := 1) rfl
   have e1 := y3.cell (j := 1) rfl
   have z1 := y3.frz 1
   have c2 := x3.cell (j := 2) rfl
   have e2 := y3.cell (j := 2) rfl
   have z2 := y3.frz 2
   have c3 := x3.cell (j := 3) rfl
   have e3 := y3.cell (j := 3) rfl
   have z3 := y3.frz 3
   have c4 := x3.cell (j := 4) rfl
   have e4 := y3.cell (j := 4) rfl
   have z4 := y3.frz 4
   have c5 := x3.cell (j := 5) rfl
   have e5 := y3.cell (j := 5) rfl
   have z5 := y3.frz 5
   have c6 := x3.cell (j := 6) rfl
   have e6 := y3.cell (j := 6) rfl
   have z6 := y3.frz 6
   have c7 := x3.cell (j := 7) rfl
   have e7 := y3.cell (j := 7) rfl
   have z7 := y3.frz 7
   have c8 := x3.cell (j := 8) rfl
   have e8 := y3.cell (j := 8) rfl
   have z8 := y3.frz 8
   have c9 := x3.cell (j := 9) rfl
   have e9 := y3.cell (j := 9) rfl
   have z9 := y3.frz 9
   clear x3 y3 b3 n0 f0
   go_wp2
   refine bodyPost_ret (v := .agg #[.int .u8 1, .int .u32 id, .int .u32 0, .slice av nn cv, .slice af on cf, .int .u32 0, .slice none 0 0, .int .i64 0, .int .i64 0, .slice none 0 0]) (by simp [results, Tryz.results33, go_sem, *]) rfl ⟨_, rfl, (HF.out _ ?_).1, (HF.out _ ?_).2⟩
   ·iterate 9 (refine grown_trans ?_ (grown_at _ _ _ _))
    exact grown_at _ _ _ _
   ·iterate 9 (refine grown_trans ?_ (grown_at _ _ _ _))
    exact grown_at _ _ _ _
theorem make_2 (kind id at_ nodes frm til : Int) (fa sa ea : Option Addr) (fn fc sn sc en ec : Nat) (fs : List Ft) (ss : List Int) (es : List Et) (w : World) (hk : kind % 7 = 1) (hk0 : 0 ≤ kind ∧ kind ≤ 255) (hid : U32 id) (hat : U32 at_) (hn0 : 0 ≤ nodes ∧ nodes ≤ 255)
  (hF : FactsIn w fa fs) (hf : fs.length = fn) (hfm : fn ≤ 9223372036854775807) (hS : dims.Nums .u16 w sa sn sc ss) (hfr : 0 ≤ frm ∧ frm ≤ 65535) (hti : 0 ≤ til ∧ til ≤ 65535) (hE : EntsIn w ea es) (he : es.length = en) (hem : en ≤ 9223372036854775807) :
  Calls Tryz.prog 33 #[.int .u8 kind, .int .u32 id, .int .u32 at_, .int .u8 nodes, .slice fa fn fc, .slice sa sn sc, .int .u16 frm, .int .u16 til, .slice ea en ec] w fun e w' => ∃ v, e = .returned v ∧ MkRes 2 (ss = []) (mkQ kind id at_ nodes frm til fs es) v w' ∧ Below w.heap.size w w' := by
 obtain ⟨i0, hi, hz0, hz1, hz2⟩ := info_parts info_int2
 have htm : kind.tmod 7 = 1 := by rw [Int.tmod_eq_emod_of_nonneg hk0.1]; exact hk
 have hb2 : Below w.heap.size w ((w.alloc (.cells #[.int .u8 0, .int .u32 0, .int .u32 0, .slice none 0 0, .slice none 0 0, .int .u32 0, .slice none 0 0, .int .i64 0, .int .i64 0, .slice none 0 0] 46)).alloc (.cells #[.int .u8 2, .int .u32 id, .int .u32 0, .slice none 0 0, .slice none 0 0, .int .u32 0, .slice none 0 0, .int .i64 0, .int .i64 0, .slice none 0 0] 46)) := ((Below.refl _ _).alloc (nrQ _) _).alloc (by simp) _
 have hx0 : Boxed ((w.alloc (.cells #[.int .u8 0, .int .u32 0, .int .u32 0, .slice none 0 0, .slice none 0 0, .int .u32 0, .slice none 0 0, .int .i64 0, .int .i64 0, .slice none 0 0] 46)).alloc (.cells #[.int .u8 2, .int .u32 id, .int .u32 0, .slice none 0 0, .slice none 0 0, .int .u32 0, .slice none 0 0, .int .i64 0, .int .i64 0, .slice none 0 0] 46)) w.heap.size #[.int .u8 0, .int .u32 0, .int .u32 0, .slice none 0 0, .slice none 0 0, .int .u32 0, .slice none 0 0, .int .i64 0, .int .i64 0, .slice none 0 0] 46 := (Boxed.new w #[.int .u8 0, .int .u32 0, .int .u32 0, .slice none 0 0, .slice none 0 0, .int .u32 0, .slice none 0 0, .int .i64 0, .int .i64 0, .slice none 0 0] 46).below ((Below.refl _ _).alloc (nrQ _) _)
 have hx1 : Boxed ((w.alloc (.cells #[.int .u8 0, .int .u32 0, .int .u32 0, .slice none 0 0, .slice none 0 0, .int .u32 0, .slice none 0 0, .int .i64 0, .int .i64 0, .slice none 0 0] 46)).alloc (.cells #[.int .u8 2, .int .u32 id, .int .u32 0, .slice none 0 0, .slice none 0 0, .int .u32 0, .slice none 0 0, .int .i64 0, .int .i64 0, .slice none 0 0] 46)) (w.heap.size + 1) #[.int .u8 2, .int .u32 id, .int .u32 0, .slice none 0 0, .slice none 0 0, .int .u32 0, .slice none 0 0, .int .i64 0, .int .i64 0, .slice none 0 0] 46 := by
  have := Boxed.new (w.alloc (.cells #[.int .u8 0, .int .u32 0, .int .u32 0, .slice none 0 0, .slice none 0 0, .int .u32 0, .slice none 0 0, .int .i64 0, .int .i64 0, .slice none 0 0] 46)) #[.int .u8 2, .int .u32 id, .int .u32 0, .slice none 0 0, .slice none 0 0, .int .u32 0, .slice none 0 0, .int .i64 0, .int .i64 0, .slice none 0 0] 46
  rwa [show (w.alloc (.cells #[.int .u8 0, .int .u32 0, .int .u32 0, .slice none 0 0, .slice none 0 0, .int .u32 0, .slice none 0 0, .int .i64 0, .int .i64 0, .slice none 0 0] 46)).heap.size = w.heap.size + 1 by simp] at this
 have HU : Aside (U32 id ∧ U32 at_) := ⟨hid, hat⟩
 have HA : Aside (FactsIn w fa fs ∧ fs.length = fn ∧ fn ≤ 9223372036854775807 ∧ dims.Nums .u16 w sa sn sc ss ∧ EntsIn w ea es ∧ es.length = en) := ⟨hF, hf, hfm, hS, hE, he⟩
 have hsm : sn ≤ 9223372036854775807 := by have h1 := hS.lec; have h2 := hS.max; rw [maxLen_9] at h2; omega
 have HK : Aside (kind % 7 = 1) := hk
 clear hk hid hat hF hf hS hE he
 go_enter Tryz.func33, Tryz.ntmps33
 go_upto_region 2 with fail
 generalize hW2 : ((w.alloc (.cells #[.int .u8 0, .int .u32 0, .int .u32 0, .slice none 0 0, .slice none 0 0, .int .u32 0, .slice none 0 0, .int .i64 0, .int .i64 0, .slice none 0 0] 46)).alloc (.cells #[.int .u8 2, .int .u32 id, .int .u32 0, .slice none 0 0, .slice none 0 0, .int .u32 0, .slice none 0 0, .int .i64 0, .int .i64 0, .slice none 0 0] 46)) = W2 at hb2 hx0 hx1 ⊢
 have H2 : Aside (Below w.heap.size w W2 ∧ Boxed W2 w.heap.size #[.int .u8 0, .int .u32 0, .int .u32 0, .slice none 0 0, .slice none 0 0, .int .u32 0, .slice none 0 0, .int .i64 0, .int .i64 0, .slice none 0 0] 46 ∧ Boxed W2 (w.heap.size + 1) #[.int .u8 2, .int .u32 id, .int .u32 0, .slice none 0 0, .slice none 0 0, .int .u32 0, .slice none 0 0, .int .i64 0, .int .i64 0, .slice none 0 0] 46) := ⟨hb2, hx0, hx1⟩
 have hlt2 := hx1.lt
 clear hb2 hx0 hx1 hW2
 go_wp2_with fail
 go_loopg [20, 21] 6 (fun g1 vv vi wr => ∃ (k nn : Nat) (av : Option Addr) (cv : Nat), vv = .slice av nn cv ∧ vi = .int .i64 k ∧ k ≤ 6 ∧ 6 - k ≤ g1 ∧ nn ≤ k ∧ Aside (∃ l, l.length = nn ∧ wr.ownsRow W2.heap.size 3 1 (.slice av nn cv) nn (vals l) ∧ NdL nodes l k ∧ Below W2.heap.size W2 wr))
 case atStart => exact ⟨0, 0, none, 0, rfl, rfl, Nat.zero_le _, nrQ _, nrQ _, [], rfl, World.ownsRow_nil _ _ _ _, NdL.nil _, Below.refl _ _⟩
 case round =>
  obtain ⟨k, nn, av, cv, rfl, rfl, hk6, hg1, hnk, SK⟩ := hrel
  by_cases hlt : k < 6
  ·have hltz : (k : Int) < 6 := by omega
   obtain ⟨l, hl1, hown, hl3, hl4⟩ := SK.out
   have HL : Aside (l.length = nn ∧ NdL nodes l k ∧ Below W2.heap.size W2 wr) := ⟨hl1, hl3, hl4⟩
   have hsz := hl4.size
   clear SK hl1 hl3 hl4
   go_wp2_with (at_builtin; refine wpList_append_lies _ rfl _ _ 39 rfl W2.heap.size 3 i0 _ 1 8 Tryz.underlying39 hi hz0 hz1 hz2 rfl (by decide) _ nn _ rfl (hown.alloc _) ⟨wr.heap.size, 0, none⟩ 1 1 [Value.int .i64 k] rfl rfl (cell_one_new _ _ _) (by intro u hu; simp at hu; subst hu; rfl) (by omega) (by unfold maxLen; omega) (by omega) (by simp; omega) (wr.heap.size + 1) (by simp) ?_; intro g c3 w3 hown3 hgrow hat3 hglt)
   ·rename_i hbit
    have S3 : Aside (∃ l, l.length = nn + 1 ∧ w3.ownsRow W2.heap.size 3 1 (.slice (some ⟨g, 0, none⟩) (nn + 1) c3) (nn + 1) (vals l) ∧ NdL nodes l (k + 1) ∧ Below W2.heap.size W2 w3) := by
     refine ⟨l ++ [(k : Int)], by simp [HL.out.1], ?_, HL.out.2.1.push hbit (by omega), ?_⟩
     ·have e1 : vals (l ++ [(k : Int)]) = vals l ++ [Value.int .i64 k] := by simp [vals]
      rw [e1]; exact hown3
     ·exact (HL.out.2.2.alloc hsz _).grown hgrow (by simp; omega) fun q hq => (World.ownsRow.lt hown _ hq).1
    clear hown3 hgrow hat3 hglt hown
    go_wp2
    go_roundg (6 - (k + 1))
    case measure => omega
    case rel => exact ⟨k + 1, nn + 1, _, _, rfl, by go_num, by omega, by omega, by omega, S3⟩
   ·rename_i hbit
    have S3 : Aside (∃ l, l.length = nn ∧ wr.ownsRow W2.heap.size 3 1 (.slice av nn cv) nn (vals l) ∧ NdL nodes l (k + 1) ∧ Below W2.heap.size W2 wr) := ⟨l, HL.out.1, hown, HL.out.2.1.skip hbit, HL.out.2.2⟩
    clear hown
    go_roundg (6 - (k + 1))
    case measure => omega
    case rel => exact ⟨k + 1, nn, _, _, rfl, by go_num, by omega, by omega, by omega, S3⟩
  ·have hltz : ¬ (k : Int) < 6 := by omega
   obtain ⟨l, hl1, hl2, hl3, hl4⟩ := SK.out
   have hke : k = 6 := by omega
   subst hke
   have b0 : Below w.heap.size w wr := H2.out.1.trans (hl4.mono H2.out.1.size)
   have y0 : Boxed wr w.heap.size #[.int .u8 0, .int .u32 0, .int .u32 0, .slice none 0 0, .slice none 0 0, .int .u32 0, .slice none 0 0, .int .i64 0, .int .i64 0, .slice none 0 0] 46 := H2.out.2.1.below hl4
   have x0 : Boxed wr (w.heap.size + 1) #[.int .u8 2, .int .u32 id, .int .u32 0, .slice none 0 0, .slice none 0 0, .int .u32 0, .slice none 0 0, .int .i64 0, .int .i64 0, .slice none 0 0] 46 := H2.out.2.2.below hl4
   have HN : Aside (nodesOk l = true ∧ l.length = nn ∧ l = ndL nodes 6) := ⟨hl3.1, hl1, hl3.2.2⟩
   have n0 : NsOwn w.heap.size wr (.slice av nn cv) l := ⟨by rw [hl1]; exact own_mono hl2 (by omega), hl3.ok (nrQ _)⟩
   clear SK hl1 hl2 hl3 hl4
   generalize wr = w0 at b0 y0 x0 n0 ⊢
   have c0 := x0.cell (j := 0) rfl
   have z0 := x0.frz 0
   have c1 := x0.cell (j := 1) rfl
   have z1 := x0.frz 1
   have c2 := x0.cell (j := 2) rfl
   have z2 := x0.frz 2
   have c3 := x0.cell (j := 3) rfl
   have z3 := x0.frz 3
   have c4 := x0.cell (j := 4) rfl
   have z4 := x0.frz 4
   have c5 := x0.cell (j := 5) rfl
   have z5 := x0.frz 5
   have c6 := x0.cell (j := 6) rfl
   have z6 := x0.frz 6
   have c7 := x0.cell (j := 7) rfl
   have z7 := x0.frz 7
   have c8 := x0.cell (j := 8) rfl
   have z8 := x0.frz 8
   have c9 := x0.cell (j := 9) rfl
   have z9 := x0.frz 9
   go_upto_region 14 with fail
   have x1 : Boxed (w0.setCell ⟨w.heap.size + 1, 2, none⟩ (.int .u32 at_)) (w.heap.size + 1) #[.int .u8 2, .int .u32 id, .int .u32 at_, .slice none 0 0, .slice none 0 0, .int .u32 0, .slice none 0 0, .int .i64 0, .int .i64 0, .slice none 0 0] 46 := x0.set 2 _
   have y1 : Boxed (w0.setCell ⟨w.heap.size + 1, 2, none⟩ (.int .u32 at_)) w.heap.size #[.int .u8 0, .int .u32 0, .int .u32 0, .slice none 0 0, .slice none 0 0, .int .u32 0, .slice none 0 0, .int .i64 0, .int .i64 0, .slice none 0 0] 46 := y0.grown (grown_at _ _ _ _) (by simp only [ne_eq, oiQ]; omega)
   have b1 : Below w.heap.size w (w0.setCell ⟨w.heap.size + 1, 2, none⟩ (.int .u32 at_)) := b0.setCell (by simp) _
   have n0 := n0.far (grown_at w0 (w.heap.size + 1) 2 (.int .u32 at_)) (x0.far (by decide))
   generalize (w0.setCell ⟨w.heap.size + 1, 2, none⟩ (.int .u32 at_)) = w1 at x1 y1 b1 n0 ⊢
   clear x0 y0 b0
   clear c0 z0 c1 z1 c2 z2 c3 z3 c4 z4 c5 z5 c6 z6 c7 z7 c8 z8 c9 z9
   have c0 := x1.cell (j := 0) rfl
   have z0 := x1.frz 0
   have c1 := x1.cell (j := 1) rfl
   have z1 := x1.frz 1
   have c2 := x1.cell (j := 2) rfl
   have z2 := x1.frz 2
   have c3 := x1.cell (j := 3) rfl
   have z3 := x1.frz 3
   have c4 := x1.cell (j := 4) rfl
   have z4 := x1.frz 4
   have c5 := x1.cell (j := 5) rfl
   have z5 := x1.frz 5
   have c6 := x1.cell (j := 6) rfl
   have z6 := x1.frz 6
   have c7 := x1.cell (j := 7) rfl
   have z7 := x1.frz 7
   have c8 := x1.cell (j := 8) rfl
   have z8 := x1.frz 8
   have c9 := x1.cell (j := 9) rfl
   have z9 := x1.frz 9
   go_upto_region 31 with fail
   have x2 : Boxed (w1.setCell ⟨w.heap.size + 1, 3, none⟩ (.slice av nn cv)) (w.heap.size + 1) #[.int .u8 2, .int .u32 id, .int .u32 at_, .slice av nn cv, .slice none 0 0, .int .u32 0, .slice none 0 0, .int .i64 0, .int .i64 0, .slice none 0 0] 46 := x1.set 3 _
   have y2 : Boxed (w1.setCell ⟨w.heap.size + 1, 3, none⟩ (.slice av nn cv)) w.heap.size #[.int .u8 0, .int .u32 0, .int .u32 0, .slice none 0 0, .slice none 0 0, .int .u32 0, .slice none 0 0, .int .i64 0, .int .i64 0, .slice none 0 0] 46 := y1.grown (grown_at _ _ _ _) (by simp only [ne_eq, oiQ]; omega)
   have b2 : Below w.heap.size w (w1.setCell ⟨w.heap.size + 1, 3, none⟩ (.slice av nn cv)) := b1.setCell (by simp) _
   have n0 := n0.far (grown_at w1 (w.heap.size + 1) 3 (.slice av nn cv)) (x1.far (by decide))
   generalize (w1.setCell ⟨w.heap.size + 1, 3, none⟩ (.slice av nn cv)) = w2 at x2 y2 b2 n0 ⊢
   clear x1 y1 b1
   clear c0 z0 c1 z1 c2 z2 c3 z3 c4 z4 c5 z5 c6 z6 c7 z7 c8 z8 c9 z9
   have HF : Aside (∀ W, w2.grownBy W (some w.heap.size) → MkRes 2 (ss = []) (mkQ kind id at_ nodes frm til fs es) (.agg #[.int .u8 2, .int .u32 id, .int .u32 at_, .slice av nn cv, .slice none 0 0, .int .u32 0, .slice none 0 0, .int .i64 0, .int .i64 0, .slice none 0 0]) W ∧ Below w.heap.size w W) := fun W hG => by
    have hO : RcOwn w.heap.size w2 ⟨2, id, at_, av, cv, l, none, 0, [], 0, none, 0, [], 0, 0, none, 0, []⟩ := ⟨by show (0 : Int) ≤ 2 ∧ (2 : Int) ≤ 255; omega, HU.out.1, HU.out.2, by rw [HN.out.2.1]; exact n0, fs_nil _ _, u32_nought, ss_nil _ _, i64_nought, i64_nought, es_nil _ _⟩
    refine ⟨⟨⟨2, id, at_, av, cv, l, none, 0, [], 0, none, 0, [], 0, 0, none, 0, []⟩, by unfold rcV rcC; simp [HN.out.2.1], ⟨_, hO.far hG (y2.far (by decide)) (y2.far (by decide)) (y2.far (by decide)) (y2.far (by decide))⟩, ?_, rfl, fun hss => ?_⟩, b2.grown hG b2.size (fun q hq => by injection hq; omega)⟩
    ·show sndRec _ = true
     dsimp only [sndRec, pr, bareA, bareN, bareF, bareI, bareM, bareR]
     rw [HN.out.1]
     rfl
    ·unfold mkQ
     rw [if_neg (by have := HK.out; omega), if_pos HK.out]
     show (⟨2, id, at_, l, [], 0, [], 0, 0, []⟩ : PRec) = _
     rw [HN.out.2.2]
   have c0 := x2.cell (j := 0) rfl
   have e0 := y2.cell (j := 0) rfl
   have z0 := y2.frz 0
   have c1 := x2.cell (j := 1) rfl
   have e1 := y2.cell (j := 1) rfl
   have z1 := y2.frz 1
   have c2 := x2.cell (j := 2) rfl
   have e2 := y2.cell (j := 2) rfl
   have z2 := y2.frz 2
   have c3 := x2.cell (j := 3) rfl
   have e3 := y2.cell (j := 3) rfl
   have z3 := y2.frz 3
   have c4 := x2.cell (j := 4) rfl
   have e4 := y2.cell (j := 4) rfl
   have z4 := y2.frz 4
   have c5 := x2.cell (j := 5) rfl
   have e5 := y2.cell (j := 5) rfl
   have z5 := y2.frz 5
   have c6 := x2.cell (j := 6) rfl
   have e6 := y2.cell (j := 6) rfl
   have z6 := y2.frz 6
   have c7 := x2.cell (j := 7) rfl
   have e7 := y2.cell (j := 7) rfl
   have z7 := y2.frz 7
   have c8 := x2.cell (j := 8) rfl
   have e8 := y2.cell (j := 8) rfl
   have z8 := y2.frz 8
   have c9 := x2.cell (j := 9) rfl
   have e9 := y2.cell (j := 9) rfl
   have z9 := y2.frz 9
   clear x2 y2 b2 n0
   go_wp2
   refine bodyPost_ret (v := .agg #[.int .u8 2, .int .u32 id, .int .u32 at_, .slice av nn cv, .slice none 0 0, .int .u32 0, .slice none 0 0, .int .i64 0, .int .i64 0, .slice none 0 0]) (by simp [results, Tryz.results33, go_sem, *]) rfl ⟨_, rfl, (HF.out _ ?_).1, (HF.out _ ?_).2⟩
   ·iterate 9 (refine grown_trans ?_ (grown_at _ _ _ _))
    exact grown_at _ _ _ _
   ·iterate 9 (refine grown_trans ?_ (grown_at _ _ _ _))
    exact grown_at _ _ _ _
theorem make_3 (kind id at_ nodes frm til : Int) (fa sa ea : Option Addr) (fn fc sn sc en ec : Nat) (fs : List Ft) (ss : List Int) (es : List Et) (w : World) (hk : kind % 7 = 2) (hk0 : 0 ≤ kind ∧ kind ≤ 255) (hid : U32 id) (hat : U32 at_) (hn0 : 0 ≤ nodes ∧ nodes ≤ 255)
  (hF : FactsIn w fa fs) (hf : fs.length = fn) (hfm : fn ≤ 9223372036854775807) (hS : dims.Nums .u16 w sa sn sc ss) (hfr : 0 ≤ frm ∧ frm ≤ 65535) (hti : 0 ≤ til ∧ til ≤ 65535) (hE : EntsIn w ea es) (he : es.length = en) (hem : en ≤ 9223372036854775807) :
  Calls Tryz.prog 33 #[.int .u8 kind, .int .u32 id, .int .u32 at_, .int .u8 nodes, .slice fa fn fc, .slice sa sn sc, .int .u16 frm, .int .u16 til, .slice ea en ec] w fun e w' => ∃ v, e = .returned v ∧ MkRes 3 (ss = []) (mkQ kind id at_ nodes frm til fs es) v w' ∧ Below w.heap.size w w' := by
 obtain ⟨i0, hi, hz0, hz1, hz2⟩ := info_parts info_int2
 have htm : kind.tmod 7 = 2 := by rw [Int.tmod_eq_emod_of_nonneg hk0.1]; exact hk
 have hb2 : Below w.heap.size w ((w.alloc (.cells #[.int .u8 0, .int .u32 0, .int .u32 0, .slice none 0 0, .slice none 0 0, .int .u32 0, .slice none 0 0, .int .i64 0, .int .i64 0, .slice none 0 0] 46)).alloc (.cells #[.int .u8 3, .int .u32 id, .int .u32 0, .slice none 0 0, .slice none 0 0, .int .u32 0, .slice none 0 0, .int .i64 0, .int .i64 0, .slice none 0 0] 46)) := ((Below.refl _ _).alloc (nrQ _) _).alloc (by simp) _
 have hx0 : Boxed ((w.alloc (.cells #[.int .u8 0, .int .u32 0, .int .u32 0, .slice none 0 0, .slice none 0 0, .int .u32 0, .slice none 0 0, .int .i64 0, .int .i64 0, .slice none 0 0] 46)).alloc (.cells #[.int .u8 3, .int .u32 id, .int .u32 0, .slice none 0 0, .slice none 0 0, .int .u32 0, .slice none 0 0, .int .i64 0, .int .i64 0, .slice none 0 0] 46)) w.heap.size #[.int .u8 0, .int .u32 0, .int .u32 0, .slice none 0 0, .slice none 0 0, .int .u32 0, .slice none 0 0, .int .i64 0, .int .i64 0, .slice none 0 0] 46 := (Boxed.new w #[.int .u8 0, .int .u32 0, .int .u32 0, .slice none 0 0, .slice none 0 0, .int .u32 0, .slice none 0 0, .int .i64 0, .int .i64 0, .slice none 0 0] 46).below ((Below.refl _ _).alloc (nrQ _) _)
 have hx1 : Boxed ((w.alloc (.cells #[.int .u8 0, .int .u32 0, .int .u32 0, .slice none 0 0, .slice none 0 0, .int .u32 0, .slice none 0 0, .int .i64 0, .int .i64 0, .slice none 0 0] 46)).alloc (.cells #[.int .u8 3, .int .u32 id, .int .u32 0, .slice none 0 0, .slice none 0 0, .int .u32 0, .slice none 0 0, .int .i64 0, .int .i64 0, .slice none 0 0] 46)) (w.heap.size + 1) #[.int .u8 3, .int .u32 id, .int .u32 0, .slice none 0 0, .slice none 0 0, .int .u32 0, .slice none 0 0, .int .i64 0, .int .i64 0, .slice none 0 0] 46 := by
  have := Boxed.new (w.alloc (.cells #[.int .u8 0, .int .u32 0, .int .u32 0, .slice none 0 0, .slice none 0 0, .int .u32 0, .slice none 0 0, .int .i64 0, .int .i64 0, .slice none 0 0] 46)) #[.int .u8 3, .int .u32 id, .int .u32 0, .slice none 0 0, .slice none 0 0, .int .u32 0, .slice none 0 0, .int .i64 0, .int .i64 0, .slice none 0 0] 46
  rwa [show (w.alloc (.cells #[.int .u8 0, .int .u32 0, .int .u32 0, .slice none 0 0, .slice none 0 0, .int .u32 0, .slice none 0 0, .int .i64 0, .int .i64 0, .slice none 0 0] 46)).heap.size = w.heap.size + 1 by simp] at this
 have HU : Aside (U32 id ∧ U32 at_) := ⟨hid, hat⟩
 have HA : Aside (FactsIn w fa fs ∧ fs.length = fn ∧ fn ≤ 9223372036854775807 ∧ dims.Nums .u16 w sa sn sc ss ∧ EntsIn w ea es ∧ es.length = en) := ⟨hF, hf, hfm, hS, hE, he⟩
 have hsm : sn ≤ 9223372036854775807 := by have h1 := hS.lec; have h2 := hS.max; rw [maxLen_9] at h2; omega
 have HK : Aside (kind % 7 = 2) := hk
 clear hk hid hat hF hf hS hE he
 go_enter Tryz.func33, Tryz.ntmps33
 go_upto_region 2 with fail
 generalize hW2 : ((w.alloc (.cells #[.int .u8 0, .int .u32 0, .int .u32 0, .slice none 0 0, .slice none 0 0, .int .u32 0, .slice none 0 0, .int .i64 0, .int .i64 0, .slice none 0 0] 46)).alloc (.cells #[.int .u8 3, .int .u32 id, .int .u32 0, .slice none 0 0, .slice none 0 0, .int .u32 0, .slice none 0 0, .int .i64 0, .int .i64 0, .slice none 0 0] 46)) = W2 at hb2 hx0 hx1 ⊢
 have H2 : Aside (Below w.heap.size w W2 ∧ Boxed W2 w.heap.size #[.int .u8 0, .int .u32 0, .int .u32 0, .slice none 0 0, .slice none 0 0, .int .u32 0, .slice none 0 0, .int .i64 0, .int .i64 0, .slice none 0 0] 46 ∧ Boxed W2 (w.heap.size + 1) #[.int .u8 3, .int .u32 id, .int .u32 0, .slice none 0 0, .slice none 0 0, .int .u32 0, .slice none 0 0, .int .i64 0, .int .i64 0, .slice none 0 0] 46) := ⟨hb2, hx0, hx1⟩
 have hlt2 := hx1.lt
 clear hb2 hx0 hx1 hW2
 go_wp2_with fail
 go_loopg [20, 21] 6 (fun g1 vv vi wr => ∃ (k nn : Nat) (av : Option Addr) (cv : Nat), vv = .slice av nn cv ∧ vi = .int .i64 k ∧ k ≤ 6 ∧ 6 - k ≤ g1 ∧ nn ≤ k ∧ Aside (∃ l, l.length = nn ∧ wr.ownsRow W2.heap.size 3 1 (.slice av nn cv) nn (vals l) ∧ NdL nodes l k ∧ Below W2.heap.size W2 wr))
 case atStart => exact ⟨0, 0, none, 0, rfl, rfl, Nat.zero_le _, nrQ _, nrQ _, [], rfl, World.ownsRow_nil _ _ _ _, NdL.nil _, Below.refl _ _⟩
 case round =>
  obtain ⟨k, nn, av, cv, rfl, rfl, hk6, hg1, hnk, SK⟩ := hrel
  by_cases hlt : k < 6
  ·have hltz : (k : Int) < 6 := by omega
   obtain ⟨l, hl1, hown, hl3, hl4⟩ := SK.out
   have HL : Aside (l.length = nn ∧ NdL nodes l k ∧ Below W2.heap.size W2 wr) := ⟨hl1, hl3, hl4⟩
   have hsz := hl4.size
   clear SK hl1 hl3 hl4
   go_wp2_with (at_builtin; refine wpList_append_lies _ rfl _ _ 39 rfl W2.heap.size 3 i0 _ 1 8 Tryz.underlying39 hi hz0 hz1 hz2 rfl (by decide) _ nn _ rfl (hown.alloc _) ⟨wr.heap.size, 0, none⟩ 1 1 [Value.int .i64 k] rfl rfl (cell_one_new _ _ _) (by intro u hu; simp at hu; subst hu; rfl) (by omega) (by unfold maxLen; omega) (by omega) (by simp; omega) (wr.heap.size + 1) (by simp) ?_; intro g c3 w3 hown3 hgrow hat3 hglt)
   ·rename_i hbit
    have S3 : Aside (∃ l, l.length = nn + 1 ∧ w3.ownsRow W2.heap.size 3 1 (.slice (some ⟨g, 0, none⟩) (nn + 1) c3) (nn + 1) (vals l) ∧ NdL nodes l (k + 1) ∧ Below W2.heap.size W2 w3) := by
     refine ⟨l ++ [(k : Int)], by simp [HL.out.1], ?_, HL.out.2.1.push hbit (by omega), ?_⟩
     ·have e1 : vals (l ++ [(k : Int)]) = vals l ++ [Value.int .i64 k] := by simp [vals]
      rw [e1]; exact hown3
     ·exact (HL.out.2.2.alloc hsz _).grown hgrow (by simp; omega) fun q hq => (World.ownsRow.lt hown _ hq).1
    clear hown3 hgrow hat3 hglt hown
    go_wp2
    go_roundg (6 - (k + 1))
    case measure => omega
    case rel => exact ⟨k + 1, nn + 1, _, _, rfl, by go_num, by omega, by omega, by omega, S3⟩
   ·rename_i hbit
    have S3 : Aside (∃ l, l.length = nn ∧ wr.ownsRow W2.heap.size 3 1 (.slice av nn cv) nn (vals l) ∧ NdL nodes l (k + 1) ∧ Below W2.heap.size W2 wr) := ⟨l, HL.out.1, hown, HL.out.2.1.skip hbit, HL.out.2.2⟩
    clear hown
    go_roundg (6 - (k + 1))
    case measure => omega
    case rel => exact ⟨k + 1, nn, _, _, rfl, by go_num, by omega, by omega, by omega, S3⟩
  ·have hltz : ¬ (k : Int) < 6 := by omega
   obtain ⟨l, hl1, hl2, hl3, hl4⟩ := SK.out
   have hke : k = 6 := by omega
   subst hke
   have b0 : Below w.heap.size w wr := H2.out.1.trans (hl4.mono H2.out.1.size)
   have y0 : Boxed wr w.heap.size #[.int .u8 0, .int .u32 0, .int .u32 0, .slice none 0 0, .slice none 0 0, .int .u32 0, .slice none 0 0, .int .i64 0, .int .i64 0, .slice none 0 0] 46 := H2.out.2.1.below hl4
   have x0 : Boxed wr (w.heap.size + 1) #[.int .u8 3, .int .u32 id, .int .u32 0, .slice none 0 0, .slice none 0 0, .int .u32 0, .slice none 0 0, .int .i64 0, .int .i64 0, .slice none 0 0] 46 := H2.out.2.2.below hl4
   have HN : Aside (nodesOk l = true ∧ l.length = nn ∧ l = ndL nodes 6) := ⟨hl3.1, hl1, hl3.2.2⟩
   have n0 : NsOwn w.heap.size wr (.slice av nn cv) l := ⟨by rw [hl1]; exact own_mono hl2 (by omega), hl3.ok (nrQ _)⟩
   clear SK hl1 hl2 hl3 hl4
   generalize wr = w0 at b0 y0 x0 n0 ⊢
   have c0 := x0.cell (j := 0) rfl
   have z0 := x0.frz 0
   have c1 := x0.cell (j := 1) rfl
   have z1 := x0.frz 1
   have c2 := x0.cell (j := 2) rfl
   have z2 := x0.frz 2
   have c3 := x0.cell (j := 3) rfl
   have z3 := x0.frz 3
   have c4 := x0.cell (j := 4) rfl
   have z4 := x0.frz 4
   have c5 := x0.cell (j := 5) rfl
   have z5 := x0.frz 5
   have c6 := x0.cell (j := 6) rfl
   have z6 := x0.frz 6
   have c7 := x0.cell (j := 7) rfl
   have z7 := x0.frz 7
   have c8 := x0.cell (j := 8) rfl
   have z8 := x0.frz 8
   have c9 := x0.cell (j := 9) rfl
   have z9 := x0.frz 9
   go_upto_region 31 with fail
   clear c0 z0 c1 z1 c2 z2 c3 z3 c4 z4 c5 z5 c6 z6 c7 z7 c8 z8 c9 z9
   have HF : Aside (∀ W, w0.grownBy W (some w.heap.size) → MkRes 3 (ss = []) (mkQ kind id at_ nodes frm til fs es) (.agg #[.int .u8 3, .int .u32 id, .int .u32 0, .slice none 0 0, .slice none 0 0, .int .u32 0, .slice none 0 0, .int .i64 0, .int .i64 0, .slice none 0 0]) W ∧ Below w.heap.size w W) := fun W hG => by
    have hO : RcOwn w.heap.size w0 ⟨3, id, 0, none, 0, [], none, 0, [], 0, none, 0, [], 0, 0, none, 0, []⟩ := ⟨by show (0 : Int) ≤ 3 ∧ (3 : Int) ≤ 255; omega, HU.out.1, u32_nought, ns_nil _ _, fs_nil _ _, u32_nought, ss_nil _ _, i64_nought, i64_nought, es_nil _ _⟩
    refine ⟨⟨⟨3, id, 0, none, 0, [], none, 0, [], 0, none, 0, [], 0, 0, none, 0, []⟩, by unfold rcV rcC; simp [], ⟨_, hO.far hG (y0.far (by decide)) (y0.far (by decide)) (y0.far (by decide)) (y0.far (by decide))⟩, ?_, rfl, fun hss => ?_⟩, b0.grown hG b0.size (fun q hq => by injection hq; omega)⟩
    ·rfl
    ·unfold mkQ
     rw [if_neg (by have := HK.out; omega), if_neg (by have := HK.out; omega), if_neg (by have := HK.out; omega), if_neg (by have := HK.out; omega)]
     rw [HK.out]
     rfl
   have c0 := x0.cell (j := 0) rfl
   have e0 := y0.cell (j := 0) rfl
   have z0 := y0.frz 0
   have c1 := x0.cell (j := 1) rfl
   have e1 := y0.cell (j := 1) rfl
   have z1 := y0.frz 1
   have c2 := x0.cell (j := 2) rfl
   have e2 := y0.cell (j := 2) rfl
   have z2 := y0.frz 2
   have c3 := x0.cell (j := 3) rfl
   have e3 := y0.cell (j := 3) rfl
   have z3 := y0.frz 3
   have c4 := x0.cell (j := 4) rfl
   have e4 := y0.cell (j := 4) rfl
   have z4 := y0.frz 4
   have c5 := x0.cell (j := 5) rfl
   have e5 := y0.cell (j := 5) rfl
   have z5 := y0.frz 5
   have c6 := x0.cell (j := 6) rfl
   have e6 := y0.cell (j := 6) rfl
   have z6 := y0.frz 6
   have c7 := x0.cell (j := 7) rfl
   have e7 := y0.cell (j := 7) rfl
   have z7 := y0.frz 7
   have c8 := x0.cell (j := 8) rfl
   have e8 := y0.cell (j := 8) rfl
   have z8 := y0.frz 8
   have c9 := x0.cell (j := 9) rfl
   have e9 := y0.cell (j := 9) rfl
   have z9 := y0.frz 9
   clear x0 y0 b0 n0
   go_wp2
   refine bodyPost_ret (v := .agg #[.int .u8 3, .int .u32 id, .int .u32 0, .slice none 0 0, .slice none 0 0, .int .u32 0, .slice none 0 0, .int .i64 0, .int .i64 0, .slice none 0 0]) (by simp [results, Tryz.results33, go_sem, *]) rfl ⟨_, rfl, (HF.out _ ?_).1, (HF.out _ ?_).2⟩
   ·iterate 9 (refine grown_trans ?_ (grown_at _ _ _ _))
    exact grown_at _ _ _ _
   ·iterate 9 (refine grown_trans ?_ (grown_at _ _ _ _))
    exact grown_at _ _ _ _
theorem make_4 (kind id at_ nodes frm til : Int) (fa sa ea : Option Addr) (fn fc sn sc en ec : Nat) (fs : List Ft) (ss : List Int) (es : List Et) (w : World) (hk : kind % 7 = 3) (hk0 : 0 ≤ kind ∧ kind ≤ 255) (hid : U32 id) (hat : U32 at_) (hn0 : 0 ≤ nodes ∧ nodes ≤ 255)
  (hF : FactsIn w fa fs) (hf : fs.length = fn) (hfm : fn ≤ 9223372036854775807) (hS : dims.Nums .u16 w sa sn sc ss) (hfr : 0 ≤ frm ∧ frm ≤ 65535) (hti : 0 ≤ til ∧ til ≤ 65535) (hE : EntsIn w ea es) (he : es.length = en) (hem : en ≤ 9223372036854775807) :
  Calls Tryz.prog 33 #[.int .u8 kind, .int .u32 id, .int .u32 at_, .int .u8 nodes, .slice fa fn fc, .slice sa sn sc, .int .u16 frm, .int .u16 til, .slice ea en ec] w fun e w' => ∃ v, e = .returned v ∧ MkRes 4 (ss = []) (mkQ kind id at_ nodes frm til fs es) v w' ∧ Below w.heap.size w w' := by
 obtain ⟨i0, hi, hz0, hz1, hz2⟩ := info_parts info_int2
 have htm : kind.tmod 7 = 3 := by rw [Int.tmod_eq_emod_of_nonneg hk0.1]; exact hk
 have hb2 : Below w.heap.size w ((w.alloc (.cells #[.int .u8 0, .int .u32 0, .int .u32 0, .slice none 0 0, .slice none 0 0, .int .u32 0, .slice none 0 0, .int .i64 0, .int .i64 0, .slice none 0 0] 46)).alloc (.cells #[.int .u8 4, .int .u32 id, .int .u32 0, .slice none 0 0, .slice none 0 0, .int .u32 0, .slice none 0 0, .int .i64 0, .int .i64 0, .slice none 0 0] 46)) := ((Below.refl _ _).alloc (nrQ _) _).alloc (by simp) _
 have hx0 : Boxed ((w.alloc (.cells #[.int .u8 0, .int .u32 0, .int .u32 0, .slice none 0 0, .slice none 0 0, .int .u32 0, .slice none 0 0, .int .i64 0, .int .i64 0, .slice none 0 0] 46)).alloc (.cells #[.int .u8 4, .int .u32 id, .int .u32 0, .slice none 0 0, .slice none 0 0, .int .u32 0, .slice none 0 0, .int .i64 0, .int .i64 0, .slice none 0 0] 46)) w.heap.size #[.int .u8 0, .int .u32 0, .int .u32 0, .slice none 0 0, .slice none 0 0, .int .u32 0, .slice none 0 0, .int .i64 0, .int .i64 0, .slice none 0 0] 46 := (Boxed.new w #[.int .u8 0, .int .u32 0, .int .u32 0, .slice none 0 0, .slice none 0 0, .int .u32 0, .slice none 0 0, .int .i64 0, .int .i64 0, .slice none 0 0] 46).below ((Below.refl _ _).alloc (nrQ _) _)
 have hx1 : Boxed ((w.alloc (.cells #[.int .u8 0, .int .u32 0, .int .u32 0, .slice none 0 0, .slice none 0 0, .int .u32 0, .slice none 0 0, .int .i64 0, .int .i64 0, .slice none 0 0] 46)).alloc (.cells #[.int .u8 4, .int .u32 id, .int .u32 0, .slice none 0 0, .slice none 0 0, .int .u32 0, .slice none 0 0, .int .i64 0, .int .i64 0, .slice none 0 0] 46)) (w.heap.size + 1) #[.int .u8 4, .int .u32 id, .int .u32 0, .slice none 0 0, .slice none 0 0, .int .u32 0, .slice none 0 0, .int .i64 0, .int .i64 0, .slice none 0 0] 46 := by
  have := Boxed.new (w.alloc (.cells #[.int .u8 0, .int .u32 0, .int .u32 0, .slice none 0 0, .slice none 0 0, .int .u32 0, .slice none 0 0, .int .i64 0, .int .i64 0, .slice none 0 0] 46)) #[.int .u8 4, .int .u32 id, .int .u32 0, .slice none 0 0, .slice none 0 0, .int .u32 0, .slice none 0 0, .int .i64 0, .int .i64 0, .slice none 0 0] 46
  rwa [show (w.alloc (.cells #[.int .u8 0, .int .u32 0, .int .u32 0, .slice none 0 0, .slice none 0 0, .int .u32 0, .slice none 0 0, .int .i64 0, .int .i64 0, .slice none 0 0] 46)).heap.size = w.heap.size + 1 by simp] at this
 have HU : Aside (U32 id ∧ U32 at_) := ⟨hid, hat⟩
 have HA : Aside (FactsIn w fa fs ∧ fs.length = fn ∧ fn ≤ 9223372036854775807 ∧ dims.Nums .u16 w sa sn sc ss ∧ EntsIn w ea es ∧ es.length = en) := ⟨hF, hf, hfm, hS, hE, he⟩
 have hsm : sn ≤ 9223372036854775807 := by have h1 := hS.lec; have h2 := hS.max; rw [maxLen_9] at h2; omega
 have HK : Aside (kind % 7 = 3) := hk
 clear hk hid hat hF hf hS hE he
 go_enter Tryz.func33, Tryz.ntmps33
 go_upto_region 2 with fail
 generalize hW2 : ((w.alloc (.cells #[.int .u8 0, .int .u32 0, .int .u32 0, .slice none 0 0, .slice none 0 0, .int .u32 0, .slice none 0 0, .int .i64 0, .int .i64 0, .slice none 0 0] 46)).alloc (.cells #[.int .u8 4, .int .u32 id, .int .u32 0, .slice none 0 0, .slice none 0 0, .int .u32 0, .slice none 0 0, .int .i64 0, .int .i64 0, .slice none 0 0] 46)) = W2 at hb2 hx0 hx1 ⊢
 have H2 : Aside (Below w.heap.size w W2 ∧ Boxed W2 w.heap.size #[.int .u8 0, .int .u32 0, .int .u32 0, .slice none 0 0, .slice none 0 0, .int .u32 0, .slice none 0 0, .int .i64 0, .int .i64 0, .slice none 0 0] 46 ∧ Boxed W2 (w.heap.size + 1) #[.int .u8 4, .int .u32 id, .int .u32 0, .slice none 0 0, .slice none 0 0, .int .u32 0, .slice none 0 0, .int .i64 0, .int .i64 0, .slice none 0 0] 46) := ⟨hb2, hx0, hx1⟩
 have hlt2 := hx1.lt
 clear hb2 hx0 hx1 hW2
 go_wp2_with fail
 go_loopg [20, 21] 6 (fun g1 vv vi wr => ∃ (k nn : Nat) (av : Option Addr) (cv : Nat), vv = .slice av nn cv ∧ vi = .int .i64 k ∧ k ≤ 6 ∧ 6 - k ≤ g1 ∧ nn ≤ k ∧ Aside (∃ l, l.length = nn ∧ wr.ownsRow W2.heap.size 3 1 (.slice av nn cv) nn (vals l) ∧ NdL nodes l k ∧ Below W2.heap.size W2 wr))
 case atStart => exact ⟨0, 0, none, 0, rfl, rfl, Nat.zero_le _, nrQ _, nrQ _, [], rfl, World.ownsRow_nil _ _ _ _, NdL.nil _, Below.refl _ _⟩
 case round =>
  obtain ⟨k, nn, av, cv, rfl, rfl, hk6, hg1, hnk, SK⟩ := hrel
  by_cases hlt : k < 6
  ·have hltz : (k : Int) < 6 := by omega
   obtain ⟨l, hl1, hown, hl3, hl4⟩ := SK.out
   have HL : Aside (l.length = nn ∧ NdL nodes l k ∧ Below W2.heap.size W2 wr) := ⟨hl1, hl3, hl4⟩
   have hsz := hl4.size
   clear SK hl1 hl3 hl4
   go_wp2_with (at_builtin; refine wpList_append_lies _ rfl _ _ 39 rfl W2.heap.size 3 i0 _ 1 8 Tryz.underlying39 hi hz0 hz1 hz2 rfl (by decide) _ nn _ rfl (hown.alloc _) ⟨wr.heap.size, 0, none⟩ 1 1 [Value.int .i64 k] rfl rfl (cell_one_new _ _ _) (by intro u hu; simp at hu; subst hu; rfl) (by omega) (by unfold maxLen; omega) (by omega) (by simp; omega) (wr.heap.size + 1) (by simp) ?_; intro g c3 w3 hown3 hgrow hat3 hglt)
   ·rename_i hbit
    have S3 : Aside (∃ l, l.length = nn + 1 ∧ w3.ownsRow W2.heap.size 3 1 (.slice (some ⟨g, 0, none⟩) (nn + 1) c3) (nn + 1) (vals l) ∧ NdL nodes l (k + 1) ∧ Below W2.heap.size W2 w3) := by
     refine ⟨l ++ [(k : Int)], by simp [HL.out.1], ?_, HL.out.2.1.push hbit (by omega), ?_⟩
     ·have e1 : vals (l ++ [(k : Int)]) = vals l ++ [Value.int .i64 k] := by simp [vals]
      rw [e1]; exact hown3
     ·exact (HL.out.2.2.alloc hsz _).grown hgrow (by simp; omega) fun q hq => (World.ownsRow.lt hown _ hq).1
    clear hown3 hgrow hat3 hglt hown
    go_wp2
    go_roundg (6 - (k + 1))
    case measure => omega
    case rel => exact ⟨k + 1, nn + 1, _, _, rfl, by go_num, by omega, by omega, by omega, S3⟩
   ·rename_i hbit
    have S3 : Aside (∃ l, l.length = nn ∧ wr.ownsRow W2.heap.size 3 1 (.slice av nn cv) nn (vals l) ∧ NdL nodes l (k + 1) ∧ Below W2.heap.size W2 wr) := ⟨l, HL.out.1, hown, HL.out.2.1.skip hbit, HL.out.2.2⟩
    clear hown
    go_roundg (6 - (k + 1))
    case measure => omega
    case rel => exact ⟨k + 1, nn, _, _, rfl, by go_num, by omega, by omega, by omega, S3⟩
  ·have hltz : ¬ (k : Int) < 6 := by omega
   obtain ⟨l, hl1, hl2, hl3, hl4⟩ := SK.out
   have hke : k = 6 := by omega
   subst hke
   have b0 : Below w.heap.size w wr := H2.out.1.trans (hl4.mono H2.out.1.size)
   have y0 : Boxed wr w.heap.size #[.int .u8 0, .int .u32 0, .int .u32 0, .slice none 0 0, .slice none 0 0, .int .u32 0, .slice none 0 0, .int .i64 0, .int .i64 0, .slice none 0 0] 46 := H2.out.2.1.below hl4
   have x0 : Boxed wr (w.heap.size + 1) #[.int .u8 4, .int .u32 id, .int .u32 0, .slice none 0 0, .slice none 0 0, .int .u32 0, .slice none 0 0, .int .i64 0, .int .i64 0, .slice none 0 0] 46 := H2.out.2.2.below hl4
   have HN : Aside (nodesOk l = true ∧ l.length = nn ∧ l = ndL nodes 6) := ⟨hl3.1, hl1, hl3.2.2⟩
   have n0 : NsOwn w.heap.size wr (.slice av nn cv) l := ⟨by rw [hl1]; exact own_mono hl2 (by omega), hl3.ok (nrQ _)⟩
   clear SK hl1 hl2 hl3 hl4
   generalize wr = w0 at b0 y0 x0 n0 ⊢
   have c0 := x0.cell (j := 0) rfl
   have z0 := x0.frz 0
   have c1 := x0.cell (j := 1) rfl
   have z1 := x0.frz 1
   have c2 := x0.cell (j := 2) rfl
   have z2 := x0.frz 2
   have c3 := x0.cell (j := 3) rfl
   have z3 := x0.frz 3
   have c4 := x0.cell (j := 4) rfl
   have z4 := x0.frz 4
   have c5 := x0.cell (j := 5) rfl
   have z5 := x0.frz 5
   have c6 := x0.cell (j := 6) rfl
   have z6 := x0.frz 6
   have c7 := x0.cell (j := 7) rfl
   have z7 := x0.frz 7
   have c8 := x0.cell (j := 8) rfl
   have z8 := x0.frz 8
   have c9 := x0.cell (j := 9) rfl
   have z9 := x0.frz 9
   go_upto_region 31 with fail
   clear c0 z0 c1 z1 c2 z2 c3 z3 c4 z4 c5 z5 c6 z6 c7 z7 c8 z8 c9 z9
   have HF : Aside (∀ W, w0.grownBy W (some w.heap.size) → MkRes 4 (ss = []) (mkQ kind id at_ nodes frm til fs es) (.agg #[.int .u8 4, .int .u32 id, .int .u32 0, .slice none 0 0, .slice none 0 0, .int .u32 0, .slice none 0 0, .int .i64 0, .int .i64 0, .slice none 0 0]) W ∧ Below w.heap.size w W) := fun W hG => by
    have hO : RcOwn w.heap.size w0 ⟨4, id, 0, none, 0, [], none, 0, [], 0, none, 0, [], 0, 0, none, 0, []⟩ := ⟨by show (0 : Int) ≤ 4 ∧ (4 : Int) ≤ 255; omega, HU.out.1, u32_nought, ns_nil _ _, fs_nil _ _, u32_nought, ss_nil _ _, i64_nought, i64_nought, es_nil _ _⟩
    refine ⟨⟨⟨4, id, 0, none, 0, [], none, 0, [], 0, none, 0, [], 0, 0, none, 0, []⟩, by unfold rcV rcC; simp [], ⟨_, hO.far hG (y0.far (by decide)) (y0.far (by decide)) (y0.far (by decide)) (y0.far (by decide))⟩, ?_, rfl, fun hss => ?_⟩, b0.grown hG b0.size (fun q hq => by injection hq; omega)⟩
    ·rfl
    ·unfold mkQ
     rw [if_neg (by have := HK.out; omega), if_neg (by have := HK.out; omega), if_neg (by have := HK.out; omega), if_neg (by have := HK.out; omega)]
     rw [HK.out]
     rfl
   have c0 := x0.cell (j := 0) rfl
   have e0 := y0.cell (j := 0) rfl
   have z0 := y0.frz 0
   have c1 := x0.cell (j := 1) rfl
   have e1 := y0.cell (j := 1) rfl
   have z1 := y0.frz 1
   have c2 := x0.cell (j := 2) rfl
   have e2 := y0.cell (j := 2) rfl
   have z2 := y0.frz 2
   have c3 := x0.cell (j := 3) rfl
   have e3 := y0.cell (j := 3) rfl
   have z3 := y0.frz 3
   have c4 := x0.cell (j := 4) rfl
   have e4 := y0.cell (j := 4) rfl
   have z4 := y0.frz 4
   have c5 := x0.cell (j := 5) rfl
   have e5 := y0.cell (j := 5) rfl
   have z5 := y0.frz 5
   have c6 := x0.cell (j := 6) rfl
   have e6 := y0.cell (j := 6) rfl
   have z6 := y0.frz 6
   have c7 := x0.cell (j := 7) rfl
   have e7 := y0.cell (j := 7) rfl
   have z7 := y0.frz 7
   have c8 := x0.cell (j := 8) rfl
   have e8 := y0.cell (j := 8) rfl
   have z8 := y0.frz 8
   have c9 := x0.cell (j := 9) rfl
   have e9 := y0.cell (j := 9) rfl
   have z9 := y0.frz 9
   clear x0 y0 b0 n0
   go_wp2
   refine bodyPost_ret (v := .agg #[.int .u8 4, .int .u32 id, .int .u32 0, .slice none 0 0, .slice none 0 0, .int .u32 0, .slice none 0 0, .int .i64 0, .int .i64 0, .slice none 0 0]) (by simp [results, Tryz.results33, go_sem, *]) rfl ⟨_, rfl, (HF.out _ ?_).1, (HF.out _ ?_).2⟩
   ·iterate 9 (refine grown_trans ?_ (grown_at _ _ _ _))
    exact grown_at _ _ _ _
   ·iterate 9 (refine grown_trans ?_ (grown_at _ _ _ _))
    exact grown_at _ _ _ _
theorem make_5 (kind id at_ nodes frm til : Int) (fa sa ea : Option Addr) (fn fc sn sc en ec : Nat) (fs : List Ft) (ss : List Int) (es : List Et) (w : World) (hk : kind % 7 = 4) (hk0 : 0 ≤ kind ∧ kind ≤ 255) (hid : U32 id) (hat : U32 at_) (hn0 : 0 ≤ nodes ∧ nodes ≤ 255)
  (hF : FactsIn w fa fs) (hf : fs.length = fn) (hfm : fn ≤ 9223372036854775807) (hS : dims.Nums .u16 w sa sn sc ss) (hfr : 0 ≤ frm ∧ frm ≤ 65535) (hti : 0 ≤ til ∧ til ≤ 65535) (hE : EntsIn w ea es) (he : es.length = en) (hem : en ≤ 9223372036854775807) :
  Calls Tryz.prog 33 #[.int .u8 kind, .int .u32 id, .int .u32 at_, .int .u8 nodes, .slice fa fn fc, .slice sa sn sc, .int .u16 frm, .int .u16 til, .slice ea en ec] w fun e w' => ∃ v, e = .returned v ∧ MkRes 5 (ss = []) (mkQ kind id at_ nodes frm til fs es) v w' ∧ Below w.heap.size w w' := by
 obtain ⟨i0, hi, hz0, hz1, hz2⟩ := info_parts info_int2
 have htm : kind.tmod 7 = 4 := by rw [Int.tmod_eq_emod_of_nonneg hk0.1]; exact hk
 have hb2 : Below w.heap.size w ((w.alloc (.cells #[.int .u8 0, .int .u32 0, .int .u32 0, .slice none 0 0, .slice none 0 0, .int .u32 0, .slice none 0 0, .int .i64 0, .int .i64 0, .slice none 0 0] 46)).alloc (.cells #[.int .u8 5, .int .u32 id, .int .u32 0, .slice none 0 0, .slice none 0 0, .int .u32 0, .slice none 0 0, .int .i64 0, .int .i64 0, .slice none 0 0] 46)) := ((Below.refl _ _).alloc (nrQ _) _).alloc (by simp) _
 have hx0 : Boxed ((w.alloc (.cells #[.int .u8 0, .int .u32 0, .int .u32 0, .slice none 0 0, .slice none 0 0, .int .u32 0, .slice none 0 0, .int .i64 0, .int .i64 0, .slice none 0 0] 46)).alloc (.cells #[.int .u8 5, .int .u32 id, .int .u32 0, .slice none 0 0, .slice none 0 0, .int .u32 0, .slice none 0 0, .int .i64 0, .int .i64 0, .slice none 0 0] 46)) w.heap.size #[.int .u8 0, .int .u32 0, .int .u32 0, .slice none 0 0, .slice none 0 0, .int .u32 0, .slice none 0 0, .int .i64 0, .int .i64 0, .slice none 0 0] 46 := (Boxed.new w #[.int .u8 0, .int .u32 0, .int .u32 0, .slice none 0 0, .slice none 0 0, .int .u32 0, .slice none 0 0, .int .i64 0, .int .i64 0, .slice none 0 0] 46).below ((Below.refl _ _).alloc (nrQ _) _)
 have hx1 : Boxed ((w.alloc (.cells #[.int .u8 0, .int .u32 0, .int .u32 0, .slice none 0 0, .slice none 0 0, .int .u32 0, .slice none 0 0, .int .i64 0, .int .i64 0, .slice none 0 0] 46)).alloc (.cells #[.int .u8 5, .int .u32 id, .int .u32 0, .slice none 0 0, .slice none 0 0, .int .u32 0, .slice none 0 0, .int .i64 0, .int .i64 0, .slice none 0 0] 46)) (w.heap.size + 1) #[.int .u8 5, .int .u32 id, .int .u32 0, .slice none 0 0, .slice none 0 0, .int .u32 0, .slice none 0 0, .int .i64 0, .int .i64 0, .slice none 0 0] 46 := by
  have := Boxed.new (w.alloc (.cells #[.int .u8 0, .int .u32 0, .int .u32 0, .slice none 0 0, .slice none 0 0, .int .u32 0, .slice none 0 0, .int .i64 0, .int .i64 0, .slice none 0 0] 46)) #[.int .u8 5, .int .u32 id, .int .u32 0, .slice none 0 0, .slice none 0 0, .int .u32 0, .slice none 0 0, .int .i64 0, .int .i64 0, .slice none 0 0] 46
  rwa [show (w.alloc (.cells #[.int .u8 0, .int .u32 0, .int .u32 0, .slice none 0 0, .slice none 0 0, .int .u32 0, .slice none 0 0, .int .i64 0, .int .i64 0, .slice none 0 0] 46)).heap.size = w.heap.size + 1 by simp] at this
 have HU : Aside (U32 id ∧ U32 at_) := ⟨hid, hat⟩
 have HA : Aside (FactsIn w fa fs ∧ fs.length = fn ∧ fn ≤ 9223372036854775807 ∧ dims.Nums .u16 w sa sn sc ss ∧ EntsIn w ea es ∧ es.length = en) := ⟨hF, hf, hfm, hS, hE, he⟩
 have hsm : sn ≤ 9223372036854775807 := by have h1 := hS.lec; have h2 := hS.max; rw [maxLen_9] at h2; omega
 have HK : Aside (kind % 7 = 4) := hk
 clear hk hid hat hF hf hS hE he
 go_enter Tryz.func33, Tryz.ntmps33
 go_upto_region 2 with fail
 generalize hW2 : ((w.alloc (.cells #[.int .u8 0, .int .u32 0, .int .u32 0, .slice none 0 0, .slice none 0 0, .int .u32 0, .slice none 0 0, .int .i64 0, .int .i64 0, .slice none 0 0] 46)).alloc (.cells #[.int .u8 5, .int .u32 id, .int .u32 0, .slice none 0 0, .slice none 0 0, .int .u32 0, .slice none 0 0, .int .i64 0, .int .i64 0, .slice none 0 0] 46)) = W2 at hb2 hx0 hx1 ⊢
 have H2 : Aside (Below w.heap.size w W2 ∧ Boxed W2 w.heap.size #[.int .u8 0, .int .u32 0, .int .u32 0, .slice none 0 0, .slice none 0 0, .int .u32 0, .slice none 0 0, .int .i64 0, .int .i64 0, .slice none 0 0] 46 ∧ Boxed W2 (w.heap.size + 1) #[.int .u8 5, .int .u32 id, .int .u32 0, .slice none 0 0, .slice none 0 0, .int .u32 0, .slice none 0 0, .int .i64 0, .int .i64 0, .slice none 0 0] 46) := ⟨hb2, hx0, hx1⟩
 have hlt2 := hx1.lt
 clear hb2 hx0 hx1 hW2
 go_wp2_with fail
 go_loopg [20, 21] 6 (fun g1 vv vi wr => ∃ (k nn : Nat) (av : Option Addr) (cv : Nat), vv = .slice av nn cv ∧ vi = .int .i64 k ∧ k ≤ 6 ∧ 6 - k ≤ g1 ∧ nn ≤ k ∧ Aside (∃ l, l.length = nn ∧ wr.ownsRow W2.heap.size 3 1 (.slice av nn cv) nn (vals l) ∧ NdL nodes l k ∧ Below W2.heap.size W2 wr))
 case atStart => exact ⟨0, 0, none, 0, rfl, rfl, Nat.zero_le _, nrQ _, nrQ _, [], rfl, World.ownsRow_nil _ _ _ _, NdL.nil _, Below.refl _ _⟩
 case round =>
  obtain ⟨k, nn, av, cv, rfl, rfl, hk6, hg1, hnk, SK⟩ := hrel
  by_cases hlt : k < 6
  ·have hltz : (k : Int) < 6 := by omega
   obtain ⟨l, hl1, hown, hl3, hl4⟩ := SK.out
   have HL : Aside (l.length = nn ∧ NdL nodes l k ∧ Below W2.heap.size W2 wr) := ⟨hl1, hl3, hl4⟩
   have hsz := hl4.size
   clear SK hl1 hl3 hl4
   go_wp2_with (at_builtin; refine wpList_append_lies _ rfl _ _ 39 rfl W2.heap.size 3 i0 _ 1 8 Tryz.underlying39 hi hz0 hz1 hz2 rfl (by decide) _ nn _ rfl (hown.alloc _) ⟨wr.heap.size, 0, none⟩ 1 1 [Value.int .i64 k] rfl rfl (cell_one_new _ _ _) (by intro u hu; simp at hu; subst hu; rfl) (by omega) (by unfold maxLen; omega) (by omega) (by simp; omega) (wr.heap.size + 1) (by simp) ?_; intro g c3 w3 hown3 hgrow hat3 hglt)
   ·rename_i hbit
    have S3 : Aside (∃ l, l.length = nn + 1 ∧ w3.ownsRow W2.heap.size 3 1 (.slice (some ⟨g, 0, none⟩) (nn + 1) c3) (nn + 1) (vals l) ∧ NdL nodes l (k + 1) ∧ Below W2.heap.size W2 w3) := by
     refine ⟨l ++ [(k : Int)], by simp [HL.out.1], ?_, HL.out.2.1.push hbit (by omega), ?_⟩
     ·have e1 : vals (l ++ [(k : Int)]) = vals l ++ [Value.int .i64 k] := by simp [vals]
      rw [e1]; exact hown3
     ·exact (HL.out.2.2.alloc hsz _).grown hgrow (by simp; omega) fun q hq => (World.ownsRow.lt hown _ hq).1
    clear hown3 hgrow hat3 hglt hown
    go_wp2
    go_roundg (6 - (k + 1))
    case measure => omega
    case rel => exact ⟨k + 1, nn + 1, _, _, rfl, by go_num, by omega, by omega, by omega, S3⟩
   ·rename_i hbit
    have S3 : Aside (∃ l, l.length = nn ∧ wr.ownsRow W2.heap.size 3 1 (.slice av nn cv) nn (vals l) ∧ NdL nodes l (k + 1) ∧ Below W2.heap.size W2 wr) := ⟨l, HL.out.1, hown, HL.out.2.1.skip hbit, HL.out.2.2⟩
    clear hown
    go_roundg (6 - (k + 1))
    case measure => omega
    case rel => exact ⟨k + 1, nn, _, _, rfl, by go_num, by omega, by omega, by omega, S3⟩
  ·have hltz : ¬ (k : Int) < 6 := by omega
   obtain ⟨l, hl1, hl2, hl3, hl4⟩ := SK.out
   have hke : k = 6 := by omega
   subst hke
   have b0 : Below w.heap.size w wr := H2.out.1.trans (hl4.mono H2.out.1.size)
   have y0 : Boxed wr w.heap.size #[.int .u8 0, .int .u32 0, .int .u32 0, .slice none 0 0, .slice none 0 0, .int .u32 0, .slice none 0 0, .int .i64 0, .int .i64 0, .slice none 0 0] 46 := H2.out.2.1.below hl4
   have x0 : Boxed wr (w.heap.size + 1) #[.int .u8 5, .int .u32 id, .int .u32 0, .slice none 0 0, .slice none 0 0, .int .u32 0, .slice none 0 0, .int .i64 0, .int .i64 0, .slice none 0 0] 46 := H2.out.2.2.below hl4
   have HN : Aside (nodesOk l = true ∧ l.length = nn ∧ l = ndL nodes 6) := ⟨hl3.1, hl1, hl3.2.2⟩
   have n0 : NsOwn w.heap.size wr (.slice av nn cv) l := ⟨by rw [hl1]; exact own_mono hl2 (by omega), hl3.ok (nrQ _)⟩
   clear SK hl1 hl2 hl3 hl4
   generalize wr = w0 at b0 y0 x0 n0 ⊢
   have c0 := x0.cell (j := 0) rfl
   have z0 := x0.frz 0
   have c1 := x0.cell (j := 1) rfl
   have z1 := x0.frz 1
   have c2 := x0.cell (j := 2) rfl
   have z2 := x0.frz 2
   have c3 := x0.cell (j := 3) rfl
   have z3 := x0.frz 3
   have c4 := x0.cell (j := 4) rfl
   have z4 := x0.frz 4
   have c5 := x0.cell (j := 5) rfl
   have z5 := x0.frz 5
   have c6 := x0.cell (j := 6) rfl
   have z6 := x0.frz 6
   have c7 := x0.cell (j := 7) rfl
   have z7 := x0.frz 7
   have c8 := x0.cell (j := 8) rfl
   have z8 := x0.frz 8
   have c9 := x0.cell (j := 9) rfl
   have z9 := x0.frz 9
   go_upto_region 31 with fail
   clear c0 z0 c1 z1 c2 z2 c3 z3 c4 z4 c5 z5 c6 z6 c7 z7 c8 z8 c9 z9
   have HF : Aside (∀ W, w0.grownBy W (some w.heap.size) → MkRes 5 (ss = []) (mkQ kind id at_ nodes frm til fs es) (.agg #[.int .u8 5, .int .u32 id, .int .u32 0, .slice none 0 0, .slice none 0 0, .int .u32 0, .slice none 0 0, .int .i64 0, .int .i64 0, .slice none 0 0]) W ∧ Below w.heap.size w W) := fun W hG => by
    have hO : RcOwn w.heap.size w0 ⟨5, id, 0, none, 0, [], none, 0, [], 0, none, 0, [], 0, 0, none, 0, []⟩ := ⟨by show (0 : Int) ≤ 5 ∧ (5 : Int) ≤ 255; omega, HU.out.1, u32_nought, ns_nil _ _, fs_nil _ _, u32_nought, ss_nil _ _, i64_nought, i64_nought, es_nil _ _⟩
    refine ⟨⟨⟨5, id, 0, none, 0, [], none, 0, [], 0, none, 0, [], 0, 0, none, 0, []⟩, by unfold rcV rcC; simp [], ⟨_, hO.far hG (y0.far (by decide)) (y0.far (by decide)) (y0.far (by decide)) (y0.far (by decide))⟩, ?_, rfl, fun hss => ?_⟩, b0.grown hG b0.size (fun q hq => by injection hq; omega)⟩
    ·rfl
    ·unfold mkQ
     rw [if_neg (by have := HK.out; omega), if_neg (by have := HK.out; omega), if_neg (by have := HK.out; omega), if_neg (by have := HK.out; omega)]
     rw [HK.out]
     rfl
   have c0 := x0.cell (j := 0) rfl
   have e0 := y0.cell (j := 0) rfl
   have z0 := y0.frz 0
   have c1 := x0.cell (j := 1) rfl
   have e1 := y0.cell (j := 1) rfl
   have z1 := y0.frz 1
   have c2 := x0.cell (j := 2) rfl
   have e2 := y0.cell (j := 2) rfl
   have z2 := y0.frz 2
   have c3 := x0.cell (j := 3) rfl
   have e3 := y0.cell (j := 3) rfl
   have z3 := y0.frz 3
   have c4 := x0.cell (j := 4) rfl
   have e4 := y0.cell (j := 4) rfl
   have z4 := y0.frz 4
   have c5 := x0.cell (j := 5) rfl
   have e5 := y0.cell (j := 5) rfl
   have z5 := y0.frz 5
   have c6 := x0.cell (j := 6) rfl
   have e6 := y0.cell (j := 6) rfl
   have z6 := y0.frz 6
   have c7 := x0.cell (j := 7) rfl
   have e7 := y0.cell (j := 7) rfl
   have z7 := y0.frz 7
   have c8 := x0.cell (j := 8) rfl
   have e8 := y0.cell (j := 8) rfl
   have z8 := y0.frz 8
   have c9 := x0.cell (j := 9) rfl
   have e9 := y0.cell (j := 9) rfl
   have z9 := y0.frz 9
   clear x0 y0 b0 n0
   go_wp2
   refine bodyPost_ret (v := .agg #[.int .u8 5, .int .u32 id, .int .u32 0, .slice none 0 0, .slice none 0 0, .int .u32 0, .slice none 0 0, .int .i64 0, .int .i64 0, .slice none 0 0]) (by simp [results, Tryz.results33, go_sem, *]) rfl ⟨_, rfl, (HF.out _ ?_).1, (HF.out _ ?_).2⟩
   ·iterate 9 (refine grown_trans ?_ (grown_at _ _ _ _))
    exact grown_at _ _ _ _
   ·iterate 9 (refine grown_trans ?_ (grown_at _ _ _ _))
    exact grown_at _ _ _ _
theorem make_6 (kind id at_ nodes frm til : Int) (fa sa ea : Option Addr) (fn fc sn sc en ec : Nat) (fs : List Ft) (ss : List Int) (es : List Et) (w : World) (hk : kind % 7 = 5) (hk0 : 0 ≤ kind ∧ kind ≤ 255) (hid : U32 id) (hat : U32 at_) (hn0 : 0 ≤ nodes ∧ nodes ≤ 255)
  (hF : FactsIn w fa fs) (hf : fs.length = fn) (hfm : fn ≤ 9223372036854775807) (hS : dims.Nums .u16 w sa sn sc ss) (hfr : 0 ≤ frm ∧ frm ≤ 65535) (hti : 0 ≤ til ∧ til ≤ 65535) (hE : EntsIn w ea es) (he : es.length = en) (hem : en ≤ 9223372036854775807) :
  Calls Tryz.prog 33 #[.int .u8 kind, .int .u32 id, .int .u32 at_, .int .u8 nodes, .slice fa fn fc, .slice sa sn sc, .int .u16 frm, .int .u16 til, .slice ea en ec] w fun e w' => ∃ v, e = .returned v ∧ MkRes 6 (ss = []) (mkQ kind id at_ nodes frm til fs es) v w' ∧ Below w.heap.size w w' := by
 obtain ⟨i0, hi, hz0, hz1, hz2⟩ := info_parts info_int2
 have htm : kind.tmod 7 = 5 := by rw [Int.tmod_eq_emod_of_nonneg hk0.1]; exact hk
 have hb2 : Below w.heap.size w ((w.alloc (.cells #[.int .u8 0, .int .u32 0, .int .u32 0, .slice none 0 0, .slice none 0 0, .int .u32 0, .slice none 0 0, .int .i64 0, .int .i64 0, .slice none 0 0] 46)).alloc (.cells #[.int .u8 6, .int .u32 id, .int .u32 0, .slice none 0 0, .slice none 0 0, .int .u32 0, .slice none 0 0, .int .i64 0, .int .i64 0, .slice none 0 0] 46)) := ((Below.refl _ _).alloc (nrQ _) _).alloc (by simp) _
 have hx0 : Boxed ((w.alloc (.cells #[.int .u8 0, .int .u32 0, .int .u32 0, .slice none 0 0, .slice none 0 0, .int .u32 0, .slice none 0 0, .int .i64 0, .int .i64 0, .slice none 0 0] 46)).alloc (.cells #[.int .u8 6, .int .u32 id, .int .u32 0, .slice none 0 0, .slice none 0 0, .int .u32 0, .slice none 0 0, .int .i64 0, .int .i64 0, .slice none 0 0] 46)) w.heap.size #[.int .u8 0, .int .u32 0, .int .u32 0, .slice none 0 0, .slice none 0 0, .int .u32 0, .slice none 0 0, .int .i64 0, .int .i64 0, .slice none 0 0] 46 := (Boxed.new w #[.int .u8 0, .int .u32 0, .int .u32 0, .slice none 0 0, .slice none 0 0, .int .u32 0, .slice none 0 0, .int .i64 0, .int .i64 0, .slice none 0 0] 46).below ((Below.refl _ _).alloc (nrQ _) _)
 have hx1 : Boxed ((w.alloc (.cells #[.int .u8 0, .int .u32 0, .int .u32 0, .slice none 0 0, .slice none 0 0, .int .u32 0, .slice none 0 0, .int .i64 0, .int .i64 0, .slice none 0 0] 46)).alloc (.cells #[.int .u8 6, .int .u32 id, .int .u32 0, .slice none 0 0, .slice none 0 0, .int .u32 0, .slice none 0 0, .int .i64 0, .int .i64 0, .slice none 0 0] 46)) (w.heap.size + 1) #[.int .u8 6, .int .u32 id, .int .u32 0, .slice none 0 0, .slice none 0 0, .int .u32 0, .slice none 0 0, .int .i64 0, .int .i64 0, .slice none 0 0] 46 := by
  have := Boxed.new (w.alloc (.cells #[.int .u8 0, .int .u32 0, .int .u32 0, .slice none 0 0, .slice none 0 0, .int .u32 0, .slice none 0 0, .int .i64 0, .int .i64 0, .slice none 0 0] 46)) #[.int .u8 6, .int .u32 id, .int .u32 0, .slice none 0 0, .slice none 0 0, .int .u32 0, .slice none 0 0, .int .i64 0, .int .i64 0, .slice none 0 0] 46
  rwa [show (w.alloc (.cells #[.int .u8 0, .int .u32 0, .int .u32 0, .slice none 0 0, .slice none 0 0, .int .u32 0, .slice none 0 0, .int .i64 0, .int .i64 0, .slice none 0 0] 46)).heap.size = w.heap.size + 1 by simp] at this
 have HU : Aside (U32 id ∧ U32 at_) := ⟨hid, hat⟩
 have HA : Aside (FactsIn w fa fs ∧ fs.length = fn ∧ fn ≤ 9223372036854775807 ∧ dims.Nums .u16 w sa sn sc ss ∧ EntsIn w ea es ∧ es.length = en) := ⟨hF, hf, hfm, hS, hE, he⟩
 have hsm : sn ≤ 9223372036854775807 := by have h1 := hS.lec; have h2 := hS.max; rw [maxLen_9] at h2; omega
 have HK : Aside (kind % 7 = 5) := hk
 clear hk hid hat hF hf hS hE he
 go_enter Tryz.func33, Tryz.ntmps33
 go_upto_region 2 with fail
 generalize hW2 : ((w.alloc (.cells #[.int .u8 0, .int .u32 0, .int .u32 0, .slice none 0 0, .slice none 0 0, .int .u32 0, .slice none 0 0, .int .i64 0, .int .i64 0, .slice none 0 0] 46)).alloc (.cells #[.int .u8 6, .int .u32 id, .int .u32 0, .slice none 0 0, .slice none 0 0, .int .u32 0, .slice none 0 0, .int .i64 0, .int .i64 0, .slice none 0 0] 46)) = W2 at hb2 hx0 hx1 ⊢
 have H2 : Aside (Below w.heap.size w W2 ∧ Boxed W2 w.heap.size #[.int .u8 0, .int .u32 0, .int .u32 0, .slice none 0 0, .slice none 0 0, .int .u32 0, .slice none 0 0, .int .i64 0, .int .i64 0, .slice none 0 0] 46 ∧ Boxed W2 (w.heap.size + 1) #[.int .u8 6, .int .u32 id, .int .u32 0, .slice none 0 0, .slice none 0 0, .int .u32 0, .slice none 0 0, .int .i64 0, .int .i64 0, .slice none 0 0] 46) := ⟨hb2, hx0, hx1⟩
 have hlt2 := hx1.lt
 clear hb2 hx0 hx1 hW2
 go_wp2_with fail
 go_loopg [20, 21] 6 (fun g1 vv vi wr => ∃ (k nn : Nat) (av : Option Addr) (cv : Nat), vv = .slice av nn cv ∧ vi = .int .i64 k ∧ k ≤ 6 ∧ 6 - k ≤ g1 ∧ nn ≤ k ∧ Aside (∃ l, l.length = nn ∧ wr.ownsRow W2.heap.size 3 1 (.slice av nn cv) nn (vals l) ∧ NdL nodes l k ∧ Below W2.heap.size W2 wr))
 case atStart => exact ⟨0, 0, none, 0, rfl, rfl, Nat.zero_le _, nrQ _, nrQ _, [], rfl, World.ownsRow_nil _ _ _ _, NdL.nil _, Below.refl _ _⟩
 case round =>
  obtain ⟨k, nn, av, cv, rfl, rfl, hk6, hg1, hnk, SK⟩ := hrel
  by_cases hlt : k < 6
  ·have hltz : (k : Int) < 6 := by omega
   obtain ⟨l, hl1, hown, hl3, hl4⟩ := SK.out
   have HL : Aside (l.length = nn ∧ NdL nodes l k ∧ Below W2.heap.size W2 wr) := ⟨hl1, hl3, hl4⟩
   have hsz := hl4.size
   clear SK hl1 hl3 hl4
   go_wp2_with (at_builtin; refine wpList_append_lies _ rfl _ _ 39 rfl W2.heap.size 3 i0 _ 1 8 Tryz.underlying39 hi hz0 hz1 hz2 rfl (by decide) _ nn _ rfl (hown.alloc _) ⟨wr.heap.size, 0, none⟩ 1 1 [Value.int .i64 k] rfl rfl (cell_one_new _ _ _) (by intro u hu; simp at hu; subst hu; rfl) (by omega) (by unfold maxLen; omega) (by omega) (by simp; omega) (wr.heap.size + 1) (by simp) ?_; intro g c3 w3 hown3 hgrow hat3 hglt)
   ·rename_i hbit
    have S3 : Aside (∃ l, l.length = nn + 1 ∧ w3.ownsRow W2.heap.size 3 1 (.slice (some ⟨g, 0, none⟩) (nn + 1) c3) (nn + 1) (vals l) ∧ NdL nodes l (k + 1) ∧ Below W2.heap.size W2 w3) := by
     refine ⟨l ++ [(k : Int)], by simp [HL.out.1], ?_, HL.out.2.1.push hbit (by omega), ?_⟩
     ·have e1 : vals (l ++ [(k : Int)]) = vals l ++ [Value.int .i64 k] := by simp [vals]
      rw [e1]; exact hown3
     ·exact (HL.out.2.2.alloc hsz _).grown hgrow (by simp; omega) fun q hq => (World.ownsRow.lt hown _ hq).1
    clear hown3 hgrow hat3 hglt hown
    go_wp2
    go_roundg (6 - (k + 1))
    case measure => omega
    case rel => exact ⟨k + 1, nn + 1, _, _, rfl, by go_num, by omega, by omega, by omega, S3⟩
   ·rename_i hbit
    have S3 : Aside (∃ l, l.length = nn ∧ wr.ownsRow W2.heap.size 3 1 (.slice av nn cv) nn (vals l) ∧ NdL nodes l (k + 1) ∧ Below W2.heap.size W2 wr) := ⟨l, HL.out.1, hown, HL.out.2.1.skip hbit, HL.out.2.2⟩
    clear hown
    go_roundg (6 - (k + 1))
    case measure => omega
    case rel => exact ⟨k + 1, nn, _, _, rfl, by go_num, by omega, by omega, by omega, S3⟩
  ·have hltz : ¬ (k : Int) < 6 := by omega
   obtain ⟨l, hl1, hl2, hl3, hl4⟩ := SK.out
   have hke : k = 6 := by omega
   subst hke
   have b0 : Below w.heap.size w wr := H2.out.1.trans (hl4.mono H2.out.1.size)
   have y0 : Boxed wr w.heap.size #[.int .u8 0, .int .u32 0, .int .u32 0, .slice none 0 0, .slice none 0 0, .int .u32 0, .slice none 0 0, .int .i64 0, .int .i64 0, .slice none 0 0] 46 := H2.out.2.1.below hl4
   have x0 : Boxed wr (w.heap.size + 1) #[.int .u8 6, .int .u32 id, .int .u32 0, .slice none 0 0, .slice none 0 0, .int .u32 0, .slice none 0 0, .int .i64 0, .int .i64 0, .slice none 0 0] 46 := H2.out.2.2.below hl4
   have HN : Aside (nodesOk l = true ∧ l.length = nn ∧ l = ndL nodes 6) := ⟨hl3.1, hl1, hl3.2.2⟩
   have n0 : NsOwn w.heap.size wr (.slice av nn cv) l := ⟨by rw [hl1]; exact own_mono hl2 (by omega), hl3.ok (nrQ _)⟩
   clear SK hl1 hl2 hl3 hl4
   generalize wr = w0 at b0 y0 x0 n0 ⊢
   have c0 := x0.cell (j := 0) rfl
   have z0 := x0.frz 0
   have c1 := x0.cell (j := 1) rfl
   have z1 := x0.frz 1
   have c2 := x0.cell (j := 2) rfl
   have z2 := x0.frz 2
   have c3 := x0.cell (j := 3) rfl
   have z3 := x0.frz 3
   have c4 := x0.cell (j := 4) rfl
   have z4 := x0.frz 4
   have c5 := x0.cell (j := 5) rfl
   have z5 := x0.frz 5
   have c6 := x0.cell (j := 6) rfl
   have z6 := x0.frz 6
   have c7 := x0.cell (j := 7) rfl
   have z7 := x0.frz 7
   have c8 := x0.cell (j := 8) rfl
   have z8 := x0.frz 8
   have c9 := x0.cell (j := 9) rfl
   have z9 := x0.frz 9
   go_upto_region 17 with fail
   have x1 : Boxed (w0.setCell ⟨w.heap.size + 1, 1, none⟩ (.int .u32 0)) (w.heap.size + 1) #[.int .u8 6, .int .u32 0, .int .u32 0, .slice none 0 0, .slice none 0 0, .int .u32 0, .slice none 0 0, .int .i64 0, .int .i64 0, .slice none 0 0] 46 := x0.set 1 _
   have y1 : Boxed (w0.setCell ⟨w.heap.size + 1, 1, none⟩ (.int .u32 0)) w.heap.size #[.int .u8 0, .int .u32 0, .int .u32 0, .slice none 0 0, .slice none 0 0, .int .u32 0, .slice none 0 0, .int .i64 0, .int .i64 0, .slice none 0 0] 46 := y0.grown (grown_at _ _ _ _) (by simp only [ne_eq, oiQ]; omega)
   have b1 : Below w.heap.size w (w0.setCell ⟨w.heap.size + 1, 1, none⟩ (.int .u32 0)) := b0.setCell (by simp) _
   have n0 := n0.far (grown_at w0 (w.heap.size + 1) 1 (.int .u32 0)) (x0.far (by decide))
   generalize (w0.setCell ⟨w.heap.size + 1, 1, none⟩ (.int .u32 0)) = w1 at x1 y1 b1 n0 ⊢
   clear x0 y0 b0
   clear c0 z0 c1 z1 c2 z2 c3 z3 c4 z4 c5 z5 c6 z6 c7 z7 c8 z8 c9 z9
   have c0 := x1.cell (j := 0) rfl
   have z0 := x1.frz 0
   have c1 := x1.cell (j := 1) rfl
   have z1 := x1.frz 1
   have c2 := x1.cell (j := 2) rfl
   have z2 := x1.frz 2
   have c3 := x1.cell (j := 3) rfl
   have z3 := x1.frz 3
   have c4 := x1.cell (j := 4) rfl
   have z4 := x1.frz 4
   have c5 := x1.cell (j := 5) rfl
   have z5 := x1.frz 5
   have c6 := x1.cell (j := 6) rfl
   have z6 := x1.frz 6
   have c7 := x1.cell (j := 7) rfl
   have z7 := x1.frz 7
   have c8 := x1.cell (j := 8) rfl
   have z8 := x1.frz 8
   have c9 := x1.cell (j := 9) rfl
   have z9 := x1.frz 9
   go_upto_region 18 with fail
   have x2 : Boxed (w1.setCell ⟨w.heap.size + 1, 5, none⟩ (.int .u32 at_)) (w.heap.size + 1) #[.int .u8 6, .int .u32 0, .int .u32 0, .slice none 0 0, .slice none 0 0, .int .u32 at_, .slice none 0 0, .int .i64 0, .int .i64 0, .slice none 0 0] 46 := x1.set 5 _
   have y2 : Boxed (w1.setCell ⟨w.heap.size + 1, 5, none⟩ (.int .u32 at_)) w.heap.size #[.int .u8 0, .int .u32 0, .int .u32 0, .slice none 0 0, .slice none 0 0, .int .u32 0, .slice none 0 0, .int .i64 0, .int .i64 0, .slice none 0 0] 46 := y1.grown (grown_at _ _ _ _) (by simp only [ne_eq, oiQ]; omega)
   have b2 : Below w.heap.size w (w1.setCell ⟨w.heap.size + 1, 5, none⟩ (.int .u32 at_)) := b1.setCell (by simp) _
   have n0 := n0.far (grown_at w1 (w.heap.size + 1) 5 (.int .u32 at_)) (x1.far (by decide))
   generalize (w1.setCell ⟨w.heap.size + 1, 5, none⟩ (.int .u32 at_)) = w2 at x2 y2 b2 n0 ⊢
   clear x1 y1 b1
   clear c0 z0 c1 z1 c2 z2 c3 z3 c4 z4 c5 z5 c6 z6 c7 z7 c8 z8 c9 z9
   have HW4 : Aside (Below w.heap.size w w2) := b2
   have hB1 : w.heap.size + 1 < w2.heap.size := x2.lt
   have S4 : Aside (Boxed w2 (w.heap.size + 1) #[.int .u8 6, .int .u32 0, .int .u32 0, .slice none 0 0, .slice none 0 0, .int .u32 at_, .slice none 0 0, .int .i64 0, .int .i64 0, .slice none 0 0] 46 ∧ Boxed w2 w.heap.size #[.int .u8 0, .int .u32 0, .int .u32 0, .slice none 0 0, .slice none 0 0, .int .u32 0, .slice none 0 0, .int .i64 0, .int .i64 0, .slice none 0 0] 46 ∧ w2.grownBy w2 (some (w.heap.size + 1)) ∧ w2.ownsRow w2.heap.size 109 2 (.slice none 0 0) 0 (List.flatMap spanC []) ∧ (∀ s ∈ ([] : List PSpan), (0 ≤ s.1 ∧ s.1 ≤ 9999) ∧ 0 ≤ s.2 ∧ s.2 ≤ 5)) := ⟨x2, y2, grown_refl _ _, World.ownsRow_nil _ _ _ _, by simp⟩
   obtain ⟨k0, hk0, hkz1, hkz2, hkz3⟩ := info_parts info_span
   generalize w2 = W4 at S4 HW4 hB1 ⊢
   clear x2 y2 b2 n0
   go_wp2_with fail
   go_loopg [22] 40 (fun g1 vk wr => ∃ (k : Nat) (sv : Option Addr) (scv : Nat), vk = .int .i64 k ∧ k ≤ sn ∧ k ≤ 40 ∧ 40 - k ≤ g1 ∧ Aside (Boxed wr (w.heap.size + 1) #[.int .u8 6, .int .u32 0, .int .u32 0, .slice none 0 0, .slice none 0 0, .int .u32 at_, .slice sv k scv, .int .i64 0, .int .i64 0, .slice none 0 0] 46 ∧ Boxed wr w.heap.size #[.int .u8 0, .int .u32 0, .int .u32 0, .slice none 0 0, .slice none 0 0, .int .u32 0, .slice none 0 0, .int .i64 0, .int .i64 0, .slice none 0 0] 46 ∧ W4.grownBy wr (some (w.heap.size + 1)) ∧ ∃ sp : List PSpan, sp.length = k ∧ wr.ownsRow W4.heap.size 109 2 (.slice sv k scv) k (sp.flatMap spanC) ∧ (∀ s ∈ sp, (0 ≤ s.1 ∧ s.1 ≤ 9999) ∧ 0 ≤ s.2 ∧ s.2 ≤ 5)))
   case atStart => exact ⟨0, none, 0, rfl, Nat.zero_le _, Nat.zero_le _, nrQ _, S4.out.1, S4.out.2.1, S4.out.2.2.1, [], rfl, S4.out.2.2.2.1, S4.out.2.2.2.2⟩
   case round =>
    clear S4
    obtain ⟨k, sv, scv, rfl, hks, hk4, hg1, SK⟩ := hrel
    obtain ⟨hx, hy, hg, sp, hsl, hown, hsp⟩ := SK.out
    clear SK
    by_cases hlt : k < sn
    ·have hltz : (k : Int) < (sn : Int) := by omega
     by_cases hlt4 : k < 40
     ·have hlt4z : (k : Int) < 40 := by omega
      have hNu := HA.out.2.2.2.1
      obtain ⟨b, off, ha, hc⟩ := hNu.mem.get (j := k) (by rw [hNu.eln]; exact hlt)
      subst ha
      have r0 := hc k (by rw [hNu.eln]; exact hlt)
      have hxr : 0 ≤ nth ss k ∧ nth ss k ≤ 65535 := by
       have := hNu.wf k (by rw [hNu.eln]; exact hlt)
       simpa [Lit.wf, IntKind.min, IntKind.max, IntKind.signed, IntKind.bits] using this
      have hbl := cell_lt r0
      clear hc hNu
      generalize nth ss k = x at r0 hxr
      have KP : ∀ W, W4.grownBy W (some (w.heap.size + 1)) → W.cell? ⟨b, off + k, none⟩ = some (.int .u16 x) := fun W hG => by
       have h1 := (HW4.out.cell (p := ⟨b, off + k, none⟩) hbl).trans r0
       exact hG.cell (a := ⟨b, off + k, none⟩) h1 (by simp only [ne_eq, oiQ]; omega)
      have GD : W4.grownBy wr.drew (some (w.heap.size + 1)) := grown_trans hg (grown_drew _ _)
      have hlw : ∀ q, (Value.slice sv k scv).ownBlock = some q → W4.heap.size ≤ q := fun q hq => (World.ownsRow.lt hown _ hq).1
      have GA : ∀ o w3, (wr.drew.alloc o).grownBy w3 (Value.slice sv k scv).ownBlock → W4.grownBy w3 (some (w.heap.size + 1)) := fun o w3 h3 => grown_row (grown_trans GD (World.grownBy_alloc _ _ _)) h3 hlw
      have hownA : ∀ o, (wr.drew.alloc o).ownsRow W4.heap.size 109 2 (.slice sv k scv) k (sp.flatMap spanC) := fun o => (World.ownsRow.drew hown).alloc o
      have hsz := hg.size
      have hlx := hx.lt
      have c6 := hx.cell (j := 6) rfl
      have z6 := hx.frz 6
      have p0 := KP _ hg
      have HX3 : ∀ o w3, (wr.drew.alloc o).grownBy w3 (Value.slice sv k scv).ownBlock → Boxed w3 (w.heap.size + 1) #[.int .u8 6, .int .u32 0, .int .u32 0, .slice none 0 0, .slice none 0 0, .int .u32 at_, .slice sv k scv, .int .i64 0, .int .i64 0, .slice none 0 0] 46 := fun o w3 h3 => (hx.below (((Below.refl _ _).drew).alloc (nrQ _) o)).grown h3 (fun e => by have := hlw _ e.symm; omega)
      have HY3 : ∀ o w3, (wr.drew.alloc o).grownBy w3 (Value.slice sv k scv).ownBlock → Boxed w3 w.heap.size #[.int .u8 0, .int .u32 0, .int .u32 0, .slice none 0 0, .slice none 0 0, .int .u32 0, .slice none 0 0, .int .i64 0, .int .i64 0, .slice none 0 0] 46 := fun o w3 h3 => (hy.below (((Below.refl _ _).drew).alloc (nrQ _) o)).grown h3 (fun e => by have := hlw _ e.symm; omega)
      have HH : Aside (sp.length = k ∧ (∀ s ∈ sp, (0 ≤ s.1 ∧ s.1 ≤ 9999) ∧ 0 ≤ s.2 ∧ s.2 ≤ 5)) := ⟨hsl, hsp⟩
      clear hsl hsp r0
      go_wp2_with fail
      go_region_law
       ((refine step_append_lies _ (by rfl) _ _ _ (by rfl) W4.heap.size 109 k0 _ 2 16 Tryz.underlying41 hk0 hkz1 hkz2 hkz3 rfl (by decide) _ k _ (by rfl) (hownA _) ⟨wr.heap.size, 0, none⟩ 1 1 [.int .i64 ((IntKind.i64.wrap x).tmod 10000), .int .i64 ((IntKind.i64.wrap x).tmod 6)] (by rfl) rfl (cells_two_new wr.drew _ _ _) (by intro u hu; simp at hu; rcases hu with rfl | rfl <;> rfl) (by decide) (by unfold maxLen; omega) (by omega) (by simp; omega) _ rfl ?_; intro g3 c3 w3 hown3 hgrow hat3 hglt; have hx3 := HX3 _ _ hgrow; have q6 := hx3.cell (j := 6) rfl; have y6 := hx3.frz 6))

      all_goals
       have S2 : Aside (Boxed (w3.setCell ⟨w.heap.size + 1, 6, none⟩ (.slice (some ⟨g3, 0, none⟩) (k + 1) c3)) (w.heap.size + 1) #[.int .u8 6, .int .u32 0, .int .u32 0, .slice none 0 0, .slice none 0 0, .int .u32 at_, .slice (some ⟨g3, 0, none⟩) (k + 1) c3, .int .i64 0, .int .i64 0, .slice none 0 0] 46 ∧ Boxed (w3.setCell ⟨w.heap.size + 1, 6, none⟩ (.slice (some ⟨g3, 0, none⟩) (k + 1) c3)) w.heap.size #[.int .u8 0, .int .u32 0, .int .u32 0, .slice none 0 0, .slice none 0 0, .int .u32 0, .slice none 0 0, .int .i64 0, .int .i64 0, .slice none 0 0] 46 ∧ W4.grownBy (w3.setCell ⟨w.heap.size + 1, 6, none⟩ (.slice (some ⟨g3, 0, none⟩) (k + 1) c3)) (some (w.heap.size + 1)) ∧ ∃ sp : List PSpan, sp.length = k + 1 ∧ (w3.setCell ⟨w.heap.size + 1, 6, none⟩ (.slice (some ⟨g3, 0, none⟩) (k + 1) c3)).ownsRow W4.heap.size 109 2 (.slice (some ⟨g3, 0, none⟩) (k + 1) c3) (k + 1) (sp.flatMap spanC) ∧ (∀ s ∈ sp, (0 ≤ s.1 ∧ s.1 ≤ 9999) ∧ 0 ≤ s.2 ∧ s.2 ≤ 5)) := by
        refine ⟨hx3.set 6 _, (HY3 _ _ hgrow).grown (grown_at _ _ _ _) (by simp only [ne_eq, oiQ]; omega), grown_trans (GA _ _ hgrow) (grown_at _ _ _ _), sp ++ [((IntKind.i64.wrap x).tmod 10000, (IntKind.i64.wrap x).tmod 6)], by simp [HH.out.1], ?_, fun s hs => ?_⟩
        ·have e1 : (sp ++ [((IntKind.i64.wrap x).tmod 10000, (IntKind.i64.wrap x).tmod 6)]).flatMap spanC = sp.flatMap spanC ++ [Value.int .i64 ((IntKind.i64.wrap x).tmod 10000), Value.int .i64 ((IntKind.i64.wrap x).tmod 6)] := by simp [spanC]
         rw [e1]
         refine hown3.kept (grown_at _ _ _ _) (Or.inr fun e => ?_)
         have := (World.ownsRow.lt hown3 _ e).1
         omega
        ·rcases List.mem_append.1 hs with hs | hs
         ·exact HH.out.2 s hs
         ·simp only [List.mem_singleton] at hs
          subst hs
          have h1 := md_ok (m := 10000) hxr (by omega)
          have h2 := md_ok (m := 6) hxr (by omega)
          exact ⟨⟨h1.1, by show (IntKind.i64.wrap x).tmod 10000 ≤ 9999; omega⟩, h2.1, by show (IntKind.i64.wrap x).tmod 6 ≤ 5; omega⟩
       clear hown3 hgrow hat3 hglt hx3 q6 y6 HX3 HY3 hownA hown KP GA GD hx hy hg p0 c6 z6
       go_wp2
       go_roundg (40 - (k + 1))
       case measure => omega
       case rel => exact ⟨k + 1, _, _, by go_num, by omega, by omega, by omega, S2⟩
     ·have hlt4z : ¬ (k : Int) < 40 := by omega
      have x9 := hx
      have y9 := hy
      have b9 : Below w.heap.size w wr := HW4.out.grown hg HW4.out.size (fun q hq => by injection hq; omega)
      have s0 : SsOwn w.heap.size wr (.slice sv k scv) sp := ⟨by rw [hsl]; exact own_mono hown HW4.out.size, fun s hs => by have := hsp s hs; unfold I64; omega⟩
      have HSP : Aside (sp.length = k ∧ spansOk sp = true) := ⟨hsl, spansOk_iff.2 ⟨hsp, by omega⟩⟩
      clear hx hy hg hown hsl hsp
      generalize wr = w9 at x9 y9 b9 s0 ⊢
      have HF : Aside (∀ W, w9.grownBy W (some w.heap.size) → MkRes 6 (ss = []) (mkQ kind id at_ nodes frm til fs es) (.agg #[.int .u8 6, .int .u32 0, .int .u32 0, .slice none 0 0, .slice none 0 0, .int .u32 at_, .slice sv k scv, .int .i64 0, .int .i64 0, .slice none 0 0]) W ∧ Below w.heap.size w W) := fun W hG => by
       have hO : RcOwn w.heap.size w9 ⟨6, 0, 0, none, 0, [], none, 0, [], at_, sv, scv, sp, 0, 0, none, 0, []⟩ := ⟨by show (0 : Int) ≤ 6 ∧ (6 : Int) ≤ 255; omega, u32_nought, u32_nought, ns_nil _ _, fs_nil _ _, HU.out.2, by rw [HSP.out.1]; exact s0, i64_nought, i64_nought, es_nil _ _⟩
       refine ⟨⟨⟨6, 0, 0, none, 0, [], none, 0, [], at_, sv, scv, sp, 0, 0, none, 0, []⟩, by unfold rcV rcC; simp [HSP.out.1], ⟨_, hO.far hG (y9.far (by decide)) (y9.far (by decide)) (y9.far (by decide)) (y9.far (by decide))⟩, ?_, rfl, fun hss => ?_⟩, b9.grown hG b9.size (fun q hq => by injection hq; omega)⟩
       ·show sndRec _ = true
        dsimp only [sndRec, pr, bareA, bareN, bareF, bareI, bareM, bareR]
        rw [HSP.out.2]
        rfl
       ·have e0 : sp = [] := List.eq_nil_of_length_eq_zero (by have h1 := HA.out.2.2.2.1.eln; have h2 := HSP.out.1; rw [hss, List.length_nil] at h1; omega)
        unfold mkQ
        rw [if_neg (by have := HK.out; omega), if_neg (by have := HK.out; omega), if_pos HK.out]
        show (⟨6, 0, 0, [], [], at_, sp, 0, 0, []⟩ : PRec) = _
        rw [e0]
      have c0 := x9.cell (j := 0) rfl
      have e0 := y9.cell (j := 0) rfl
      have z0 := y9.frz 0
      have c1 := x9.cell (j := 1) rfl
      have e1 := y9.cell (j := 1) rfl
      have z1 := y9.frz 1
      have c2 := x9.cell (j := 2) rfl
      have e2 := y9.cell (j := 2) rfl
      have z2 := y9.frz 2
      have c3 := x9.cell (j := 3) rfl
      have e3 := y9.cell (j := 3) rfl
      have z3 := y9.frz 3
      have c4 := x9.cell (j := 4) rfl
      have e4 := y9.cell (j := 4) rfl
      have z4 := y9.frz 4
      have c5 := x9.cell (j := 5) rfl
      have e5 := y9.cell (j := 5) rfl
      have z5 := y9.frz 5
      have c6 := x9.cell (j := 6) rfl
      have e6 := y9.cell (j := 6) rfl
      have z6 := y9.frz 6
      have c7 := x9.cell (j := 7) rfl
      have e7 := y9.cell (j := 7) rfl
      have z7 := y9.frz 7
      have c8 := x9.cell (j := 8) rfl
      have e8 := y9.cell (j := 8) rfl
      have z8 := y9.frz 8
      have c9 := x9.cell (j := 9) rfl
      have e9 := y9.cell (j := 9) rfl
      have z9 := y9.frz 9
      clear x9 y9 b9 s0
      go_wp2
      refine bodyPost_ret (v := .agg #[.int .u8 6, .int .u32 0, .int .u32 0, .slice none 0 0, .slice none 0 0, .int .u32 at_, .slice sv k scv, .int .i64 0, .int .i64 0, .slice none 0 0]) (by simp [results, Tryz.results33, go_sem, *]) rfl ⟨_, rfl, (HF.out _ ?_).1, (HF.out _ ?_).2⟩
      all_goals
       iterate 9 (refine grown_trans ?_ (grown_at _ _ _ _))
       exact grown_at _ _ _ _
    ·have hltz : ¬ (k : Int) < (sn : Int) := by omega
     have x9 := hx
     have y9 := hy
     have b9 : Below w.heap.size w wr := HW4.out.grown hg HW4.out.size (fun q hq => by injection hq; omega)
     have s0 : SsOwn w.heap.size wr (.slice sv k scv) sp := ⟨by rw [hsl]; exact own_mono hown HW4.out.size, fun s hs => by have := hsp s hs; unfold I64; omega⟩
     have HSP : Aside (sp.length = k ∧ spansOk sp = true) := ⟨hsl, spansOk_iff.2 ⟨hsp, by omega⟩⟩
     clear hx hy hg hown hsl hsp
     generalize wr = w9 at x9 y9 b9 s0 ⊢
     have HF : Aside (∀ W, w9.grownBy W (some w.heap.size) → MkRes 6 (ss = []) (mkQ kind id at_ nodes frm til fs es) (.agg #[.int .u8 6, .int .u32 0, .int .u32 0, .slice none 0 0, .slice none 0 0, .int .u32 at_, .slice sv k scv, .int .i64 0, .int .i64 0, .slice none 0 0]) W ∧ Below w.heap.size w W) := fun W hG => by
      have hO : RcOwn w.heap.size w9 ⟨6, 0, 0, none, 0, [], none, 0, [], at_, sv, scv, sp, 0, 0, none, 0, []⟩ := ⟨by show (0 : Int) ≤ 6 ∧ (6 : Int) ≤ 255; omega, u32_nought, u32_nought, ns_nil _ _, fs_nil _ _, HU.out.2, by rw [HSP.out.1]; exact s0, i64_nought, i64_nought, es_nil _ _⟩
      refine ⟨⟨⟨6, 0, 0, none, 0, [], none, 0, [], at_, sv, scv, sp, 0, 0, none, 0, []⟩, by unfold rcV rcC; simp [HSP.out.1], ⟨_, hO.far hG (y9.far (by decide)) (y9.far (by decide)) (y9.far (by decide)) (y9.far (by decide))⟩, ?_, rfl, fun hss => ?_⟩, b9.grown hG b9.size (fun q hq => by injection hq; omega)⟩
      ·show sndRec _ = true
       dsimp only [sndRec, pr, bareA, bareN, bareF, bareI, bareM, bareR]
       rw [HSP.out.2]
       rfl
      ·have e0 : sp = [] := List.eq_nil_of_length_eq_zero (by have h1 := HA.out.2.2.2.1.eln; have h2 := HSP.out.1; rw [hss, List.length_nil] at h1; omega)
       unfold mkQ
       rw [if_neg (by have := HK.out; omega), if_neg (by have := HK.out; omega), if_pos HK.out]
       show (⟨6, 0, 0, [], [], at_, sp, 0, 0, []⟩ : PRec) = _
       rw [e0]
     have c0 := x9.cell (j := 0) rfl
     have e0 := y9.cell (j := 0) rfl
     have z0 := y9.frz 0
     have c1 := x9.cell (j := 1) rfl
     have e1 := y9.cell (j := 1) rfl
     have z1 := y9.frz 1
     have c2 := x9.cell (j := 2) rfl
     have e2 := y9.cell (j := 2) rfl
     have z2 := y9.frz 2
     have c3 := x9.cell (j := 3) rfl
     have e3 := y9.cell (j := 3) rfl
     have z3 := y9.frz 3
     have c4 := x9.cell (j := 4) rfl
     have e4 := y9.cell (j := 4) rfl
     have z4 := y9.frz 4
     have c5 := x9.cell (j := 5) rfl
     have e5 := y9.cell (j := 5) rfl
     have z5 := y9.frz 5
     have c6 := x9.cell (j := 6) rfl
     have e6 := y9.cell (j := 6) rfl
     have z6 := y9.frz 6
     have c7 := x9.cell (j := 7) rfl
     have e7 := y9.cell (j := 7) rfl
     have z7 := y9.frz 7
     have c8 := x9.cell (j := 8) rfl
     have e8 := y9.cell (j := 8) rfl
     have z8 := y9.frz 8
     have c9 := x9.cell (j := 9) rfl
     have e9 := y9.cell (j := 9) rfl
     have z9 := y9.frz 9
     clear x9 y9 b9 s0
     go_wp2
     refine bodyPost_ret (v := .agg #[.int .u8 6, .int .u32 0, .int .u32 0, .slice none 0 0, .slice none 0 0, .int .u32 at_, .slice sv k scv, .int .i64 0, .int .i64 0, .slice none 0 0]) (by simp [results, Tryz.results33, go_sem, *]) rfl ⟨_, rfl, (HF.out _ ?_).1, (HF.out _ ?_).2⟩
     all_goals
      iterate 9 (refine grown_trans ?_ (grown_at _ _ _ _))
      exact grown_at _ _ _ _
end code
end Go.Proofs.YtlcjllgfpfldlaaGreat
