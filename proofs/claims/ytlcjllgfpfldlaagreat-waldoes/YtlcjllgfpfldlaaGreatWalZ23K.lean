/-
 A record read: the program's readRec.
 What was read can be read: a record of a call's own, as a record in memory.
 A record read: the program's readRec, kind 1.
 A record read: the program's readRec, kind 2.
 A record read: the program's readRec, kind 6.
-/
import Derived.Test.YtlcjllgfpfldlaaGreatWalZ22K
set_option maxHeartbeats 16000000
open Go.ChangeShapes Go.WideShapes Go.ChangeAt Go.RowKit Go.Deep
set_option linter.unusedVariables false
set_option maxRecDepth 100000
namespace Go.Proofs.YtlcjllgfpfldlaaGreat
namespace code
open dims (Ints own_out)
set_option linter.unusedSimpArgs false
structure RcOwn (B : Nat) (W : World) (r : Rc) : Prop where
 kind : 0 ≤ r.kind ∧ r.kind ≤ 255
 id : U32 r.id
 at_ : U32 r.at_
 nodes : NsOwn B W (.slice r.na r.nodes.length r.nc) r.nodes
 facts : FsOwn B W (.slice r.fa r.facts.length r.fc) r.facts
 epoch : U32 r.epoch
 spans : SsOwn B W (.slice r.sa r.spans.length r.sc) r.spans
 frm : I64 r.frm
 til : I64 r.til
 ents : EsOwn B W (.slice r.ea r.ents.length r.ec) r.ents
theorem RcOwn.far {B : Nat} {W W' : World} {r : Rc} {row : Option Nat} (h : RcOwn B W r) (hg : W.grownBy W' row) (h1 : Far W row 3) (h2 : Far W row 124) (h3 : Far W row 109) (h4 : Far W row 94) : RcOwn B W' r :=
 ⟨h.kind, h.id, h.at_, h.nodes.far hg h1, h.facts.far hg h1 h2, h.epoch, h.spans.far hg h3, h.frm, h.til, h.ents.far hg h1 h2 h4⟩
theorem ns_nil (B : Nat) (W : World) : NsOwn B W (.slice none 0 0) [] := ⟨World.ownsRow_nil _ _ _ _, by simp⟩
theorem fs_nil (B : Nat) (W : World) : FsOwn B W (.slice none 0 0) [] := ⟨World.ownsRow_nil _ _ _ _, by simp⟩
theorem ss_nil (B : Nat) (W : World) : SsOwn B W (.slice none 0 0) [] := ⟨World.ownsRow_nil _ _ _ _, by simp⟩
theorem es_nil (B : Nat) (W : World) : EsOwn B W (.slice none 0 0) [] := ⟨World.ownsRow_nil _ _ _ _, by simp⟩
theorem u32_nought : U32 0 := by unfold U32; omega
theorem i64_nought : I64 0 := by unfold I64; omega
theorem pu32 {l l' : List UInt8} {y : Int} (h : pInt 4 l = some (y, l')) : U32 y := by have := pInt_lt h; rw [pow4] at this; unfold U32; omega
theorem pi64 {l l' : List UInt8} {y : Int} (h : pInt 4 l = some (y, l')) : I64 y := by have := pInt_lt h; rw [pow4] at this; unfold I64; omega
theorem pu8 {l l' : List UInt8} {y : Int} (h : pInt 1 l = some (y, l')) : 0 ≤ y ∧ y ≤ 255 := by have := pInt_lt h; rw [pow1] at this; omega
theorem ns_form {B : Nat} {W : World} {v : Value} {l : List Int} (h : NsOwn B W v l) : ∃ a cap, v = .slice a l.length cap := by
 rcases h.own.2 with ⟨h1, h2⟩ | ⟨g, cap, cur, h1, _⟩
 ·rw [h1, h2]; exact ⟨_, _, rfl⟩
 ·exact ⟨_, _, h1⟩
theorem ss_form {B : Nat} {W : World} {v : Value} {l : List PSpan} (h : SsOwn B W v l) : ∃ a cap, v = .slice a l.length cap := by
 rcases h.own.2 with ⟨h1, h2⟩ | ⟨g, cap, cur, h1, _⟩
 ·rw [h1, h2]; exact ⟨_, _, rfl⟩
 ·exact ⟨_, _, h1⟩
theorem es_form {B : Nat} {W : World} {v : Value} {l : List Et} (h : EsOwn B W v l) : ∃ a cap, v = .slice a l.length cap := by
 rcases h.own.2 with ⟨h1, h2⟩ | ⟨g, cap, cur, h1, _⟩
 ·rw [h1, h2]; exact ⟨_, _, rfl⟩
 ·exact ⟨_, _, h1⟩

theorem rr_start (R B : Nat) (w : World) (l : List UInt8) (hB : B ≤ w.heap.size) (hR : RdL R w l) : ∃ W0, Hid ((w.alloc (.cells #[.int .u8 0, .int .u32 0, .int .u32 0, .slice none 0 0, .slice none 0 0, .int .u32 0, .slice none 0 0, .int .i64 0, .int .i64 0, .slice none 0 0] 46)).alloc (.cells #[.int .u8 0, .int .u32 0, .int .u32 0, .slice none 0 0, .slice none 0 0, .int .u32 0, .slice none 0 0, .int .i64 0, .int .i64 0, .slice none 0 0] 46) = W0) ∧ R < w.heap.size ∧ Boxed W0 w.heap.size #[.int .u8 0, .int .u32 0, .int .u32 0, .slice none 0 0, .slice none 0 0, .int .u32 0, .slice none 0 0, .int .i64 0, .int .i64 0, .slice none 0 0] 46 ∧ Boxed W0 (w.heap.size + 1) #[.int .u8 0, .int .u32 0, .int .u32 0, .slice none 0 0, .slice none 0 0, .int .u32 0, .slice none 0 0, .int .i64 0, .int .i64 0, .slice none 0 0] 46 ∧ Went R w W0 l ∧ B ≤ W0.heap.size := by
 have hRlt := hR.lt
 have hb0 : Below w.heap.size w ((w.alloc (.cells #[.int .u8 0, .int .u32 0, .int .u32 0, .slice none 0 0, .slice none 0 0, .int .u32 0, .slice none 0 0, .int .i64 0, .int .i64 0, .slice none 0 0] 46)).alloc (.cells #[.int .u8 0, .int .u32 0, .int .u32 0, .slice none 0 0, .slice none 0 0, .int .u32 0, .slice none 0 0, .int .i64 0, .int .i64 0, .slice none 0 0] 46)) := by (repeat (first | with_reducible exact Below.refl _ _ | (with_reducible refine Below.drew ?_) | (with_reducible refine Below.alloc ?_ (by first | omega | (simp; done) | (simp; omega)) _) | (with_reducible refine Below.setCell ?_ (by first | exact nrQ _ | omega | (simp; done) | (simp; omega)) _)))
 have hx0 : Boxed ((w.alloc (.cells #[.int .u8 0, .int .u32 0, .int .u32 0, .slice none 0 0, .slice none 0 0, .int .u32 0, .slice none 0 0, .int .i64 0, .int .i64 0, .slice none 0 0] 46)).alloc (.cells #[.int .u8 0, .int .u32 0, .int .u32 0, .slice none 0 0, .slice none 0 0, .int .u32 0, .slice none 0 0, .int .i64 0, .int .i64 0, .slice none 0 0] 46)) w.heap.size #[.int .u8 0, .int .u32 0, .int .u32 0, .slice none 0 0, .slice none 0 0, .int .u32 0, .slice none 0 0, .int .i64 0, .int .i64 0, .slice none 0 0] 46 := (Boxed.new w _ _).grown (World.grownBy_alloc _ _ none) (by simp)
 have hr0 : Boxed ((w.alloc (.cells #[.int .u8 0, .int .u32 0, .int .u32 0, .slice none 0 0, .slice none 0 0, .int .u32 0, .slice none 0 0, .int .i64 0, .int .i64 0, .slice none 0 0] 46)).alloc (.cells #[.int .u8 0, .int .u32 0, .int .u32 0, .slice none 0 0, .slice none 0 0, .int .u32 0, .slice none 0 0, .int .i64 0, .int .i64 0, .slice none 0 0] 46)) (w.heap.size + 1) #[.int .u8 0, .int .u32 0, .int .u32 0, .slice none 0 0, .slice none 0 0, .int .u32 0, .slice none 0 0, .int .i64 0, .int .i64 0, .slice none 0 0] 46 := by
  have := Boxed.new (w.alloc (.cells #[.int .u8 0, .int .u32 0, .int .u32 0, .slice none 0 0, .slice none 0 0, .int .u32 0, .slice none 0 0, .int .i64 0, .int .i64 0, .slice none 0 0] 46)) #[.int .u8 0, .int .u32 0, .int .u32 0, .slice none 0 0, .slice none 0 0, .int .u32 0, .slice none 0 0, .int .i64 0, .int .i64 0, .slice none 0 0] 46
  simpa using this
 have hW0 := Went.start hR hb0
 have hB0 := ntQ hB hb0.size
 generalize hWW : (w.alloc (.cells #[.int .u8 0, .int .u32 0, .int .u32 0, .slice none 0 0, .slice none 0 0, .int .u32 0, .slice none 0 0, .int .i64 0, .int .i64 0, .slice none 0 0] 46)).alloc (.cells #[.int .u8 0, .int .u32 0, .int .u32 0, .slice none 0 0, .slice none 0 0, .int .u32 0, .slice none 0 0, .int .i64 0, .int .i64 0, .slice none 0 0] 46) = W0 at hb0 hx0 hr0 hW0 hB0
 exact ⟨W0, (rfl : W0 = W0), hRlt, hx0, hr0, hW0, hB0⟩

theorem rr_0_1 (R B : Nat) (hRB : R < B) (w : World) (l : List UInt8) (hB : B ≤ w.heap.size) (hR : RdL R w l) (hl : l.length ≤ 60000) (hq1 : pInt 1 l = none) :
  Calls Tryz.prog 72 #[.pointer (some ⟨R, 0, none⟩)] w fun e w' => PostX R w (pRec l) (fun y v w' => ∃ r, v = rcV r ∧ pr r = y ∧ RcOwn B w' r) e w' := by
 obtain ⟨W0, HW, hRlt, hx0, hr0, hW0, hB0⟩ := rr_start R B w l hB hR
 clear hR
 have Q1 : Hid (_ = _) := hq1
 have HL0 : Hid (l.length ≤ 60000) := hl
 have hC1 := ru8 R W0 l hW0.rdr
 go_enter Tryz.func72, Tryz.ntmps72
 go_wp2_with fail
 rw [HW.out]
 refine hC1.mono ?_
 intro e w1 hP
 obtain ⟨⟨m, rfl⟩, hgr⟩ := hP.miss hq1
 exact ⟨rfl, PostX.none (by simp [pRec, pBody, hq1]) (grown_trans (hW0).grown hgr)⟩

theorem rr_0_2 (R B : Nat) (hRB : R < B) (w : World) (l : List UInt8) (hB : B ≤ w.heap.size) (hR : RdL R w l) (hl : l.length ≤ 60000) {y1 : Int} {l1 : List UInt8} (hq1 : pInt 1 l = some (y1, l1)) (hq2 : pInt 4 l1 = none) :
  Calls Tryz.prog 72 #[.pointer (some ⟨R, 0, none⟩)] w fun e w' => PostX R w (pRec l) (fun y v w' => ∃ r, v = rcV r ∧ pr r = y ∧ RcOwn B w' r) e w' := by
 obtain ⟨W0, HW, hRlt, hx0, hr0, hW0, hB0⟩ := rr_start R B w l hB hR
 clear hR
 have Q1 : Hid (_ = _) := hq1
 have Q2 : Hid (_ = _) := hq2
 have HL0 : Hid (l.length ≤ 60000) := hl
 have hC1 := ru8 R W0 l hW0.rdr
 go_enter Tryz.func72, Tryz.ntmps72
 go_wp2_with fail
 rw [HW.out]
 refine hC1.mono ?_
 intro e w1 hP
 obtain ⟨v1, rfl, hg1, hw1⟩ := hP.got hq1
 subst hg1
 have x1 := hx0.grown hw1.grown (by simp only [ne_eq, oiQ]; omega)
 have r1 := hr0.grown hw1.grown (by simp only [ne_eq, oiQ]; omega)
 have n1 : Went R w w1 l1 := (hW0).trans hw1
 have c1 := r1.cell (j := 0) rfl
 have z1 := r1.frz 0
 clear hC1 hP
 have nn1 : Went R w (w1.setCell ⟨w.heap.size + 1, 0, none⟩ (.int .u8 y1)) l1 := n1.row (grown_at _ _ _ _) (fun g hg => by injection hg with hg; omega) hRlt
 have xx1 := x1.grown (grown_at w1 (w.heap.size + 1) 0 (.int .u8 y1)) (by simp only [ne_eq, oiQ]; omega)
 have rr1 := r1.set 0 (.int .u8 y1)
 have hBB1 : B ≤ (w1.setCell ⟨w.heap.size + 1, 0, none⟩ (.int .u8 y1)).heap.size := ntQ hB nn1.grown.size
 have hl1 : Hid (l1.length ≤ 60000) := by
  show _ ≤ _
  have h1 := HL0.out
  have h2 := pInt_less (by omega) _ _ _ hq1
  omega
 have hC2 := ru32 R (w1.setCell ⟨w.heap.size + 1, 0, none⟩ (.int .u8 y1)) l1 nn1.rdr 4 (by omega) (by omega)
 go_wp2_with (go_at_call 89; refine hC2.mono ?_; intro e w2 hP; obtain ⟨⟨m, rfl⟩, hgr⟩ := hP.miss hq2)
 exact ⟨rfl, PostX.none (by simp [pRec, pBody, hq1, hq2]) (grown_trans (nn1).grown hgr)⟩

theorem rr_0_0 (R B : Nat) (hRB : R < B) (w : World) (l : List UInt8) (hB : B ≤ w.heap.size) (hR : RdL R w l) (hl : l.length ≤ 60000) {y1 : Int} {l1 : List UInt8} (hq1 : pInt 1 l = some (y1, l1)) {y2 : Int} {l2 : List UInt8} (hq2 : pInt 4 l1 = some (y2, l2)) (k1 : (y1 == 1) = false) (k2 : (y1 == 2) = false) (k6 : (y1 == 6) = false) (k7 : (y1 == 7) = false) :
  Calls Tryz.prog 72 #[.pointer (some ⟨R, 0, none⟩)] w fun e w' => PostX R w (pRec l) (fun y v w' => ∃ r, v = rcV r ∧ pr r = y ∧ RcOwn B w' r) e w' := by
 have e1 : ¬ y1 = 1 := by simpa using k1
 have e2 : ¬ y1 = 2 := by simpa using k2
 have e6 : ¬ y1 = 6 := by simpa using k6
 have e7 : ¬ y1 = 7 := by simpa using k7
 obtain ⟨W0, HW, hRlt, hx0, hr0, hW0, hB0⟩ := rr_start R B w l hB hR
 clear hR
 have Q1 : Hid (_ = _) := hq1
 have Q2 : Hid (_ = _) := hq2
 have HL0 : Hid (l.length ≤ 60000) := hl
 have hC1 := ru8 R W0 l hW0.rdr
 go_enter Tryz.func72, Tryz.ntmps72
 go_wp2_with fail
 rw [HW.out]
 refine hC1.mono ?_
 intro e w1 hP
 obtain ⟨v1, rfl, hg1, hw1⟩ := hP.got hq1
 subst hg1
 have x1 := hx0.grown hw1.grown (by simp only [ne_eq, oiQ]; omega)
 have r1 := hr0.grown hw1.grown (by simp only [ne_eq, oiQ]; omega)
 have n1 : Went R w w1 l1 := (hW0).trans hw1
 have c1 := r1.cell (j := 0) rfl
 have z1 := r1.frz 0
 clear hC1 hP
 have nn1 : Went R w (w1.setCell ⟨w.heap.size + 1, 0, none⟩ (.int .u8 y1)) l1 := n1.row (grown_at _ _ _ _) (fun g hg => by injection hg with hg; omega) hRlt
 have xx1 := x1.grown (grown_at w1 (w.heap.size + 1) 0 (.int .u8 y1)) (by simp only [ne_eq, oiQ]; omega)
 have rr1 := r1.set 0 (.int .u8 y1)
 have hBB1 : B ≤ (w1.setCell ⟨w.heap.size + 1, 0, none⟩ (.int .u8 y1)).heap.size := ntQ hB nn1.grown.size
 have hl1 : Hid (l1.length ≤ 60000) := by
  show _ ≤ _
  have h1 := HL0.out
  have h2 := pInt_less (by omega) _ _ _ hq1
  omega
 have hC2 := ru32 R (w1.setCell ⟨w.heap.size + 1, 0, none⟩ (.int .u8 y1)) l1 nn1.rdr 4 (by omega) (by omega)
 go_wp2_with (go_at_call 89; refine hC2.mono ?_; intro e w2 hP; obtain ⟨v2, rfl, hg2, hw2⟩ := hP.got hq2; refine Hid.out ?_)
 refine hid ?_
 subst hg2
 have x2 := xx1.grown hw2.grown (by simp only [ne_eq, oiQ]; omega)
 have r2 := rr1.grown hw2.grown (by simp only [ne_eq, oiQ]; omega)
 have n2 : Went R w w2 l2 := (nn1).trans hw2
 have c2 := r2.cell (j := 1) rfl
 have z2 := r2.frz 1
 have ck := r2.cell (j := 0) rfl
 clear hC2 hP
 have nn2 : Went R w (w2.setCell ⟨w.heap.size + 1, 1, none⟩ (.int .u32 y2)) l2 := n2.row (grown_at _ _ _ _) (fun g hg => by injection hg with hg; omega) hRlt
 have xx2 := x2.grown (grown_at w2 (w.heap.size + 1) 1 (.int .u32 y2)) (by simp only [ne_eq, oiQ]; omega)
 have rr2 := r2.set 1 (.int .u32 y2)
 have hBB2 : B ≤ (w2.setCell ⟨w.heap.size + 1, 1, none⟩ (.int .u32 y2)).heap.size := ntQ hB nn2.grown.size
 have hl2 : Hid (l2.length ≤ 60000) := by
  show _ ≤ _
  have h1 := hl1.out
  have h2 := pInt_less (by omega) _ _ _ hq2
  omega
 have cr0 := r2.cell (j := 0) rfl
 have cx0 := x2.cell (j := 0) rfl
 have zx0 := x2.frz 0
 have cr1 := r2.cell (j := 1) rfl
 have cx1 := x2.cell (j := 1) rfl
 have zx1 := x2.frz 1
 have cr2 := r2.cell (j := 2) rfl
 have cx2 := x2.cell (j := 2) rfl
 have zx2 := x2.frz 2
 have cr3 := r2.cell (j := 3) rfl
 have cx3 := x2.cell (j := 3) rfl
 have zx3 := x2.frz 3
 have cr4 := r2.cell (j := 4) rfl
 have cx4 := x2.cell (j := 4) rfl
 have zx4 := x2.frz 4
 have cr5 := r2.cell (j := 5) rfl
 have cx5 := x2.cell (j := 5) rfl
 have zx5 := x2.frz 5
 have cr6 := r2.cell (j := 6) rfl
 have cx6 := x2.cell (j := 6) rfl
 have zx6 := x2.frz 6
 have cr7 := r2.cell (j := 7) rfl
 have cx7 := x2.cell (j := 7) rfl
 have zx7 := x2.frz 7
 have cr8 := r2.cell (j := 8) rfl
 have cx8 := x2.cell (j := 8) rfl
 have zx8 := x2.frz 8
 have cr9 := r2.cell (j := 9) rfl
 have cx9 := x2.cell (j := 9) rfl
 have zx9 := x2.frz 9
 have HF : Aside (∀ W, ((w2.setCell ⟨w.heap.size + 1, 1, none⟩ (.int .u32 y2))).grownBy W (some w.heap.size) → PostX R w (pRec l) (fun y v w' => ∃ r, v = rcV r ∧ pr r = y ∧ RcOwn B w' r) (.returned (.agg #[.int .u8 y1, .int .u32 y2, .int .u32 0, .slice none 0 0, .slice none 0 0, .int .u32 0, .slice none 0 0, .int .i64 0, .int .i64 0, .slice none 0 0])) W) := fun W hG => by
  have hO : RcOwn B ((w2.setCell ⟨w.heap.size + 1, 1, none⟩ (.int .u32 y2))) ⟨y1, y2, 0, none, 0, [], none, 0, [], 0, none, 0, [], 0, 0, none, 0, []⟩ := ⟨pu8 Q1.out, pu32 Q2.out, u32_nought, ns_nil _ _, fs_nil _ _, u32_nought, ss_nil _ _, i64_nought, i64_nought, es_nil _ _⟩
  refine PostX.some (y := pr ⟨y1, y2, 0, none, 0, [], none, 0, [], 0, none, 0, [], 0, 0, none, 0, []⟩) (l' := l2) ?_ ⟨⟨y1, y2, 0, none, 0, [], none, 0, [], 0, none, 0, [], 0, 0, none, 0, []⟩, rfl, rfl, hO.far hG (xx2.far (by decide)) (xx2.far (by decide)) (xx2.far (by decide)) (xx2.far (by decide))⟩ ((nn2).row hG (fun g hg => by injection hg with hg; omega) hRlt)
  simp [pRec, pBody, hq1, hq2, e1, e2, e6, e7, pr]
 clear nn1 xx1 rr1 n1 x1 r1 hw1 hBB1 nn2 xx2 rr2 n2 x2 r2 hw2 hBB2 hx0 hr0 hW0  hq1 hq2
 go_wp2
 refine bodyPost_ret (v := .agg #[.int .u8 y1, .int .u32 y2, .int .u32 0, .slice none 0 0, .slice none 0 0, .int .u32 0, .slice none 0 0, .int .i64 0, .int .i64 0, .slice none 0 0]) (by simp [results, Tryz.results72, go_sem, *]) rfl (HF.out _ ?_)
 iterate 9 (refine grown_trans ?_ (grown_at _ _ _ _))
 exact grown_at _ _ _ _
end code
namespace code
open dims (Ints own_out)
theorem flat_two {α : Type} {f : α → List Value} (hf : ∀ x, (f x).length = 2) : ∀ (l : List α) (i j : Nat) (hi : i < l.length), j < 2 → (l.flatMap f)[i * 2 + j]? = (f (l[i]))[j]?
 | [], i, j, hi, _ => by simp at hi
 | x :: l, 0, j, hi, hj => by
  rw [List.flatMap_cons, List.getElem?_append_left (by rw [hf]; omega)]
  simp
 | x :: l, i + 1, j, hi, hj => by
  rw [List.flatMap_cons, List.getElem?_append_right (by rw [hf]; omega), hf]
  rw [show (i + 1) * 2 + j - 2 = i * 2 + j by omega, flat_two hf l i j (by simpa using hi) hj]
  simp
theorem row_two {α : Type} {f : α → List Value} (hf : ∀ x, (f x).length = 2) {W : World} {B : Nat} {e : TypeId} {a : Option Addr} {c : Nat} {l : List α} (h : W.ownsRow B e 2 (.slice a l.length c) l.length (l.flatMap f)) :
  l = [] ∨ ∃ b, a = some ⟨b, 0, none⟩ ∧ ∀ i (hi : i < l.length), W.cell? ⟨b, i * 2, none⟩ = (f (l[i]))[0]? ∧ W.cell? ⟨b, i * 2 + 1, none⟩ = (f (l[i]))[1]? := by
 rcases h.2 with ⟨_, h0⟩ | ⟨g, cap, cur, hv, _, _, hc, hm, _⟩
 ·exact .inl (List.eq_nil_of_length_eq_zero h0)
 ·simp only [Value.slice.injEq] at hv
  obtain ⟨rfl, -, rfl⟩ := hv
  refine .inr ⟨g, rfl, fun i hi => ⟨?_, ?_⟩⟩
  ·have := World.ownsRow.cellAt h (i * 2) (by omega)
   rw [this]
   exact flat_two hf l i 0 hi (by omega)
  ·have := World.ownsRow.cellAt h (i * 2 + 1) (by omega)
   rw [this]
   exact flat_two hf l i 1 hi (by omega)
theorem own_len {W : World} {B s n c : Nat} {e : TypeId} {a : Option Addr} {xs : List Value} (h : W.ownsRow B e s (.slice a n c) n xs) : n ≤ 9223372036854775807 := by
 rcases h.2 with ⟨_, h0⟩ | ⟨g, cap, cur, hv, _, _, hc, hm, _⟩
 ·omega
 ·have : maxLen ≤ 9223372036854775807 := by unfold maxLen; omega
  omega
theorem NsOwn.ints {B c : Nat} {W : World} {a : Option Addr} {l : List Int} (h : NsOwn B W (.slice a l.length c) l) : Ints W a l := by
 obtain ⟨a2, cap, e, hI, -⟩ := (own_out h.own).1
 simp only [Value.slice.injEq] at e
 rw [e.1]; exact hI
theorem FtOwn.ok {B : Nat} {W : World} {f : Ft} (h : FtOwn B W f) : FtOk W f := ⟨NsOwn.ints (B := B) (c := f.cap) ⟨h.own, h.key⟩, own_len h.own, h.key, h.num⟩
theorem FsOwn.facts {B c : Nat} {W : World} {a : Option Addr} {fs : List Ft} (h : FsOwn B W (.slice a fs.length c) fs) : FactsIn W a fs := by
 rcases row_two (f := factC) (fun _ => rfl) h.own with h0 | ⟨b, ha, hc⟩
 ·exact .inl h0
 ·refine .inr ⟨b, 0, ha, fun i hi => ?_⟩
  obtain ⟨c1, c2⟩ := hc i hi
  rw [Nat.zero_add, ftn_eq hi]
  exact ⟨c1, c2, (h.all _ (List.getElem_mem hi)).ok⟩
theorem EtOwn.ok {B : Nat} {W : World} {e : Et} (h : EtOwn B W e) : EtOk W e := ⟨h.own.facts, own_len h.own.own, h.num⟩
theorem EsOwn.ents {B c : Nat} {W : World} {a : Option Addr} {es : List Et} (h : EsOwn B W (.slice a es.length c) es) : EntsIn W a es := by
 rcases row_two (f := entC) (fun _ => rfl) h.own with h0 | ⟨b, ha, hc⟩
 ·exact .inl h0
 ·refine .inr ⟨b, 0, ha, fun i hi => ?_⟩
  obtain ⟨c1, c2⟩ := hc i hi
  rw [Nat.zero_add, etn_eq hi]
  exact ⟨c1, c2, (h.all _ (List.getElem_mem hi)).ok⟩
theorem SsOwn.spans {B c : Nat} {W : World} {a : Option Addr} {ss : List PSpan} (h : SsOwn B W (.slice a ss.length c) ss) : SpansIn W a ss := by
 rcases row_two (f := spanC) (fun _ => rfl) h.own with h0 | ⟨b, ha, hc⟩
 ·exact .inl h0
 ·refine .inr ⟨b, 0, ha, fun i hi => ?_⟩
  obtain ⟨c1, c2⟩ := hc i hi
  rw [Nat.zero_add, spn_eq hi]
  exact ⟨c1, c2, h.all _ (List.getElem_mem hi)⟩
theorem RcOwn.recIn {B : Nat} {W : World} {r : Rc} (h : RcOwn B W r) : RecIn W r :=
 ⟨h.kind, h.id, h.at_, h.nodes.ints, own_len h.nodes.own, h.nodes.all, h.facts.facts, own_len h.facts.own, h.epoch, h.spans.spans, own_len h.spans.own, h.frm, h.til, h.ents.ents, own_len h.ents.own⟩
def OwnIn (W : World) (r : Rc) : Prop := ∃ B, RcOwn B W r
theorem OwnIn.recIn {W : World} {r : Rc} (h : OwnIn W r) : RecIn W r := by
 obtain ⟨B, h⟩ := h
 exact h.recIn
set_option linter.unusedSimpArgs false
theorem rr_1_3 (R B : Nat) (hRB : R < B) (w : World) (l : List UInt8) (hB : B ≤ w.heap.size) (hR : RdL R w l) (hl : l.length ≤ 60000) {l1 : List UInt8} (hq1 : pInt 1 l = some (1, l1)) {y2 : Int} {l2 : List UInt8} (hq2 : pInt 4 l1 = some (y2, l2)) (hq3 : pAll 1 (pInt 1) l2 = none) :
  Calls Tryz.prog 72 #[.pointer (some ⟨R, 0, none⟩)] w fun e w' => PostX R w (pRec l) (fun y v w' => ∃ r, v = rcV r ∧ pr r = y ∧ RcOwn B w' r) e w' := by
 obtain ⟨W0, HW, hRlt, hx0, hr0, hW0, hB0⟩ := rr_start R B w l hB hR
 clear hR
 have Q1 : Hid (_ = _) := hq1
 have Q2 : Hid (_ = _) := hq2
 have Q3 : Hid (_ = _) := hq3
 have HL0 : Hid (l.length ≤ 60000) := hl
 have hC1 := ru8 R W0 l hW0.rdr
 go_enter Tryz.func72, Tryz.ntmps72
 go_wp2_with fail
 rw [HW.out]
 refine hC1.mono ?_
 intro e w1 hP
 obtain ⟨v1, rfl, hg1, hw1⟩ := hP.got hq1
 subst hg1
 have x1 := hx0.grown hw1.grown (by simp only [ne_eq, oiQ]; omega)
 have r1 := hr0.grown hw1.grown (by simp only [ne_eq, oiQ]; omega)
 have n1 : Went R w w1 l1 := (hW0).trans hw1
 have c1 := r1.cell (j := 0) rfl
 have z1 := r1.frz 0
 clear hC1 hP
 have nn1 : Went R w (w1.setCell ⟨w.heap.size + 1, 0, none⟩ (.int .u8 1)) l1 := n1.row (grown_at _ _ _ _) (fun g hg => by injection hg with hg; omega) hRlt
 have xx1 := x1.grown (grown_at w1 (w.heap.size + 1) 0 (.int .u8 1)) (by simp only [ne_eq, oiQ]; omega)
 have rr1 := r1.set 0 (.int .u8 1)
 have hBB1 : B ≤ (w1.setCell ⟨w.heap.size + 1, 0, none⟩ (.int .u8 1)).heap.size := ntQ hB nn1.grown.size
 have hl1 : Hid (l1.length ≤ 60000) := by
  show _ ≤ _
  have h1 := HL0.out
  have h2 := pInt_less (by omega) _ _ _ hq1
  omega
 have hC2 := ru32 R (w1.setCell ⟨w.heap.size + 1, 0, none⟩ (.int .u8 1)) l1 nn1.rdr 4 (by omega) (by omega)
 go_wp2_with (go_at_call 89; refine hC2.mono ?_; intro e w2 hP; obtain ⟨v2, rfl, hg2, hw2⟩ := hP.got hq2; refine Hid.out ?_)
 refine hid ?_
 subst hg2
 have x2 := xx1.grown hw2.grown (by simp only [ne_eq, oiQ]; omega)
 have r2 := rr1.grown hw2.grown (by simp only [ne_eq, oiQ]; omega)
 have n2 : Went R w w2 l2 := (nn1).trans hw2
 have c2 := r2.cell (j := 1) rfl
 have z2 := r2.frz 1
 have ck := r2.cell (j := 0) rfl
 clear hC2 hP
 have nn2 : Went R w (w2.setCell ⟨w.heap.size + 1, 1, none⟩ (.int .u32 y2)) l2 := n2.row (grown_at _ _ _ _) (fun g hg => by injection hg with hg; omega) hRlt
 have xx2 := x2.grown (grown_at w2 (w.heap.size + 1) 1 (.int .u32 y2)) (by simp only [ne_eq, oiQ]; omega)
 have rr2 := r2.set 1 (.int .u32 y2)
 have hBB2 : B ≤ (w2.setCell ⟨w.heap.size + 1, 1, none⟩ (.int .u32 y2)).heap.size := ntQ hB nn2.grown.size
 have hl2 : Hid (l2.length ≤ 60000) := by
  show _ ≤ _
  have h1 := hl1.out
  have h2 := pInt_less (by omega) _ _ _ hq2
  omega
 have hC3 := readAll_int R B 91 (pInt 1) 1 (by omega) (by omega) (fun _ _ => rfl) (readNode_any R B) (pInt_less (by omega)) (w2.setCell ⟨w.heap.size + 1, 1, none⟩ (.int .u32 y2)) l2 hBB2 nn2.rdr hl2.out
 go_wp2_with (go_at_call 90; refine hC3.mono ?_; intro e w3 hP; obtain ⟨⟨m, rfl⟩, hgr⟩ := hP.miss hq3)
 exact ⟨rfl, PostX.none (by simp [pRec, pBody, hq1, hq2, hq3]) (grown_trans (nn2).grown hgr)⟩

theorem rr_1_4 (R B : Nat) (hRB : R < B) (w : World) (l : List UInt8) (hB : B ≤ w.heap.size) (hR : RdL R w l) (hl : l.length ≤ 60000) {l1 : List UInt8} (hq1 : pInt 1 l = some (1, l1)) {y2 : Int} {l2 : List UInt8} (hq2 : pInt 4 l1 = some (y2, l2)) {y3 : List Int} {l3 : List UInt8} (hq3 : pAll 1 (pInt 1) l2 = some (y3, l3)) (hq4 : pAll 4 pFact l3 = none) :
  Calls Tryz.prog 72 #[.pointer (some ⟨R, 0, none⟩)] w fun e w' => PostX R w (pRec l) (fun y v w' => ∃ r, v = rcV r ∧ pr r = y ∧ RcOwn B w' r) e w' := by
 obtain ⟨W0, HW, hRlt, hx0, hr0, hW0, hB0⟩ := rr_start R B w l hB hR
 clear hR
 have Q1 : Hid (_ = _) := hq1
 have Q2 : Hid (_ = _) := hq2
 have Q3 : Hid (_ = _) := hq3
 have Q4 : Hid (_ = _) := hq4
 have HL0 : Hid (l.length ≤ 60000) := hl
 have hC1 := ru8 R W0 l hW0.rdr
 go_enter Tryz.func72, Tryz.ntmps72
 go_wp2_with fail
 rw [HW.out]
 refine hC1.mono ?_
 intro e w1 hP
 obtain ⟨v1, rfl, hg1, hw1⟩ := hP.got hq1
 subst hg1
 have x1 := hx0.grown hw1.grown (by simp only [ne_eq, oiQ]; omega)
 have r1 := hr0.grown hw1.grown (by simp only [ne_eq, oiQ]; omega)
 have n1 : Went R w w1 l1 := (hW0).trans hw1
 have c1 := r1.cell (j := 0) rfl
 have z1 := r1.frz 0
 clear hC1 hP
 have nn1 : Went R w (w1.setCell ⟨w.heap.size + 1, 0, none⟩ (.int .u8 1)) l1 := n1.row (grown_at _ _ _ _) (fun g hg => by injection hg with hg; omega) hRlt
 have xx1 := x1.grown (grown_at w1 (w.heap.size + 1) 0 (.int .u8 1)) (by simp only [ne_eq, oiQ]; omega)
 have rr1 := r1.set 0 (.int .u8 1)
 have hBB1 : B ≤ (w1.setCell ⟨w.heap.size + 1, 0, none⟩ (.int .u8 1)).heap.size := ntQ hB nn1.grown.size
 have hl1 : Hid (l1.length ≤ 60000) := by
  show _ ≤ _
  have h1 := HL0.out
  have h2 := pInt_less (by omega) _ _ _ hq1
  omega
 have hC2 := ru32 R (w1.setCell ⟨w.heap.size + 1, 0, none⟩ (.int .u8 1)) l1 nn1.rdr 4 (by omega) (by omega)
 go_wp2_with (go_at_call 89; refine hC2.mono ?_; intro e w2 hP; obtain ⟨v2, rfl, hg2, hw2⟩ := hP.got hq2; refine Hid.out ?_)
 refine hid ?_
 subst hg2
 have x2 := xx1.grown hw2.grown (by simp only [ne_eq, oiQ]; omega)
 have r2 := rr1.grown hw2.grown (by simp only [ne_eq, oiQ]; omega)
 have n2 : Went R w w2 l2 := (nn1).trans hw2
 have c2 := r2.cell (j := 1) rfl
 have z2 := r2.frz 1
 have ck := r2.cell (j := 0) rfl
 clear hC2 hP
 have nn2 : Went R w (w2.setCell ⟨w.heap.size + 1, 1, none⟩ (.int .u32 y2)) l2 := n2.row (grown_at _ _ _ _) (fun g hg => by injection hg with hg; omega) hRlt
 have xx2 := x2.grown (grown_at w2 (w.heap.size + 1) 1 (.int .u32 y2)) (by simp only [ne_eq, oiQ]; omega)
 have rr2 := r2.set 1 (.int .u32 y2)
 have hBB2 : B ≤ (w2.setCell ⟨w.heap.size + 1, 1, none⟩ (.int .u32 y2)).heap.size := ntQ hB nn2.grown.size
 have hl2 : Hid (l2.length ≤ 60000) := by
  show _ ≤ _
  have h1 := hl1.out
  have h2 := pInt_less (by omega) _ _ _ hq2
  omega
 have hC3 := readAll_int R B 91 (pInt 1) 1 (by omega) (by omega) (fun _ _ => rfl) (readNode_any R B) (pInt_less (by omega)) (w2.setCell ⟨w.heap.size + 1, 1, none⟩ (.int .u32 y2)) l2 hBB2 nn2.rdr hl2.out
 go_wp2_with (go_at_call 90; refine hC3.mono ?_; intro e w3 hP; obtain ⟨v3, rfl, hg3, hw3⟩ := hP.got hq3; refine Hid.out ?_)
 refine hid ?_
 obtain ⟨na3, nc3, hkv⟩ := ns_form hg3
 subst hkv
 have x3 := xx2.grown hw3.grown (by simp only [ne_eq, oiQ]; omega)
 have r3 := rr2.grown hw3.grown (by simp only [ne_eq, oiQ]; omega)
 have n3 : Went R w w3 l3 := (nn2).trans hw3
 have o3 := hg3
 clear hg3
 have c3 := r3.cell (j := 3) rfl
 have z3 := r3.frz 3
 clear hC3 hP
 have nn3 : Went R w (w3.setCell ⟨w.heap.size + 1, 3, none⟩ (.slice na3 y3.length nc3)) l3 := n3.row (grown_at _ _ _ _) (fun g hg => by injection hg with hg; omega) hRlt
 have xx3 := x3.grown (grown_at w3 (w.heap.size + 1) 3 (.slice na3 y3.length nc3)) (by simp only [ne_eq, oiQ]; omega)
 have rr3 := r3.set 3 (.slice na3 y3.length nc3)
 have o3 := o3.far (grown_at w3 (w.heap.size + 1) 3 (.slice na3 y3.length nc3)) (r3.far (by decide))
 have hBB3 : B ≤ (w3.setCell ⟨w.heap.size + 1, 3, none⟩ (.slice na3 y3.length nc3)).heap.size := ntQ hB nn3.grown.size
 have hl3 : Hid (l3.length ≤ 60000) := by
  show _ ≤ _
  have h1 := hl2.out
  have h2 := pNodes_less _ _ _ hq3
  omega
 have hC4 := readAll_fact R B 93 pFact 4 (by omega) (by omega) (fun _ _ => rfl) (readFact_any R B hRB) pFact_less (w3.setCell ⟨w.heap.size + 1, 3, none⟩ (.slice na3 y3.length nc3)) l3 hBB3 nn3.rdr hl3.out
 go_wp2_with (go_at_call 92; refine hC4.mono ?_; intro e w4 hP; obtain ⟨⟨m, rfl⟩, hgr⟩ := hP.miss hq4)
 exact ⟨rfl, PostX.none (by simp [pRec, pBody, hq1, hq2, hq3, hq4]) (grown_trans (nn3).grown hgr)⟩

theorem rr_1_0 (R B : Nat) (hRB : R < B) (w : World) (l : List UInt8) (hB : B ≤ w.heap.size) (hR : RdL R w l) (hl : l.length ≤ 60000) {l1 : List UInt8} (hq1 : pInt 1 l = some (1, l1)) {y2 : Int} {l2 : List UInt8} (hq2 : pInt 4 l1 = some (y2, l2)) {y3 : List Int} {l3 : List UInt8} (hq3 : pAll 1 (pInt 1) l2 = some (y3, l3)) {y4 : List PFact} {l4 : List UInt8} (hq4 : pAll 4 pFact l3 = some (y4, l4)) :
  Calls Tryz.prog 72 #[.pointer (some ⟨R, 0, none⟩)] w fun e w' => PostX R w (pRec l) (fun y v w' => ∃ r, v = rcV r ∧ pr r = y ∧ RcOwn B w' r) e w' := by
 obtain ⟨W0, HW, hRlt, hx0, hr0, hW0, hB0⟩ := rr_start R B w l hB hR
 clear hR
 have Q1 : Hid (_ = _) := hq1
 have Q2 : Hid (_ = _) := hq2
 have Q3 : Hid (_ = _) := hq3
 have Q4 : Hid (_ = _) := hq4
 have HL0 : Hid (l.length ≤ 60000) := hl
 have hC1 := ru8 R W0 l hW0.rdr
 go_enter Tryz.func72, Tryz.ntmps72
 go_wp2_with fail
 rw [HW.out]
 refine hC1.mono ?_
 intro e w1 hP
 obtain ⟨v1, rfl, hg1, hw1⟩ := hP.got hq1
 subst hg1
 have x1 := hx0.grown hw1.grown (by simp only [ne_eq, oiQ]; omega)
 have r1 := hr0.grown hw1.grown (by simp only [ne_eq, oiQ]; omega)
 have n1 : Went R w w1 l1 := (hW0).trans hw1
 have c1 := r1.cell (j := 0) rfl
 have z1 := r1.frz 0
 clear hC1 hP
 have nn1 : Went R w (w1.setCell ⟨w.heap.size + 1, 0, none⟩ (.int .u8 1)) l1 := n1.row (grown_at _ _ _ _) (fun g hg => by injection hg with hg; omega) hRlt
 have xx1 := x1.grown (grown_at w1 (w.heap.size + 1) 0 (.int .u8 1)) (by simp only [ne_eq, oiQ]; omega)
 have rr1 := r1.set 0 (.int .u8 1)
 have hBB1 : B ≤ (w1.setCell ⟨w.heap.size + 1, 0, none⟩ (.int .u8 1)).heap.size := ntQ hB nn1.grown.size
 have hl1 : Hid (l1.length ≤ 60000) := by
  show _ ≤ _
  have h1 := HL0.out
  have h2 := pInt_less (by omega) _ _ _ hq1
  omega
 have hC2 := ru32 R (w1.setCell ⟨w.heap.size + 1, 0, none⟩ (.int .u8 1)) l1 nn1.rdr 4 (by omega) (by omega)
 go_wp2_with (go_at_call 89; refine hC2.mono ?_; intro e w2 hP; obtain ⟨v2, rfl, hg2, hw2⟩ := hP.got hq2; refine Hid.out ?_)
 refine hid ?_
 subst hg2
 have x2 := xx1.grown hw2.grown (by simp only [ne_eq, oiQ]; omega)
 have r2 := rr1.grown hw2.grown (by simp only [ne_eq, oiQ]; omega)
 have n2 : Went R w w2 l2 := (nn1).trans hw2
 have c2 := r2.cell (j := 1) rfl
 have z2 := r2.frz 1
 have ck := r2.cell (j := 0) rfl
 clear hC2 hP
 have nn2 : Went R w (w2.setCell ⟨w.heap.size + 1, 1, none⟩ (.int .u32 y2)) l2 := n2.row (grown_at _ _ _ _) (fun g hg => by injection hg with hg; omega) hRlt
 have xx2 := x2.grown (grown_at w2 (w.heap.size + 1) 1 (.int .u32 y2)) (by simp only [ne_eq, oiQ]; omega)
 have rr2 := r2.set 1 (.int .u32 y2)
 have hBB2 : B ≤ (w2.setCell ⟨w.heap.size + 1, 1, none⟩ (.int .u32 y2)).heap.size := ntQ hB nn2.grown.size
 have hl2 : Hid (l2.length ≤ 60000) := by
  show _ ≤ _
  have h1 := hl1.out
  have h2 := pInt_less (by omega) _ _ _ hq2
  omega
 have hC3 := readAll_int R B 91 (pInt 1) 1 (by omega) (by omega) (fun _ _ => rfl) (readNode_any R B) (pInt_less (by omega)) (w2.setCell ⟨w.heap.size + 1, 1, none⟩ (.int .u32 y2)) l2 hBB2 nn2.rdr hl2.out
 go_wp2_with (go_at_call 90; refine hC3.mono ?_; intro e w3 hP; obtain ⟨v3, rfl, hg3, hw3⟩ := hP.got hq3; refine Hid.out ?_)
 refine hid ?_
 obtain ⟨na3, nc3, hkv⟩ := ns_form hg3
 subst hkv
 have x3 := xx2.grown hw3.grown (by simp only [ne_eq, oiQ]; omega)
 have r3 := rr2.grown hw3.grown (by simp only [ne_eq, oiQ]; omega)
 have n3 : Went R w w3 l3 := (nn2).trans hw3
 have o3 := hg3
 clear hg3
 have c3 := r3.cell (j := 3) rfl
 have z3 := r3.frz 3
 clear hC3 hP
 have nn3 : Went R w (w3.setCell ⟨w.heap.size + 1, 3, none⟩ (.slice na3 y3.length nc3)) l3 := n3.row (grown_at _ _ _ _) (fun g hg => by injection hg with hg; omega) hRlt
 have xx3 := x3.grown (grown_at w3 (w.heap.size + 1) 3 (.slice na3 y3.length nc3)) (by simp only [ne_eq, oiQ]; omega)
 have rr3 := r3.set 3 (.slice na3 y3.length nc3)
 have o3 := o3.far (grown_at w3 (w.heap.size + 1) 3 (.slice na3 y3.length nc3)) (r3.far (by decide))
 have hBB3 : B ≤ (w3.setCell ⟨w.heap.size + 1, 3, none⟩ (.slice na3 y3.length nc3)).heap.size := ntQ hB nn3.grown.size
 have hl3 : Hid (l3.length ≤ 60000) := by
  show _ ≤ _
  have h1 := hl2.out
  have h2 := pNodes_less _ _ _ hq3
  omega
 have hC4 := readAll_fact R B 93 pFact 4 (by omega) (by omega) (fun _ _ => rfl) (readFact_any R B hRB) pFact_less (w3.setCell ⟨w.heap.size + 1, 3, none⟩ (.slice na3 y3.length nc3)) l3 hBB3 nn3.rdr hl3.out
 go_wp2_with (go_at_call 92; refine hC4.mono ?_; intro e w4 hP; obtain ⟨v4, rfl, hg4, hw4⟩ := hP.got hq4; refine Hid.out ?_)
 refine hid ?_
 obtain ⟨fs4, hfs4, hg4⟩ := hg4
 obtain ⟨fa4, fc4, hkv⟩ := fs_form hg4
 subst hkv
 subst hfs4
 have x4 := xx3.grown hw4.grown (by simp only [ne_eq, oiQ]; omega)
 have r4 := rr3.grown hw4.grown (by simp only [ne_eq, oiQ]; omega)
 have n4 : Went R w w4 l4 := (nn3).trans hw4
 have o3 := o3.far hw4.grown (RdL.far (nn3.rdr) (by decide))
 have o4 := hg4
 clear hg4
 have c4 := r4.cell (j := 4) rfl
 have z4 := r4.frz 4
 clear hC4 hP
 have nn4 : Went R w (w4.setCell ⟨w.heap.size + 1, 4, none⟩ (.slice fa4 fs4.length fc4)) l4 := n4.row (grown_at _ _ _ _) (fun g hg => by injection hg with hg; omega) hRlt
 have xx4 := x4.grown (grown_at w4 (w.heap.size + 1) 4 (.slice fa4 fs4.length fc4)) (by simp only [ne_eq, oiQ]; omega)
 have rr4 := r4.set 4 (.slice fa4 fs4.length fc4)
 have o3 := o3.far (grown_at w4 (w.heap.size + 1) 4 (.slice fa4 fs4.length fc4)) (r4.far (by decide))
 have o4 := o4.far (grown_at w4 (w.heap.size + 1) 4 (.slice fa4 fs4.length fc4)) (r4.far (by decide)) (r4.far (by decide))
 have hBB4 : B ≤ (w4.setCell ⟨w.heap.size + 1, 4, none⟩ (.slice fa4 fs4.length fc4)).heap.size := ntQ hB nn4.grown.size
 have hl4 : Hid (l4.length ≤ 60000) := by
  show _ ≤ _
  have h1 := hl3.out
  have h2 := pFacts_less _ _ _ hq4
  omega
 have cr0 := r4.cell (j := 0) rfl
 have cx0 := x4.cell (j := 0) rfl
 have zx0 := x4.frz 0
 have cr1 := r4.cell (j := 1) rfl
 have cx1 := x4.cell (j := 1) rfl
 have zx1 := x4.frz 1
 have cr2 := r4.cell (j := 2) rfl
 have cx2 := x4.cell (j := 2) rfl
 have zx2 := x4.frz 2
 have cr3 := r4.cell (j := 3) rfl
 have cx3 := x4.cell (j := 3) rfl
 have zx3 := x4.frz 3
 have cr4 := r4.cell (j := 4) rfl
 have cx4 := x4.cell (j := 4) rfl
 have zx4 := x4.frz 4
 have cr5 := r4.cell (j := 5) rfl
 have cx5 := x4.cell (j := 5) rfl
 have zx5 := x4.frz 5
 have cr6 := r4.cell (j := 6) rfl
 have cx6 := x4.cell (j := 6) rfl
 have zx6 := x4.frz 6
 have cr7 := r4.cell (j := 7) rfl
 have cx7 := x4.cell (j := 7) rfl
 have zx7 := x4.frz 7
 have cr8 := r4.cell (j := 8) rfl
 have cx8 := x4.cell (j := 8) rfl
 have zx8 := x4.frz 8
 have cr9 := r4.cell (j := 9) rfl
 have cx9 := x4.cell (j := 9) rfl
 have zx9 := x4.frz 9
 have HF : Aside (∀ W, ((w4.setCell ⟨w.heap.size + 1, 4, none⟩ (.slice fa4 fs4.length fc4))).grownBy W (some w.heap.size) → PostX R w (pRec l) (fun y v w' => ∃ r, v = rcV r ∧ pr r = y ∧ RcOwn B w' r) (.returned (.agg #[.int .u8 1, .int .u32 y2, .int .u32 0, .slice na3 y3.length nc3, .slice fa4 fs4.length fc4, .int .u32 0, .slice none 0 0, .int .i64 0, .int .i64 0, .slice none 0 0])) W) := fun W hG => by
  have hO : RcOwn B ((w4.setCell ⟨w.heap.size + 1, 4, none⟩ (.slice fa4 fs4.length fc4))) ⟨1, y2, 0, na3, nc3, y3, fa4, fc4, fs4, 0, none, 0, [], 0, 0, none, 0, []⟩ := ⟨pu8 Q1.out, pu32 Q2.out, u32_nought, o3, o4, u32_nought, ss_nil _ _, i64_nought, i64_nought, es_nil _ _⟩
  refine PostX.some (y := pr ⟨1, y2, 0, na3, nc3, y3, fa4, fc4, fs4, 0, none, 0, [], 0, 0, none, 0, []⟩) (l' := l4) ?_ ⟨⟨1, y2, 0, na3, nc3, y3, fa4, fc4, fs4, 0, none, 0, [], 0, 0, none, 0, []⟩, rfl, rfl, hO.far hG (xx4.far (by decide)) (xx4.far (by decide)) (xx4.far (by decide)) (xx4.far (by decide))⟩ ((nn4).row hG (fun g hg => by injection hg with hg; omega) hRlt)
  simp [pRec, pBody, hq1, hq2, hq3, hq4, pr]
 clear nn1 xx1 rr1 n1 x1 r1 hw1 hBB1 nn2 xx2 rr2 n2 x2 r2 hw2 hBB2 nn3 xx3 rr3 n3 x3 r3 hw3 hBB3 nn4 xx4 rr4 n4 x4 r4 hw4 hBB4 hx0 hr0 hW0 o3 o4 hq1 hq2 hq3 hq4
 go_wp2
 refine bodyPost_ret (v := .agg #[.int .u8 1, .int .u32 y2, .int .u32 0, .slice na3 y3.length nc3, .slice fa4 fs4.length fc4, .int .u32 0, .slice none 0 0, .int .i64 0, .int .i64 0, .slice none 0 0]) (by simp [results, Tryz.results72, go_sem, *]) rfl (HF.out _ ?_)
 iterate 9 (refine grown_trans ?_ (grown_at _ _ _ _))
 exact grown_at _ _ _ _
theorem rr_2_3 (R B : Nat) (hRB : R < B) (w : World) (l : List UInt8) (hB : B ≤ w.heap.size) (hR : RdL R w l) (hl : l.length ≤ 60000) {l1 : List UInt8} (hq1 : pInt 1 l = some (2, l1)) {y2 : Int} {l2 : List UInt8} (hq2 : pInt 4 l1 = some (y2, l2)) (hq3 : pInt 4 l2 = none) :
  Calls Tryz.prog 72 #[.pointer (some ⟨R, 0, none⟩)] w fun e w' => PostX R w (pRec l) (fun y v w' => ∃ r, v = rcV r ∧ pr r = y ∧ RcOwn B w' r) e w' := by
 obtain ⟨W0, HW, hRlt, hx0, hr0, hW0, hB0⟩ := rr_start R B w l hB hR
 clear hR
 have Q1 : Hid (_ = _) := hq1
 have Q2 : Hid (_ = _) := hq2
 have Q3 : Hid (_ = _) := hq3
 have HL0 : Hid (l.length ≤ 60000) := hl
 have hC1 := ru8 R W0 l hW0.rdr
 go_enter Tryz.func72, Tryz.ntmps72
 go_wp2_with fail
 rw [HW.out]
 refine hC1.mono ?_
 intro e w1 hP
 obtain ⟨v1, rfl, hg1, hw1⟩ := hP.got hq1
 subst hg1
 have x1 := hx0.grown hw1.grown (by simp only [ne_eq, oiQ]; omega)
 have r1 := hr0.grown hw1.grown (by simp only [ne_eq, oiQ]; omega)
 have n1 : Went R w w1 l1 := (hW0).trans hw1
 have c1 := r1.cell (j := 0) rfl
 have z1 := r1.frz 0
 clear hC1 hP
 have nn1 : Went R w (w1.setCell ⟨w.heap.size + 1, 0, none⟩ (.int .u8 2)) l1 := n1.row (grown_at _ _ _ _) (fun g hg => by injection hg with hg; omega) hRlt
 have xx1 := x1.grown (grown_at w1 (w.heap.size + 1) 0 (.int .u8 2)) (by simp only [ne_eq, oiQ]; omega)
 have rr1 := r1.set 0 (.int .u8 2)
 have hBB1 : B ≤ (w1.setCell ⟨w.heap.size + 1, 0, none⟩ (.int .u8 2)).heap.size := ntQ hB nn1.grown.size
 have hl1 : Hid (l1.length ≤ 60000) := by
  show _ ≤ _
  have h1 := HL0.out
  have h2 := pInt_less (by omega) _ _ _ hq1
  omega
 have hC2 := ru32 R (w1.setCell ⟨w.heap.size + 1, 0, none⟩ (.int .u8 2)) l1 nn1.rdr 4 (by omega) (by omega)
 go_wp2_with (go_at_call 89; refine hC2.mono ?_; intro e w2 hP; obtain ⟨v2, rfl, hg2, hw2⟩ := hP.got hq2; refine Hid.out ?_)
 refine hid ?_
 subst hg2
 have x2 := xx1.grown hw2.grown (by simp only [ne_eq, oiQ]; omega)
 have r2 := rr1.grown hw2.grown (by simp only [ne_eq, oiQ]; omega)
 have n2 : Went R w w2 l2 := (nn1).trans hw2
 have c2 := r2.cell (j := 1) rfl
 have z2 := r2.frz 1
 have ck := r2.cell (j := 0) rfl
 clear hC2 hP
 have nn2 : Went R w (w2.setCell ⟨w.heap.size + 1, 1, none⟩ (.int .u32 y2)) l2 := n2.row (grown_at _ _ _ _) (fun g hg => by injection hg with hg; omega) hRlt
 have xx2 := x2.grown (grown_at w2 (w.heap.size + 1) 1 (.int .u32 y2)) (by simp only [ne_eq, oiQ]; omega)
 have rr2 := r2.set 1 (.int .u32 y2)
 have hBB2 : B ≤ (w2.setCell ⟨w.heap.size + 1, 1, none⟩ (.int .u32 y2)).heap.size := ntQ hB nn2.grown.size
 have hl2 : Hid (l2.length ≤ 60000) := by
  show _ ≤ _
  have h1 := hl1.out
  have h2 := pInt_less (by omega) _ _ _ hq2
  omega
 have hC3 := ru32 R (w2.setCell ⟨w.heap.size + 1, 1, none⟩ (.int .u32 y2)) l2 nn2.rdr 4 (by omega) (by omega)
 go_wp2_with (go_at_call 89; refine hC3.mono ?_; intro e w3 hP; obtain ⟨⟨m, rfl⟩, hgr⟩ := hP.miss hq3)
 exact ⟨rfl, PostX.none (by simp [pRec, pBody, hq1, hq2, hq3]) (grown_trans (nn2).grown hgr)⟩

theorem rr_2_4 (R B : Nat) (hRB : R < B) (w : World) (l : List UInt8) (hB : B ≤ w.heap.size) (hR : RdL R w l) (hl : l.length ≤ 60000) {l1 : List UInt8} (hq1 : pInt 1 l = some (2, l1)) {y2 : Int} {l2 : List UInt8} (hq2 : pInt 4 l1 = some (y2, l2)) {y3 : Int} {l3 : List UInt8} (hq3 : pInt 4 l2 = some (y3, l3)) (hq4 : pAll 1 (pInt 1) l3 = none) :
  Calls Tryz.prog 72 #[.pointer (some ⟨R, 0, none⟩)] w fun e w' => PostX R w (pRec l) (fun y v w' => ∃ r, v = rcV r ∧ pr r = y ∧ RcOwn B w' r) e w' := by
 obtain ⟨W0, HW, hRlt, hx0, hr0, hW0, hB0⟩ := rr_start R B w l hB hR
 clear hR
 have Q1 : Hid (_ = _) := hq1
 have Q2 : Hid (_ = _) := hq2
 have Q3 : Hid (_ = _) := hq3
 have Q4 : Hid (_ = _) := hq4
 have HL0 : Hid (l.length ≤ 60000) := hl
 have hC1 := ru8 R W0 l hW0.rdr
 go_enter Tryz.func72, Tryz.ntmps72
 go_wp2_with fail
 rw [HW.out]
 refine hC1.mono ?_
 intro e w1 hP
 obtain ⟨v1, rfl, hg1, hw1⟩ := hP.got hq1
 subst hg1
 have x1 := hx0.grown hw1.grown (by simp only [ne_eq, oiQ]; omega)
 have r1 := hr0.grown hw1.grown (by simp only [ne_eq, oiQ]; omega)
 have n1 : Went R w w1 l1 := (hW0).trans hw1
 have c1 := r1.cell (j := 0) rfl
 have z1 := r1.frz 0
 clear hC1 hP
 have nn1 : Went R w (w1.setCell ⟨w.heap.size + 1, 0, none⟩ (.int .u8 2)) l1 := n1.row (grown_at _ _ _ _) (fun g hg => by injection hg with hg; omega) hRlt
 have xx1 := x1.grown (grown_at w1 (w.heap.size + 1) 0 (.int .u8 2)) (by simp only [ne_eq, oiQ]; omega)
 have rr1 := r1.set 0 (.int .u8 2)
 have hBB1 : B ≤ (w1.setCell ⟨w.heap.size + 1, 0, none⟩ (.int .u8 2)).heap.size := ntQ hB nn1.grown.size
 have hl1 : Hid (l1.length ≤ 60000) := by
  show _ ≤ _
  have h1 := HL0.out
  have h2 := pInt_less (by omega) _ _ _ hq1
  omega
 have hC2 := ru32 R (w1.setCell ⟨w.heap.size + 1, 0, none⟩ (.int .u8 2)) l1 nn1.rdr 4 (by omega) (by omega)
 go_wp2_with (go_at_call 89; refine hC2.mono ?_; intro e w2 hP; obtain ⟨v2, rfl, hg2, hw2⟩ := hP.got hq2; refine Hid.out ?_)
 refine hid ?_
 subst hg2
 have x2 := xx1.grown hw2.grown (by simp only [ne_eq, oiQ]; omega)
 have r2 := rr1.grown hw2.grown (by simp only [ne_eq, oiQ]; omega)
 have n2 : Went R w w2 l2 := (nn1).trans hw2
 have c2 := r2.cell (j := 1) rfl
 have z2 := r2.frz 1
 have ck := r2.cell (j := 0) rfl
 clear hC2 hP
 have nn2 : Went R w (w2.setCell ⟨w.heap.size + 1, 1, none⟩ (.int .u32 y2)) l2 := n2.row (grown_at _ _ _ _) (fun g hg => by injection hg with hg; omega) hRlt
 have xx2 := x2.grown (grown_at w2 (w.heap.size + 1) 1 (.int .u32 y2)) (by simp only [ne_eq, oiQ]; omega)
 have rr2 := r2.set 1 (.int .u32 y2)
 have hBB2 : B ≤ (w2.setCell ⟨w.heap.size + 1, 1, none⟩ (.int .u32 y2)).heap.size := ntQ hB nn2.grown.size
 have hl2 : Hid (l2.length ≤ 60000) := by
  show _ ≤ _
  have h1 := hl1.out
  have h2 := pInt_less (by omega) _ _ _ hq2
  omega
 have hC3 := ru32 R (w2.setCell ⟨w.heap.size + 1, 1, none⟩ (.int .u32 y2)) l2 nn2.rdr 4 (by omega) (by omega)
 go_wp2_with (go_at_call 89; refine hC3.mono ?_; intro e w3 hP; obtain ⟨v3, rfl, hg3, hw3⟩ := hP.got hq3; refine Hid.out ?_)
 refine hid ?_
 subst hg3
 have x3 := xx2.grown hw3.grown (by simp only [ne_eq, oiQ]; omega)
 have r3 := rr2.grown hw3.grown (by simp only [ne_eq, oiQ]; omega)
 have n3 : Went R w w3 l3 := (nn2).trans hw3
 have c3 := r3.cell (j := 2) rfl
 have z3 := r3.frz 2
 clear hC3 hP
 have nn3 : Went R w (w3.setCell ⟨w.heap.size + 1, 2, none⟩ (.int .u32 y3)) l3 := n3.row (grown_at _ _ _ _) (fun g hg => by injection hg with hg; omega) hRlt
 have xx3 := x3.grown (grown_at w3 (w.heap.size + 1) 2 (.int .u32 y3)) (by simp only [ne_eq, oiQ]; omega)
 have rr3 := r3.set 2 (.int .u32 y3)
 have hBB3 : B ≤ (w3.setCell ⟨w.heap.size + 1, 2, none⟩ (.int .u32 y3)).heap.size := ntQ hB nn3.grown.size
 have hl3 : Hid (l3.length ≤ 60000) := by
  show _ ≤ _
  have h1 := hl2.out
  have h2 := pInt_less (by omega) _ _ _ hq3
  omega
 have hC4 := readAll_int R B 91 (pInt 1) 1 (by omega) (by omega) (fun _ _ => rfl) (readNode_any R B) (pInt_less (by omega)) (w3.setCell ⟨w.heap.size + 1, 2, none⟩ (.int .u32 y3)) l3 hBB3 nn3.rdr hl3.out
 go_wp2_with (go_at_call 90; refine hC4.mono ?_; intro e w4 hP; obtain ⟨⟨m, rfl⟩, hgr⟩ := hP.miss hq4)
 exact ⟨rfl, PostX.none (by simp [pRec, pBody, hq1, hq2, hq3, hq4]) (grown_trans (nn3).grown hgr)⟩

theorem rr_2_0 (R B : Nat) (hRB : R < B) (w : World) (l : List UInt8) (hB : B ≤ w.heap.size) (hR : RdL R w l) (hl : l.length ≤ 60000) {l1 : List UInt8} (hq1 : pInt 1 l = some (2, l1)) {y2 : Int} {l2 : List UInt8} (hq2 : pInt 4 l1 = some (y2, l2)) {y3 : Int} {l3 : List UInt8} (hq3 : pInt 4 l2 = some (y3, l3)) {y4 : List Int} {l4 : List UInt8} (hq4 : pAll 1 (pInt 1) l3 = some (y4, l4)) :
  Calls Tryz.prog 72 #[.pointer (some ⟨R, 0, none⟩)] w fun e w' => PostX R w (pRec l) (fun y v w' => ∃ r, v = rcV r ∧ pr r = y ∧ RcOwn B w' r) e w' := by
 obtain ⟨W0, HW, hRlt, hx0, hr0, hW0, hB0⟩ := rr_start R B w l hB hR
 clear hR
 have Q1 : Hid (_ = _) := hq1
 have Q2 : Hid (_ = _) := hq2
 have Q3 : Hid (_ = _) := hq3
 have Q4 : Hid (_ = _) := hq4
 have HL0 : Hid (l.length ≤ 60000) := hl
 have hC1 := ru8 R W0 l hW0.rdr
 go_enter Tryz.func72, Tryz.ntmps72
 go_wp2_with fail
 rw [HW.out]
 refine hC1.mono ?_
 intro e w1 hP
 obtain ⟨v1, rfl, hg1, hw1⟩ := hP.got hq1
 subst hg1
 have x1 := hx0.grown hw1.grown (by simp only [ne_eq, oiQ]; omega)
 have r1 := hr0.grown hw1.grown (by simp only [ne_eq, oiQ]; omega)
 have n1 : Went R w w1 l1 := (hW0).trans hw1
 have c1 := r1.cell (j := 0) rfl
 have z1 := r1.frz 0
 clear hC1 hP
 have nn1 : Went R w (w1.setCell ⟨w.heap.size + 1, 0, none⟩ (.int .u8 2)) l1 := n1.row (grown_at _ _ _ _) (fun g hg => by injection hg with hg; omega) hRlt
 have xx1 := x1.grown (grown_at w1 (w.heap.size + 1) 0 (.int .u8 2)) (by simp only [ne_eq, oiQ]; omega)
 have rr1 := r1.set 0 (.int .u8 2)
 have hBB1 : B ≤ (w1.setCell ⟨w.heap.size + 1, 0, none⟩ (.int .u8 2)).heap.size := ntQ hB nn1.grown.size
 have hl1 : Hid (l1.length ≤ 60000) := by
  show _ ≤ _
  have h1 := HL0.out
  have h2 := pInt_less (by omega) _ _ _ hq1
  omega
 have hC2 := ru32 R (w1.setCell ⟨w.heap.size + 1, 0, none⟩ (.int .u8 2)) l1 nn1.rdr 4 (by omega) (by omega)
 go_wp2_with (go_at_call 89; refine hC2.mono ?_; intro e w2 hP; obtain ⟨v2, rfl, hg2, hw2⟩ := hP.got hq2; refine Hid.out ?_)
 refine hid ?_
 subst hg2
 have x2 := xx1.grown hw2.grown (by simp only [ne_eq, oiQ]; omega)
 have r2 := rr1.grown hw2.grown (by simp only [ne_eq, oiQ]; omega)
 have n2 : Went R w w2 l2 := (nn1).trans hw2
 have c2 := r2.cell (j := 1) rfl
 have z2 := r2.frz 1
 have ck := r2.cell (j := 0) rfl
 clear hC2 hP
 have nn2 : Went R w (w2.setCell ⟨w.heap.size + 1, 1, none⟩ (.int .u32 y2)) l2 := n2.row (grown_at _ _ _ _) (fun g hg => by injection hg with hg; omega) hRlt
 have xx2 := x2.grown (grown_at w2 (w.heap.size + 1) 1 (.int .u32 y2)) (by simp only [ne_eq, oiQ]; omega)
 have rr2 := r2.set 1 (.int .u32 y2)
 have hBB2 : B ≤ (w2.setCell ⟨w.heap.size + 1, 1, none⟩ (.int .u32 y2)).heap.size := ntQ hB nn2.grown.size
 have hl2 : Hid (l2.length ≤ 60000) := by
  show _ ≤ _
  have h1 := hl1.out
  have h2 := pInt_less (by omega) _ _ _ hq2
  omega
 have hC3 := ru32 R (w2.setCell ⟨w.heap.size + 1, 1, none⟩ (.int .u32 y2)) l2 nn2.rdr 4 (by omega) (by omega)
 go_wp2_with (go_at_call 89; refine hC3.mono ?_; intro e w3 hP; obtain ⟨v3, rfl, hg3, hw3⟩ := hP.got hq3; refine Hid.out ?_)
 refine hid ?_
 subst hg3
 have x3 := xx2.grown hw3.grown (by simp only [ne_eq, oiQ]; omega)
 have r3 := rr2.grown hw3.grown (by simp only [ne_eq, oiQ]; omega)
 have n3 : Went R w w3 l3 := (nn2).trans hw3
 have c3 := r3.cell (j := 2) rfl
 have z3 := r3.frz 2
 clear hC3 hP
 have nn3 : Went R w (w3.setCell ⟨w.heap.size + 1, 2, none⟩ (.int .u32 y3)) l3 := n3.row (grown_at _ _ _ _) (fun g hg => by injection hg with hg; omega) hRlt
 have xx3 := x3.grown (grown_at w3 (w.heap.size + 1) 2 (.int .u32 y3)) (by simp only [ne_eq, oiQ]; omega)
 have rr3 := r3.set 2 (.int .u32 y3)
 have hBB3 : B ≤ (w3.setCell ⟨w.heap.size + 1, 2, none⟩ (.int .u32 y3)).heap.size := ntQ hB nn3.grown.size
 have hl3 : Hid (l3.length ≤ 60000) := by
  show _ ≤ _
  have h1 := hl2.out
  have h2 := pInt_less (by omega) _ _ _ hq3
  omega
 have hC4 := readAll_int R B 91 (pInt 1) 1 (by omega) (by omega) (fun _ _ => rfl) (readNode_any R B) (pInt_less (by omega)) (w3.setCell ⟨w.heap.size + 1, 2, none⟩ (.int .u32 y3)) l3 hBB3 nn3.rdr hl3.out
 go_wp2_with (go_at_call 90; refine hC4.mono ?_; intro e w4 hP; obtain ⟨v4, rfl, hg4, hw4⟩ := hP.got hq4; refine Hid.out ?_)
 refine hid ?_
 obtain ⟨na4, nc4, hkv⟩ := ns_form hg4
 subst hkv
 have x4 := xx3.grown hw4.grown (by simp only [ne_eq, oiQ]; omega)
 have r4 := rr3.grown hw4.grown (by simp only [ne_eq, oiQ]; omega)
 have n4 : Went R w w4 l4 := (nn3).trans hw4
 have o4 := hg4
 clear hg4
 have c4 := r4.cell (j := 3) rfl
 have z4 := r4.frz 3
 clear hC4 hP
 have nn4 : Went R w (w4.setCell ⟨w.heap.size + 1, 3, none⟩ (.slice na4 y4.length nc4)) l4 := n4.row (grown_at _ _ _ _) (fun g hg => by injection hg with hg; omega) hRlt
 have xx4 := x4.grown (grown_at w4 (w.heap.size + 1) 3 (.slice na4 y4.length nc4)) (by simp only [ne_eq, oiQ]; omega)
 have rr4 := r4.set 3 (.slice na4 y4.length nc4)
 have o4 := o4.far (grown_at w4 (w.heap.size + 1) 3 (.slice na4 y4.length nc4)) (r4.far (by decide))
 have hBB4 : B ≤ (w4.setCell ⟨w.heap.size + 1, 3, none⟩ (.slice na4 y4.length nc4)).heap.size := ntQ hB nn4.grown.size
 have hl4 : Hid (l4.length ≤ 60000) := by
  show _ ≤ _
  have h1 := hl3.out
  have h2 := pNodes_less _ _ _ hq4
  omega
 have cr0 := r4.cell (j := 0) rfl
 have cx0 := x4.cell (j := 0) rfl
 have zx0 := x4.frz 0
 have cr1 := r4.cell (j := 1) rfl
 have cx1 := x4.cell (j := 1) rfl
 have zx1 := x4.frz 1
 have cr2 := r4.cell (j := 2) rfl
 have cx2 := x4.cell (j := 2) rfl
 have zx2 := x4.frz 2
 have cr3 := r4.cell (j := 3) rfl
 have cx3 := x4.cell (j := 3) rfl
 have zx3 := x4.frz 3
 have cr4 := r4.cell (j := 4) rfl
 have cx4 := x4.cell (j := 4) rfl
 have zx4 := x4.frz 4
 have cr5 := r4.cell (j := 5) rfl
 have cx5 := x4.cell (j := 5) rfl
 have zx5 := x4.frz 5
 have cr6 := r4.cell (j := 6) rfl
 have cx6 := x4.cell (j := 6) rfl
 have zx6 := x4.frz 6
 have cr7 := r4.cell (j := 7) rfl
 have cx7 := x4.cell (j := 7) rfl
 have zx7 := x4.frz 7
 have cr8 := r4.cell (j := 8) rfl
 have cx8 := x4.cell (j := 8) rfl
 have zx8 := x4.frz 8
 have cr9 := r4.cell (j := 9) rfl
 have cx9 := x4.cell (j := 9) rfl
 have zx9 := x4.frz 9
 have HF : Aside (∀ W, ((w4.setCell ⟨w.heap.size + 1, 3, none⟩ (.slice na4 y4.length nc4))).grownBy W (some w.heap.size) → PostX R w (pRec l) (fun y v w' => ∃ r, v = rcV r ∧ pr r = y ∧ RcOwn B w' r) (.returned (.agg #[.int .u8 2, .int .u32 y2, .int .u32 y3, .slice na4 y4.length nc4, .slice none 0 0, .int .u32 0, .slice none 0 0, .int .i64 0, .int .i64 0, .slice none 0 0])) W) := fun W hG => by
  have hO : RcOwn B ((w4.setCell ⟨w.heap.size + 1, 3, none⟩ (.slice na4 y4.length nc4))) ⟨2, y2, y3, na4, nc4, y4, none, 0, [], 0, none, 0, [], 0, 0, none, 0, []⟩ := ⟨pu8 Q1.out, pu32 Q2.out, pu32 Q3.out, o4, fs_nil _ _, u32_nought, ss_nil _ _, i64_nought, i64_nought, es_nil _ _⟩
  refine PostX.some (y := pr ⟨2, y2, y3, na4, nc4, y4, none, 0, [], 0, none, 0, [], 0, 0, none, 0, []⟩) (l' := l4) ?_ ⟨⟨2, y2, y3, na4, nc4, y4, none, 0, [], 0, none, 0, [], 0, 0, none, 0, []⟩, rfl, rfl, hO.far hG (xx4.far (by decide)) (xx4.far (by decide)) (xx4.far (by decide)) (xx4.far (by decide))⟩ ((nn4).row hG (fun g hg => by injection hg with hg; omega) hRlt)
  simp [pRec, pBody, hq1, hq2, hq3, hq4, pr]
 clear nn1 xx1 rr1 n1 x1 r1 hw1 hBB1 nn2 xx2 rr2 n2 x2 r2 hw2 hBB2 nn3 xx3 rr3 n3 x3 r3 hw3 hBB3 nn4 xx4 rr4 n4 x4 r4 hw4 hBB4 hx0 hr0 hW0 o4 hq1 hq2 hq3 hq4
 go_wp2
 refine bodyPost_ret (v := .agg #[.int .u8 2, .int .u32 y2, .int .u32 y3, .slice na4 y4.length nc4, .slice none 0 0, .int .u32 0, .slice none 0 0, .int .i64 0, .int .i64 0, .slice none 0 0]) (by simp [results, Tryz.results72, go_sem, *]) rfl (HF.out _ ?_)
 iterate 9 (refine grown_trans ?_ (grown_at _ _ _ _))
 exact grown_at _ _ _ _
theorem rr_6_3 (R B : Nat) (hRB : R < B) (w : World) (l : List UInt8) (hB : B ≤ w.heap.size) (hR : RdL R w l) (hl : l.length ≤ 60000) {l1 : List UInt8} (hq1 : pInt 1 l = some (6, l1)) {y2 : Int} {l2 : List UInt8} (hq2 : pInt 4 l1 = some (y2, l2)) (hq3 : pInt 4 l2 = none) :
  Calls Tryz.prog 72 #[.pointer (some ⟨R, 0, none⟩)] w fun e w' => PostX R w (pRec l) (fun y v w' => ∃ r, v = rcV r ∧ pr r = y ∧ RcOwn B w' r) e w' := by
 obtain ⟨W0, HW, hRlt, hx0, hr0, hW0, hB0⟩ := rr_start R B w l hB hR
 clear hR
 have Q1 : Hid (_ = _) := hq1
 have Q2 : Hid (_ = _) := hq2
 have Q3 : Hid (_ = _) := hq3
 have HL0 : Hid (l.length ≤ 60000) := hl
 have hC1 := ru8 R W0 l hW0.rdr
 go_enter Tryz.func72, Tryz.ntmps72
 go_wp2_with fail
 rw [HW.out]
 refine hC1.mono ?_
 intro e w1 hP
 obtain ⟨v1, rfl, hg1, hw1⟩ := hP.got hq1
 subst hg1
 have x1 := hx0.grown hw1.grown (by simp only [ne_eq, oiQ]; omega)
 have r1 := hr0.grown hw1.grown (by simp only [ne_eq, oiQ]; omega)
 have n1 : Went R w w1 l1 := (hW0).trans hw1
 have c1 := r1.cell (j := 0) rfl
 have z1 := r1.frz 0
 clear hC1 hP
 have nn1 : Went R w (w1.setCell ⟨w.heap.size + 1, 0, none⟩ (.int .u8 6)) l1 := n1.row (grown_at _ _ _ _) (fun g hg => by injection hg with hg; omega) hRlt
 have xx1 := x1.grown (grown_at w1 (w.heap.size + 1) 0 (.int .u8 6)) (by simp only [ne_eq, oiQ]; omega)
 have rr1 := r1.set 0 (.int .u8 6)
 have hBB1 : B ≤ (w1.setCell ⟨w.heap.size + 1, 0, none⟩ (.int .u8 6)).heap.size := ntQ hB nn1.grown.size
 have hl1 : Hid (l1.length ≤ 60000) := by
  show _ ≤ _
  have h1 := HL0.out
  have h2 := pInt_less (by omega) _ _ _ hq1
  omega
 have hC2 := ru32 R (w1.setCell ⟨w.heap.size + 1, 0, none⟩ (.int .u8 6)) l1 nn1.rdr 4 (by omega) (by omega)
 go_wp2_with (go_at_call 89; refine hC2.mono ?_; intro e w2 hP; obtain ⟨v2, rfl, hg2, hw2⟩ := hP.got hq2; refine Hid.out ?_)
 refine hid ?_
 subst hg2
 have x2 := xx1.grown hw2.grown (by simp only [ne_eq, oiQ]; omega)
 have r2 := rr1.grown hw2.grown (by simp only [ne_eq, oiQ]; omega)
 have n2 : Went R w w2 l2 := (nn1).trans hw2
 have c2 := r2.cell (j := 1) rfl
 have z2 := r2.frz 1
 have ck := r2.cell (j := 0) rfl
 clear hC2 hP
 have nn2 : Went R w (w2.setCell ⟨w.heap.size + 1, 1, none⟩ (.int .u32 y2)) l2 := n2.row (grown_at _ _ _ _) (fun g hg => by injection hg with hg; omega) hRlt
 have xx2 := x2.grown (grown_at w2 (w.heap.size + 1) 1 (.int .u32 y2)) (by simp only [ne_eq, oiQ]; omega)
 have rr2 := r2.set 1 (.int .u32 y2)
 have hBB2 : B ≤ (w2.setCell ⟨w.heap.size + 1, 1, none⟩ (.int .u32 y2)).heap.size := ntQ hB nn2.grown.size
 have hl2 : Hid (l2.length ≤ 60000) := by
  show _ ≤ _
  have h1 := hl1.out
  have h2 := pInt_less (by omega) _ _ _ hq2
  omega
 have hC3 := ru32 R (w2.setCell ⟨w.heap.size + 1, 1, none⟩ (.int .u32 y2)) l2 nn2.rdr 4 (by omega) (by omega)
 go_wp2_with (go_at_call 89; refine hC3.mono ?_; intro e w3 hP; obtain ⟨⟨m, rfl⟩, hgr⟩ := hP.miss hq3)
 exact ⟨rfl, PostX.none (by simp [pRec, pBody, hq1, hq2, hq3]) (grown_trans (nn2).grown hgr)⟩

theorem rr_6_4 (R B : Nat) (hRB : R < B) (w : World) (l : List UInt8) (hB : B ≤ w.heap.size) (hR : RdL R w l) (hl : l.length ≤ 60000) {l1 : List UInt8} (hq1 : pInt 1 l = some (6, l1)) {y2 : Int} {l2 : List UInt8} (hq2 : pInt 4 l1 = some (y2, l2)) {y3 : Int} {l3 : List UInt8} (hq3 : pInt 4 l2 = some (y3, l3)) (hq4 : pAll 1 pSpan l3 = none) :
  Calls Tryz.prog 72 #[.pointer (some ⟨R, 0, none⟩)] w fun e w' => PostX R w (pRec l) (fun y v w' => ∃ r, v = rcV r ∧ pr r = y ∧ RcOwn B w' r) e w' := by
 obtain ⟨W0, HW, hRlt, hx0, hr0, hW0, hB0⟩ := rr_start R B w l hB hR
 clear hR
 have Q1 : Hid (_ = _) := hq1
 have Q2 : Hid (_ = _) := hq2
 have Q3 : Hid (_ = _) := hq3
 have Q4 : Hid (_ = _) := hq4
 have HL0 : Hid (l.length ≤ 60000) := hl
 have hC1 := ru8 R W0 l hW0.rdr
 go_enter Tryz.func72, Tryz.ntmps72
 go_wp2_with fail
 rw [HW.out]
 refine hC1.mono ?_
 intro e w1 hP
 obtain ⟨v1, rfl, hg1, hw1⟩ := hP.got hq1
 subst hg1
 have x1 := hx0.grown hw1.grown (by simp only [ne_eq, oiQ]; omega)
 have r1 := hr0.grown hw1.grown (by simp only [ne_eq, oiQ]; omega)
 have n1 : Went R w w1 l1 := (hW0).trans hw1
 have c1 := r1.cell (j := 0) rfl
 have z1 := r1.frz 0
 clear hC1 hP
 have nn1 : Went R w (w1.setCell ⟨w.heap.size + 1, 0, none⟩ (.int .u8 6)) l1 := n1.row (grown_at _ _ _ _) (fun g hg => by injection hg with hg; omega) hRlt
 have xx1 := x1.grown (grown_at w1 (w.heap.size + 1) 0 (.int .u8 6)) (by simp only [ne_eq, oiQ]; omega)
 have rr1 := r1.set 0 (.int .u8 6)
 have hBB1 : B ≤ (w1.setCell ⟨w.heap.size + 1, 0, none⟩ (.int .u8 6)).heap.size := ntQ hB nn1.grown.size
 have hl1 : Hid (l1.length ≤ 60000) := by
  show _ ≤ _
  have h1 := HL0.out
  have h2 := pInt_less (by omega) _ _ _ hq1
  omega
 have hC2 := ru32 R (w1.setCell ⟨w.heap.size + 1, 0, none⟩ (.int .u8 6)) l1 nn1.rdr 4 (by omega) (by omega)
 go_wp2_with (go_at_call 89; refine hC2.mono ?_; intro e w2 hP; obtain ⟨v2, rfl, hg2, hw2⟩ := hP.got hq2; refine Hid.out ?_)
 refine hid ?_
 subst hg2
 have x2 := xx1.grown hw2.grown (by simp only [ne_eq, oiQ]; omega)
 have r2 := rr1.grown hw2.grown (by simp only [ne_eq, oiQ]; omega)
 have n2 : Went R w w2 l2 := (nn1).trans hw2
 have c2 := r2.cell (j := 1) rfl
 have z2 := r2.frz 1
 have ck := r2.cell (j := 0) rfl
 clear hC2 hP
 have nn2 : Went R w (w2.setCell ⟨w.heap.size + 1, 1, none⟩ (.int .u32 y2)) l2 := n2.row (grown_at _ _ _ _) (fun g hg => by injection hg with hg; omega) hRlt
 have xx2 := x2.grown (grown_at w2 (w.heap.size + 1) 1 (.int .u32 y2)) (by simp only [ne_eq, oiQ]; omega)
 have rr2 := r2.set 1 (.int .u32 y2)
 have hBB2 : B ≤ (w2.setCell ⟨w.heap.size + 1, 1, none⟩ (.int .u32 y2)).heap.size := ntQ hB nn2.grown.size
 have hl2 : Hid (l2.length ≤ 60000) := by
  show _ ≤ _
  have h1 := hl1.out
  have h2 := pInt_less (by omega) _ _ _ hq2
  omega
 have hC3 := ru32 R (w2.setCell ⟨w.heap.size + 1, 1, none⟩ (.int .u32 y2)) l2 nn2.rdr 4 (by omega) (by omega)
 go_wp2_with (go_at_call 89; refine hC3.mono ?_; intro e w3 hP; obtain ⟨v3, rfl, hg3, hw3⟩ := hP.got hq3; refine Hid.out ?_)
 refine hid ?_
 subst hg3
 have x3 := xx2.grown hw3.grown (by simp only [ne_eq, oiQ]; omega)
 have r3 := rr2.grown hw3.grown (by simp only [ne_eq, oiQ]; omega)
 have n3 : Went R w w3 l3 := (nn2).trans hw3
 have c3 := r3.cell (j := 5) rfl
 have z3 := r3.frz 5
 clear hC3 hP
 have nn3 : Went R w (w3.setCell ⟨w.heap.size + 1, 5, none⟩ (.int .u32 y3)) l3 := n3.row (grown_at _ _ _ _) (fun g hg => by injection hg with hg; omega) hRlt
 have xx3 := x3.grown (grown_at w3 (w.heap.size + 1) 5 (.int .u32 y3)) (by simp only [ne_eq, oiQ]; omega)
 have rr3 := r3.set 5 (.int .u32 y3)
 have hBB3 : B ≤ (w3.setCell ⟨w.heap.size + 1, 5, none⟩ (.int .u32 y3)).heap.size := ntQ hB nn3.grown.size
 have hl3 : Hid (l3.length ≤ 60000) := by
  show _ ≤ _
  have h1 := hl2.out
  have h2 := pInt_less (by omega) _ _ _ hq3
  omega
 have hC4 := readAll_span R B 95 pSpan 1 (by omega) (by omega) (fun _ _ => rfl) (readSpan_any R B hRB) pSpan_less (w3.setCell ⟨w.heap.size + 1, 5, none⟩ (.int .u32 y3)) l3 hBB3 nn3.rdr hl3.out
 go_wp2_with (go_at_call 94; refine hC4.mono ?_; intro e w4 hP; obtain ⟨⟨m, rfl⟩, hgr⟩ := hP.miss hq4)
 exact ⟨rfl, PostX.none (by simp [pRec, pBody, hq1, hq2, hq3, hq4]) (grown_trans (nn3).grown hgr)⟩

theorem rr_6_0 (R B : Nat) (hRB : R < B) (w : World) (l : List UInt8) (hB : B ≤ w.heap.size) (hR : RdL R w l) (hl : l.length ≤ 60000) {l1 : List UInt8} (hq1 : pInt 1 l = some (6, l1)) {y2 : Int} {l2 : List UInt8} (hq2 : pInt 4 l1 = some (y2, l2)) {y3 : Int} {l3 : List UInt8} (hq3 : pInt 4 l2 = some (y3, l3)) {y4 : List PSpan} {l4 : List UInt8} (hq4 : pAll 1 pSpan l3 = some (y4, l4)) :
  Calls Tryz.prog 72 #[.pointer (some ⟨R, 0, none⟩)] w fun e w' => PostX R w (pRec l) (fun y v w' => ∃ r, v = rcV r ∧ pr r = y ∧ RcOwn B w' r) e w' := by
 obtain ⟨W0, HW, hRlt, hx0, hr0, hW0, hB0⟩ := rr_start R B w l hB hR
 clear hR
 have Q1 : Hid (_ = _) := hq1
 have Q2 : Hid (_ = _) := hq2
 have Q3 : Hid (_ = _) := hq3
 have Q4 : Hid (_ = _) := hq4
 have HL0 : Hid (l.length ≤ 60000) := hl
 have hC1 := ru8 R W0 l hW0.rdr
 go_enter Tryz.func72, Tryz.ntmps72
 go_wp2_with fail
 rw [HW.out]
 refine hC1.mono ?_
 intro e w1 hP
 obtain ⟨v1, rfl, hg1, hw1⟩ := hP.got hq1
 subst hg1
 have x1 := hx0.grown hw1.grown (by simp only [ne_eq, oiQ]; omega)
 have r1 := hr0.grown hw1.grown (by simp only [ne_eq, oiQ]; omega)
 have n1 : Went R w w1 l1 := (hW0).trans hw1
 have c1 := r1.cell (j := 0) rfl
 have z1 := r1.frz 0
 clear hC1 hP
 have nn1 : Went R w (w1.setCell ⟨w.heap.size + 1, 0, none⟩ (.int .u8 6)) l1 := n1.row (grown_at _ _ _ _) (fun g hg => by injection hg with hg; omega) hRlt
 have xx1 := x1.grown (grown_at w1 (w.heap.size + 1) 0 (.int .u8 6)) (by simp only [ne_eq, oiQ]; omega)
 have rr1 := r1.set 0 (.int .u8 6)
 have hBB1 : B ≤ (w1.setCell ⟨w.heap.size + 1, 0, none⟩ (.int .u8 6)).heap.size := ntQ hB nn1.grown.size
 have hl1 : Hid (l1.length ≤ 60000) := by
  show _ ≤ _
  have h1 := HL0.out
  have h2 := pInt_less (by omega) _ _ _ hq1
  omega
 have hC2 := ru32 R (w1.setCell ⟨w.heap.size + 1, 0, none⟩ (.int .u8 6)) l1 nn1.rdr 4 (by omega) (by omega)
 go_wp2_with (go_at_call 89; refine hC2.mono ?_; intro e w2 hP; obtain ⟨v2, rfl, hg2, hw2⟩ := hP.got hq2; refine Hid.out ?_)
 refine hid ?_
 subst hg2
 have x2 := xx1.grown hw2.grown (by simp only [ne_eq, oiQ]; omega)
 have r2 := rr1.grown hw2.grown (by simp only [ne_eq, oiQ]; omega)
 have n2 : Went R w w2 l2 := (nn1).trans hw2
 have c2 := r2.cell (j := 1) rfl
 have z2 := r2.frz 1
 have ck := r2.cell (j := 0) rfl
 clear hC2 hP
 have nn2 : Went R w (w2.setCell ⟨w.heap.size + 1, 1, none⟩ (.int .u32 y2)) l2 := n2.row (grown_at _ _ _ _) (fun g hg => by injection hg with hg; omega) hRlt
 have xx2 := x2.grown (grown_at w2 (w.heap.size + 1) 1 (.int .u32 y2)) (by simp only [ne_eq, oiQ]; omega)
 have rr2 := r2.set 1 (.int .u32 y2)
 have hBB2 : B ≤ (w2.setCell ⟨w.heap.size + 1, 1, none⟩ (.int .u32 y2)).heap.size := ntQ hB nn2.grown.size
 have hl2 : Hid (l2.length ≤ 60000) := by
  show _ ≤ _
  have h1 := hl1.out
  have h2 := pInt_less (by omega) _ _ _ hq2
  omega
 have hC3 := ru32 R (w2.setCell ⟨w.heap.size + 1, 1, none⟩ (.int .u32 y2)) l2 nn2.rdr 4 (by omega) (by omega)
 go_wp2_with (go_at_call 89; refine hC3.mono ?_; intro e w3 hP; obtain ⟨v3, rfl, hg3, hw3⟩ := hP.got hq3; refine Hid.out ?_)
 refine hid ?_
 subst hg3
 have x3 := xx2.grown hw3.grown (by simp only [ne_eq, oiQ]; omega)
 have r3 := rr2.grown hw3.grown (by simp only [ne_eq, oiQ]; omega)
 have n3 : Went R w w3 l3 := (nn2).trans hw3
 have c3 := r3.cell (j := 5) rfl
 have z3 := r3.frz 5
 clear hC3 hP
 have nn3 : Went R w (w3.setCell ⟨w.heap.size + 1, 5, none⟩ (.int .u32 y3)) l3 := n3.row (grown_at _ _ _ _) (fun g hg => by injection hg with hg; omega) hRlt
 have xx3 := x3.grown (grown_at w3 (w.heap.size + 1) 5 (.int .u32 y3)) (by simp only [ne_eq, oiQ]; omega)
 have rr3 := r3.set 5 (.int .u32 y3)
 have hBB3 : B ≤ (w3.setCell ⟨w.heap.size + 1, 5, none⟩ (.int .u32 y3)).heap.size := ntQ hB nn3.grown.size
 have hl3 : Hid (l3.length ≤ 60000) := by
  show _ ≤ _
  have h1 := hl2.out
  have h2 := pInt_less (by omega) _ _ _ hq3
  omega
 have hC4 := readAll_span R B 95 pSpan 1 (by omega) (by omega) (fun _ _ => rfl) (readSpan_any R B hRB) pSpan_less (w3.setCell ⟨w.heap.size + 1, 5, none⟩ (.int .u32 y3)) l3 hBB3 nn3.rdr hl3.out
 go_wp2_with (go_at_call 94; refine hC4.mono ?_; intro e w4 hP; obtain ⟨v4, rfl, hg4, hw4⟩ := hP.got hq4; refine Hid.out ?_)
 refine hid ?_
 obtain ⟨sa4, sc4, hkv⟩ := ss_form hg4
 subst hkv
 have x4 := xx3.grown hw4.grown (by simp only [ne_eq, oiQ]; omega)
 have r4 := rr3.grown hw4.grown (by simp only [ne_eq, oiQ]; omega)
 have n4 : Went R w w4 l4 := (nn3).trans hw4
 have o4 := hg4
 clear hg4
 have c4 := r4.cell (j := 6) rfl
 have z4 := r4.frz 6
 clear hC4 hP
 have nn4 : Went R w (w4.setCell ⟨w.heap.size + 1, 6, none⟩ (.slice sa4 y4.length sc4)) l4 := n4.row (grown_at _ _ _ _) (fun g hg => by injection hg with hg; omega) hRlt
 have xx4 := x4.grown (grown_at w4 (w.heap.size + 1) 6 (.slice sa4 y4.length sc4)) (by simp only [ne_eq, oiQ]; omega)
 have rr4 := r4.set 6 (.slice sa4 y4.length sc4)
 have o4 := o4.far (grown_at w4 (w.heap.size + 1) 6 (.slice sa4 y4.length sc4)) (r4.far (by decide))
 have hBB4 : B ≤ (w4.setCell ⟨w.heap.size + 1, 6, none⟩ (.slice sa4 y4.length sc4)).heap.size := ntQ hB nn4.grown.size
 have hl4 : Hid (l4.length ≤ 60000) := by
  show _ ≤ _
  have h1 := hl3.out
  have h2 := pSpans_less _ _ _ hq4
  omega
 have cr0 := r4.cell (j := 0) rfl
 have cx0 := x4.cell (j := 0) rfl
 have zx0 := x4.frz 0
 have cr1 := r4.cell (j := 1) rfl
 have cx1 := x4.cell (j := 1) rfl
 have zx1 := x4.frz 1
 have cr2 := r4.cell (j := 2) rfl
 have cx2 := x4.cell (j := 2) rfl
 have zx2 := x4.frz 2
 have cr3 := r4.cell (j := 3) rfl
 have cx3 := x4.cell (j := 3) rfl
 have zx3 := x4.frz 3
 have cr4 := r4.cell (j := 4) rfl
 have cx4 := x4.cell (j := 4) rfl
 have zx4 := x4.frz 4
 have cr5 := r4.cell (j := 5) rfl
 have cx5 := x4.cell (j := 5) rfl
 have zx5 := x4.frz 5
 have cr6 := r4.cell (j := 6) rfl
 have cx6 := x4.cell (j := 6) rfl
 have zx6 := x4.frz 6
 have cr7 := r4.cell (j := 7) rfl
 have cx7 := x4.cell (j := 7) rfl
 have zx7 := x4.frz 7
 have cr8 := r4.cell (j := 8) rfl
 have cx8 := x4.cell (j := 8) rfl
 have zx8 := x4.frz 8
 have cr9 := r4.cell (j := 9) rfl
 have cx9 := x4.cell (j := 9) rfl
 have zx9 := x4.frz 9
 have HF : Aside (∀ W, ((w4.setCell ⟨w.heap.size + 1, 6, none⟩ (.slice sa4 y4.length sc4))).grownBy W (some w.heap.size) → PostX R w (pRec l) (fun y v w' => ∃ r, v = rcV r ∧ pr r = y ∧ RcOwn B w' r) (.returned (.agg #[.int .u8 6, .int .u32 y2, .int .u32 0, .slice none 0 0, .slice none 0 0, .int .u32 y3, .slice sa4 y4.length sc4, .int .i64 0, .int .i64 0, .slice none 0 0])) W) := fun W hG => by
  have hO : RcOwn B ((w4.setCell ⟨w.heap.size + 1, 6, none⟩ (.slice sa4 y4.length sc4))) ⟨6, y2, 0, none, 0, [], none, 0, [], y3, sa4, sc4, y4, 0, 0, none, 0, []⟩ := ⟨pu8 Q1.out, pu32 Q2.out, u32_nought, ns_nil _ _, fs_nil _ _, pu32 Q3.out, o4, i64_nought, i64_nought, es_nil _ _⟩
  refine PostX.some (y := pr ⟨6, y2, 0, none, 0, [], none, 0, [], y3, sa4, sc4, y4, 0, 0, none, 0, []⟩) (l' := l4) ?_ ⟨⟨6, y2, 0, none, 0, [], none, 0, [], y3, sa4, sc4, y4, 0, 0, none, 0, []⟩, rfl, rfl, hO.far hG (xx4.far (by decide)) (xx4.far (by decide)) (xx4.far (by decide)) (xx4.far (by decide))⟩ ((nn4).row hG (fun g hg => by injection hg with hg; omega) hRlt)
  simp [pRec, pBody, hq1, hq2, hq3, hq4, pr]
 clear nn1 xx1 rr1 n1 x1 r1 hw1 hBB1 nn2 xx2 rr2 n2 x2 r2 hw2 hBB2 nn3 xx3 rr3 n3 x3 r3 hw3 hBB3 nn4 xx4 rr4 n4 x4 r4 hw4 hBB4 hx0 hr0 hW0 o4 hq1 hq2 hq3 hq4
 go_wp2
 refine bodyPost_ret (v := .agg #[.int .u8 6, .int .u32 y2, .int .u32 0, .slice none 0 0, .slice none 0 0, .int .u32 y3, .slice sa4 y4.length sc4, .int .i64 0, .int .i64 0, .slice none 0 0]) (by simp [results, Tryz.results72, go_sem, *]) rfl (HF.out _ ?_)
 iterate 9 (refine grown_trans ?_ (grown_at _ _ _ _))
 exact grown_at _ _ _ _
end code
end Go.Proofs.YtlcjllgfpfldlaaGreat
