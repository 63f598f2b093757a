/-
  A record read: the program's readRec.
-/
import Derived.Test.YtlokamblbhooaaaCodeReadEl
namespace Go.Proofs.Ytlokamblbhooaaa.code
open Go.ChangeShapes Go.WideShapes Go.ChangeAt Go.RowKit Go.Deep
open Go.Proofs.Ytlokamblbhooaaa.dims (nth Ints cell_lt vals vals_len vals_get vals_one vals_app own_below own_mono own_out own_apart RowOut ret_bool ret_int)
set_option linter.unusedVariables false
set_option maxRecDepth 100000
set_option linter.unusedSimpArgs false

/-- a record whose lists are a call's own -/
structure RcOwn (B : Nat) (W : World) (r : Rc) : Prop where
  kind : 0 ≤ r.kind ∧ r.kind ≤ 255
  id : U32 r.id
  at_ : U32 r.at_
  nodes : NsOwn B W (.slice r.na r.nodes.length r.nc) r.nodes
  facts : FsOwn B W (.slice r.fa r.facts.length r.fc) r.facts
  epoch : U32 r.epoch
  spans : SsOwn B W (.slice r.sa r.spans.length r.sc) r.spans
  frm : I64 r.frm
  til : I64 r.til
  ents : EsOwn B W (.slice r.ea r.ents.length r.ec) r.ents
theorem RcOwn.far {B : Nat} {W W' : World} {r : Rc} {row : Option Nat} (h : RcOwn B W r) (hg : W.grownBy W' row) (h1 : Far W row 3) (h2 : Far W row 53) (h3 : Far W row 63) (h4 : Far W row 56) : RcOwn B W' r :=
  ⟨h.kind, h.id, h.at_, h.nodes.far hg h1, h.facts.far hg h1 h2, h.epoch, h.spans.far hg h3, h.frm, h.til, h.ents.far hg h1 h2 h4⟩
theorem ns_nil (B : Nat) (W : World) : NsOwn B W (.slice none 0 0) [] := ⟨World.ownsRow_nil _ _ _ _, by simp⟩
theorem fs_nil (B : Nat) (W : World) : FsOwn B W (.slice none 0 0) [] := ⟨World.ownsRow_nil _ _ _ _, by simp⟩
theorem ss_nil (B : Nat) (W : World) : SsOwn B W (.slice none 0 0) [] := ⟨World.ownsRow_nil _ _ _ _, by simp⟩
theorem es_nil (B : Nat) (W : World) : EsOwn B W (.slice none 0 0) [] := ⟨World.ownsRow_nil _ _ _ _, by simp⟩
theorem u32_nought : U32 0 := by unfold U32; omega
theorem i64_nought : I64 0 := by unfold I64; omega
theorem pu32 {l l' : List UInt8} {y : Int} (h : pInt 4 l = some (y, l')) : U32 y := by have := pInt_lt h; rw [pow4] at this; unfold U32; omega
theorem pi64 {l l' : List UInt8} {y : Int} (h : pInt 4 l = some (y, l')) : I64 y := by have := pInt_lt h; rw [pow4] at this; unfold I64; omega
theorem pu8 {l l' : List UInt8} {y : Int} (h : pInt 1 l = some (y, l')) : 0 ≤ y ∧ y ≤ 255 := by have := pInt_lt h; rw [pow1] at this; omega
theorem ns_form {B : Nat} {W : World} {v : Value} {l : List Int} (h : NsOwn B W v l) : ∃ a cap, v = .slice a l.length cap := by
  rcases h.own.2 with ⟨h1, h2⟩ | ⟨g, cap, cur, h1, _⟩
  · rw [h1, h2]; exact ⟨_, _, rfl⟩
  · exact ⟨_, _, h1⟩
theorem ss_form {B : Nat} {W : World} {v : Value} {l : List PSpan} (h : SsOwn B W v l) : ∃ a cap, v = .slice a l.length cap := by
  rcases h.own.2 with ⟨h1, h2⟩ | ⟨g, cap, cur, h1, _⟩
  · rw [h1, h2]; exact ⟨_, _, rfl⟩
  · exact ⟨_, _, h1⟩
theorem es_form {B : Nat} {W : World} {v : Value} {l : List Et} (h : EsOwn B W v l) : ∃ a cap, v = .slice a l.length cap := by
  rcases h.own.2 with ⟨h1, h2⟩ | ⟨g, cap, cur, h1, _⟩
  · rw [h1, h2]; exact ⟨_, _, rfl⟩
  · exact ⟨_, _, h1⟩

set_option maxHeartbeats 16000000 in
theorem rr_0_1 (R B : Nat) (hRB : R < B) (w : World) (l : List UInt8) (hB : B ≤ w.heap.size) (hR : RdL R w l) (hl : l.length ≤ 60000) (hq1 : pInt 1 l = none) :
    Calls Try.prog 39 #[.pointer (some ⟨R, 0, none⟩)] w fun e w' => PostX R w (pRec l) (fun y v w' => ∃ r, v = rcV r ∧ pr r = y ∧ RcOwn B w' r) e w' := by
  have hRlt := hR.lt
  have hb0 : Below w.heap.size w ((w.alloc (.cells #[.int .u8 0, .int .u32 0, .int .u32 0, .slice none 0 0, .slice none 0 0, .int .u32 0, .slice none 0 0, .int .i64 0, .int .i64 0, .slice none 0 0] 30)).alloc (.cells #[.int .u8 0, .int .u32 0, .int .u32 0, .slice none 0 0, .slice none 0 0, .int .u32 0, .slice none 0 0, .int .i64 0, .int .i64 0, .slice none 0 0] 30)) := by (repeat (first | with_reducible exact Below.refl _ _ | (with_reducible refine Below.drew ?_) | (with_reducible refine Below.alloc ?_ (by first | omega | (simp; done) | (simp; omega)) _) | (with_reducible refine Below.setCell ?_ (by first | exact Nat.le_refl _ | omega | (simp; done) | (simp; omega)) _)))
  have hx0 : Boxed ((w.alloc (.cells #[.int .u8 0, .int .u32 0, .int .u32 0, .slice none 0 0, .slice none 0 0, .int .u32 0, .slice none 0 0, .int .i64 0, .int .i64 0, .slice none 0 0] 30)).alloc (.cells #[.int .u8 0, .int .u32 0, .int .u32 0, .slice none 0 0, .slice none 0 0, .int .u32 0, .slice none 0 0, .int .i64 0, .int .i64 0, .slice none 0 0] 30)) w.heap.size #[.int .u8 0, .int .u32 0, .int .u32 0, .slice none 0 0, .slice none 0 0, .int .u32 0, .slice none 0 0, .int .i64 0, .int .i64 0, .slice none 0 0] 30 := (Boxed.new w _ _).grown (World.grownBy_alloc _ _ none) (by simp)
  have hr0 : Boxed ((w.alloc (.cells #[.int .u8 0, .int .u32 0, .int .u32 0, .slice none 0 0, .slice none 0 0, .int .u32 0, .slice none 0 0, .int .i64 0, .int .i64 0, .slice none 0 0] 30)).alloc (.cells #[.int .u8 0, .int .u32 0, .int .u32 0, .slice none 0 0, .slice none 0 0, .int .u32 0, .slice none 0 0, .int .i64 0, .int .i64 0, .slice none 0 0] 30)) (w.heap.size + 1) #[.int .u8 0, .int .u32 0, .int .u32 0, .slice none 0 0, .slice none 0 0, .int .u32 0, .slice none 0 0, .int .i64 0, .int .i64 0, .slice none 0 0] 30 := by
    have := Boxed.new (w.alloc (.cells #[.int .u8 0, .int .u32 0, .int .u32 0, .slice none 0 0, .slice none 0 0, .int .u32 0, .slice none 0 0, .int .i64 0, .int .i64 0, .slice none 0 0] 30)) #[.int .u8 0, .int .u32 0, .int .u32 0, .slice none 0 0, .slice none 0 0, .int .u32 0, .slice none 0 0, .int .i64 0, .int .i64 0, .slice none 0 0] 30
    simpa using this
  have hW0 := Went.start hR hb0
  have hB0 := Nat.le_trans hB hb0.size
  generalize hWW : (w.alloc (.cells #[.int .u8 0, .int .u32 0, .int .u32 0, .slice none 0 0, .slice none 0 0, .int .u32 0, .slice none 0 0, .int .i64 0, .int .i64 0, .slice none 0 0] 30)).alloc (.cells #[.int .u8 0, .int .u32 0, .int .u32 0, .slice none 0 0, .slice none 0 0, .int .u32 0, .slice none 0 0, .int .i64 0, .int .i64 0, .slice none 0 0] 30) = W0 at hb0 hx0 hr0 hW0 hB0
  have HW : Hid (_ = W0) := hWW
  clear hWW hb0 hR
  have Q1 : Hid (_ = _) := hq1
  have HL0 : Hid (l.length ≤ 60000) := hl
  have hC1 := ru8 R W0 l hW0.rdr
  go_enter Try.func39, Try.ntmps39
  go_wp2_with fail
  rw [HW.out]
  refine hC1.mono ?_
  intro e w1 hP
  obtain ⟨⟨m, rfl⟩, hgr⟩ := hP.miss hq1
  exact ⟨rfl, PostX.none (by simp [pRec, pBody, hq1]) (grown_trans (hW0).grown hgr)⟩

set_option maxHeartbeats 16000000 in
theorem rr_0_2 (R B : Nat) (hRB : R < B) (w : World) (l : List UInt8) (hB : B ≤ w.heap.size) (hR : RdL R w l) (hl : l.length ≤ 60000) {y1 : Int} {l1 : List UInt8} (hq1 : pInt 1 l = some (y1, l1)) (hq2 : pInt 4 l1 = none) :
    Calls Try.prog 39 #[.pointer (some ⟨R, 0, none⟩)] w fun e w' => PostX R w (pRec l) (fun y v w' => ∃ r, v = rcV r ∧ pr r = y ∧ RcOwn B w' r) e w' := by
  have hRlt := hR.lt
  have hb0 : Below w.heap.size w ((w.alloc (.cells #[.int .u8 0, .int .u32 0, .int .u32 0, .slice none 0 0, .slice none 0 0, .int .u32 0, .slice none 0 0, .int .i64 0, .int .i64 0, .slice none 0 0] 30)).alloc (.cells #[.int .u8 0, .int .u32 0, .int .u32 0, .slice none 0 0, .slice none 0 0, .int .u32 0, .slice none 0 0, .int .i64 0, .int .i64 0, .slice none 0 0] 30)) := by (repeat (first | with_reducible exact Below.refl _ _ | (with_reducible refine Below.drew ?_) | (with_reducible refine Below.alloc ?_ (by first | omega | (simp; done) | (simp; omega)) _) | (with_reducible refine Below.setCell ?_ (by first | exact Nat.le_refl _ | omega | (simp; done) | (simp; omega)) _)))
  have hx0 : Boxed ((w.alloc (.cells #[.int .u8 0, .int .u32 0, .int .u32 0, .slice none 0 0, .slice none 0 0, .int .u32 0, .slice none 0 0, .int .i64 0, .int .i64 0, .slice none 0 0] 30)).alloc (.cells #[.int .u8 0, .int .u32 0, .int .u32 0, .slice none 0 0, .slice none 0 0, .int .u32 0, .slice none 0 0, .int .i64 0, .int .i64 0, .slice none 0 0] 30)) w.heap.size #[.int .u8 0, .int .u32 0, .int .u32 0, .slice none 0 0, .slice none 0 0, .int .u32 0, .slice none 0 0, .int .i64 0, .int .i64 0, .slice none 0 0] 30 := (Boxed.new w _ _).grown (World.grownBy_alloc _ _ none) (by simp)
  have hr0 : Boxed ((w.alloc (.cells #[.int .u8 0, .int .u32 0, .int .u32 0, .slice none 0 0, .slice none 0 0, .int .u32 0, .slice none 0 0, .int .i64 0, .int .i64 0, .slice none 0 0] 30)).alloc (.cells #[.int .u8 0, .int .u32 0, .int .u32 0, .slice none 0 0, .slice none 0 0, .int .u32 0, .slice none 0 0, .int .i64 0, .int .i64 0, .slice none 0 0] 30)) (w.heap.size + 1) #[.int .u8 0, .int .u32 0, .int .u32 0, .slice none 0 0, .slice none 0 0, .int .u32 0, .slice none 0 0, .int .i64 0, .int .i64 0, .slice none 0 0] 30 := by
    have := Boxed.new (w.alloc (.cells #[.int .u8 0, .int .u32 0, .int .u32 0, .slice none 0 0, .slice none 0 0, .int .u32 0, .slice none 0 0, .int .i64 0, .int .i64 0, .slice none 0 0] 30)) #[.int .u8 0, .int .u32 0, .int .u32 0, .slice none 0 0, .slice none 0 0, .int .u32 0, .slice none 0 0, .int .i64 0, .int .i64 0, .slice none 0 0] 30
    simpa using this
  have hW0 := Went.start hR hb0
  have hB0 := Nat.le_trans hB hb0.size
  generalize hWW : (w.alloc (.cells #[.int .u8 0, .int .u32 0, .int .u32 0, .slice none 0 0, .slice none 0 0, .int .u32 0, .slice none 0 0, .int .i64 0, .int .i64 0, .slice none 0 0] 30)).alloc (.cells #[.int .u8 0, .int .u32 0, .int .u32 0, .slice none 0 0, .slice none 0 0, .int .u32 0, .slice none 0 0, .int .i64 0, .int .i64 0, .slice none 0 0] 30) = W0 at hb0 hx0 hr0 hW0 hB0
  have HW : Hid (_ = W0) := hWW
  clear hWW hb0 hR
  have Q1 : Hid (_ = _) := hq1
  have Q2 : Hid (_ = _) := hq2
  have HL0 : Hid (l.length ≤ 60000) := hl
  have hC1 := ru8 R W0 l hW0.rdr
  go_enter Try.func39, Try.ntmps39
  go_wp2_with fail
  rw [HW.out]
  refine hC1.mono ?_
  intro e w1 hP
  obtain ⟨v1, rfl, hg1, hw1⟩ := hP.got hq1
  subst hg1
  have x1 := hx0.grown hw1.grown (by simp only [ne_eq, Option.some.injEq]; omega)
  have r1 := hr0.grown hw1.grown (by simp only [ne_eq, Option.some.injEq]; omega)
  have n1 : Went R w w1 l1 := (hW0).trans hw1
  have c1 := r1.cell (j := 0) rfl
  have z1 := r1.frz 0
  clear hC1 hP
  have nn1 : Went R w (w1.setCell ⟨w.heap.size + 1, 0, none⟩ (.int .u8 y1)) l1 := n1.row (grown_at _ _ _ _) (fun g hg => by injection hg with hg; omega) hRlt
  have xx1 := x1.grown (grown_at w1 (w.heap.size + 1) 0 (.int .u8 y1)) (by simp only [ne_eq, Option.some.injEq]; omega)
  have rr1 := r1.set 0 (.int .u8 y1)
  have hBB1 : B ≤ (w1.setCell ⟨w.heap.size + 1, 0, none⟩ (.int .u8 y1)).heap.size := Nat.le_trans hB nn1.grown.size
  have hl1 : Hid (l1.length ≤ 60000) := by
    show _ ≤ _
    have h1 := HL0.out
    have h2 := pInt_less (by omega) _ _ _ hq1
    omega
  have hC2 := ru32 R (w1.setCell ⟨w.heap.size + 1, 0, none⟩ (.int .u8 y1)) l1 nn1.rdr 4 (by omega) (by omega)
  go_wp2_with (go_at_call 58; refine hC2.mono ?_; intro e w2 hP; obtain ⟨⟨m, rfl⟩, hgr⟩ := hP.miss hq2)
  exact ⟨rfl, PostX.none (by simp [pRec, pBody, hq1, hq2]) (grown_trans (nn1).grown hgr)⟩

set_option maxHeartbeats 16000000 in
theorem rr_0_0 (R B : Nat) (hRB : R < B) (w : World) (l : List UInt8) (hB : B ≤ w.heap.size) (hR : RdL R w l) (hl : l.length ≤ 60000) {y1 : Int} {l1 : List UInt8} (hq1 : pInt 1 l = some (y1, l1)) {y2 : Int} {l2 : List UInt8} (hq2 : pInt 4 l1 = some (y2, l2)) (k1 : (y1 == 1) = false) (k2 : (y1 == 2) = false) (k6 : (y1 == 6) = false) (k7 : (y1 == 7) = false) :
    Calls Try.prog 39 #[.pointer (some ⟨R, 0, none⟩)] w fun e w' => PostX R w (pRec l) (fun y v w' => ∃ r, v = rcV r ∧ pr r = y ∧ RcOwn B w' r) e w' := by
  have e1 : ¬ y1 = 1 := by simpa using k1
  have e2 : ¬ y1 = 2 := by simpa using k2
  have e6 : ¬ y1 = 6 := by simpa using k6
  have e7 : ¬ y1 = 7 := by simpa using k7
  have hRlt := hR.lt
  have hb0 : Below w.heap.size w ((w.alloc (.cells #[.int .u8 0, .int .u32 0, .int .u32 0, .slice none 0 0, .slice none 0 0, .int .u32 0, .slice none 0 0, .int .i64 0, .int .i64 0, .slice none 0 0] 30)).alloc (.cells #[.int .u8 0, .int .u32 0, .int .u32 0, .slice none 0 0, .slice none 0 0, .int .u32 0, .slice none 0 0, .int .i64 0, .int .i64 0, .slice none 0 0] 30)) := by (repeat (first | with_reducible exact Below.refl _ _ | (with_reducible refine Below.drew ?_) | (with_reducible refine Below.alloc ?_ (by first | omega | (simp; done) | (simp; omega)) _) | (with_reducible refine Below.setCell ?_ (by first | exact Nat.le_refl _ | omega | (simp; done) | (simp; omega)) _)))
  have hx0 : Boxed ((w.alloc (.cells #[.int .u8 0, .int .u32 0, .int .u32 0, .slice none 0 0, .slice none 0 0, .int .u32 0, .slice none 0 0, .int .i64 0, .int .i64 0, .slice none 0 0] 30)).alloc (.cells #[.int .u8 0, .int .u32 0, .int .u32 0, .slice none 0 0, .slice none 0 0, .int .u32 0, .slice none 0 0, .int .i64 0, .int .i64 0, .slice none 0 0] 30)) w.heap.size #[.int .u8 0, .int .u32 0, .int .u32 0, .slice none 0 0, .slice none 0 0, .int .u32 0, .slice none 0 0, .int .i64 0, .int .i64 0, .slice none 0 0] 30 := (Boxed.new w _ _).grown (World.grownBy_alloc _ _ none) (by simp)
  have hr0 : Boxed ((w.alloc (.cells #[.int .u8 0, .int .u32 0, .int .u32 0, .slice none 0 0, .slice none 0 0, .int .u32 0, .slice none 0 0, .int .i64 0, .int .i64 0, .slice none 0 0] 30)).alloc (.cells #[.int .u8 0, .int .u32 0, .int .u32 0, .slice none 0 0, .slice none 0 0, .int .u32 0, .slice none 0 0, .int .i64 0, .int .i64 0, .slice none 0 0] 30)) (w.heap.size + 1) #[.int .u8 0, .int .u32 0, .int .u32 0, .slice none 0 0, .slice none 0 0, .int .u32 0, .slice none 0 0, .int .i64 0, .int .i64 0, .slice none 0 0] 30 := by
    have := Boxed.new (w.alloc (.cells #[.int .u8 0, .int .u32 0, .int .u32 0, .slice none 0 0, .slice none 0 0, .int .u32 0, .slice none 0 0, .int .i64 0, .int .i64 0, .slice none 0 0] 30)) #[.int .u8 0, .int .u32 0, .int .u32 0, .slice none 0 0, .slice none 0 0, .int .u32 0, .slice none 0 0, .int .i64 0, .int .i64 0, .slice none 0 0] 30
    simpa using this
  have hW0 := Went.start hR hb0
  have hB0 := Nat.le_trans hB hb0.size
  generalize hWW : (w.alloc (.cells #[.int .u8 0, .int .u32 0, .int .u32 0, .slice none 0 0, .slice none 0 0, .int .u32 0, .slice none 0 0, .int .i64 0, .int .i64 0, .slice none 0 0] 30)).alloc (.cells #[.int .u8 0, .int .u32 0, .int .u32 0, .slice none 0 0, .slice none 0 0, .int .u32 0, .slice none 0 0, .int .i64 0, .int .i64 0, .slice none 0 0] 30) = W0 at hb0 hx0 hr0 hW0 hB0
  have HW : Hid (_ = W0) := hWW
  clear hWW hb0 hR
  have Q1 : Hid (_ = _) := hq1
  have Q2 : Hid (_ = _) := hq2
  have HL0 : Hid (l.length ≤ 60000) := hl
  have hC1 := ru8 R W0 l hW0.rdr
  go_enter Try.func39, Try.ntmps39
  go_wp2_with fail
  rw [HW.out]
  refine hC1.mono ?_
  intro e w1 hP
  obtain ⟨v1, rfl, hg1, hw1⟩ := hP.got hq1
  subst hg1
  have x1 := hx0.grown hw1.grown (by simp only [ne_eq, Option.some.injEq]; omega)
  have r1 := hr0.grown hw1.grown (by simp only [ne_eq, Option.some.injEq]; omega)
  have n1 : Went R w w1 l1 := (hW0).trans hw1
  have c1 := r1.cell (j := 0) rfl
  have z1 := r1.frz 0
  clear hC1 hP
  have nn1 : Went R w (w1.setCell ⟨w.heap.size + 1, 0, none⟩ (.int .u8 y1)) l1 := n1.row (grown_at _ _ _ _) (fun g hg => by injection hg with hg; omega) hRlt
  have xx1 := x1.grown (grown_at w1 (w.heap.size + 1) 0 (.int .u8 y1)) (by simp only [ne_eq, Option.some.injEq]; omega)
  have rr1 := r1.set 0 (.int .u8 y1)
  have hBB1 : B ≤ (w1.setCell ⟨w.heap.size + 1, 0, none⟩ (.int .u8 y1)).heap.size := Nat.le_trans hB nn1.grown.size
  have hl1 : Hid (l1.length ≤ 60000) := by
    show _ ≤ _
    have h1 := HL0.out
    have h2 := pInt_less (by omega) _ _ _ hq1
    omega
  have hC2 := ru32 R (w1.setCell ⟨w.heap.size + 1, 0, none⟩ (.int .u8 y1)) l1 nn1.rdr 4 (by omega) (by omega)
  go_wp2_with (go_at_call 58; refine hC2.mono ?_; intro e w2 hP; obtain ⟨v2, rfl, hg2, hw2⟩ := hP.got hq2; refine Hid.out ?_)
  refine hid ?_
  subst hg2
  have x2 := xx1.grown hw2.grown (by simp only [ne_eq, Option.some.injEq]; omega)
  have r2 := rr1.grown hw2.grown (by simp only [ne_eq, Option.some.injEq]; omega)
  have n2 : Went R w w2 l2 := (nn1).trans hw2
  have c2 := r2.cell (j := 1) rfl
  have z2 := r2.frz 1
  have ck := r2.cell (j := 0) rfl
  clear hC2 hP
  have nn2 : Went R w (w2.setCell ⟨w.heap.size + 1, 1, none⟩ (.int .u32 y2)) l2 := n2.row (grown_at _ _ _ _) (fun g hg => by injection hg with hg; omega) hRlt
  have xx2 := x2.grown (grown_at w2 (w.heap.size + 1) 1 (.int .u32 y2)) (by simp only [ne_eq, Option.some.injEq]; omega)
  have rr2 := r2.set 1 (.int .u32 y2)
  have hBB2 : B ≤ (w2.setCell ⟨w.heap.size + 1, 1, none⟩ (.int .u32 y2)).heap.size := Nat.le_trans hB nn2.grown.size
  have hl2 : Hid (l2.length ≤ 60000) := by
    show _ ≤ _
    have h1 := hl1.out
    have h2 := pInt_less (by omega) _ _ _ hq2
    omega
  have cr0 := r2.cell (j := 0) rfl
  have cx0 := x2.cell (j := 0) rfl
  have zx0 := x2.frz 0
  have cr1 := r2.cell (j := 1) rfl
  have cx1 := x2.cell (j := 1) rfl
  have zx1 := x2.frz 1
  have cr2 := r2.cell (j := 2) rfl
  have cx2 := x2.cell (j := 2) rfl
  have zx2 := x2.frz 2
  have cr3 := r2.cell (j := 3) rfl
  have cx3 := x2.cell (j := 3) rfl
  have zx3 := x2.frz 3
  have cr4 := r2.cell (j := 4) rfl
  have cx4 := x2.cell (j := 4) rfl
  have zx4 := x2.frz 4
  have cr5 := r2.cell (j := 5) rfl
  have cx5 := x2.cell (j := 5) rfl
  have zx5 := x2.frz 5
  have cr6 := r2.cell (j := 6) rfl
  have cx6 := x2.cell (j := 6) rfl
  have zx6 := x2.frz 6
  have cr7 := r2.cell (j := 7) rfl
  have cx7 := x2.cell (j := 7) rfl
  have zx7 := x2.frz 7
  have cr8 := r2.cell (j := 8) rfl
  have cx8 := x2.cell (j := 8) rfl
  have zx8 := x2.frz 8
  have cr9 := r2.cell (j := 9) rfl
  have cx9 := x2.cell (j := 9) rfl
  have zx9 := x2.frz 9
  have HF : Aside (∀ W, ((w2.setCell ⟨w.heap.size + 1, 1, none⟩ (.int .u32 y2))).grownBy W (some w.heap.size) → PostX R w (pRec l) (fun y v w' => ∃ r, v = rcV r ∧ pr r = y ∧ RcOwn B w' r) (.returned (.agg #[.int .u8 y1, .int .u32 y2, .int .u32 0, .slice none 0 0, .slice none 0 0, .int .u32 0, .slice none 0 0, .int .i64 0, .int .i64 0, .slice none 0 0])) W) := fun W hG => by
    have hO : RcOwn B ((w2.setCell ⟨w.heap.size + 1, 1, none⟩ (.int .u32 y2))) ⟨y1, y2, 0, none, 0, [], none, 0, [], 0, none, 0, [], 0, 0, none, 0, []⟩ := ⟨pu8 Q1.out, pu32 Q2.out, u32_nought, ns_nil _ _, fs_nil _ _, u32_nought, ss_nil _ _, i64_nought, i64_nought, es_nil _ _⟩
    refine PostX.some (y := pr ⟨y1, y2, 0, none, 0, [], none, 0, [], 0, none, 0, [], 0, 0, none, 0, []⟩) (l' := l2) ?_ ⟨⟨y1, y2, 0, none, 0, [], none, 0, [], 0, none, 0, [], 0, 0, none, 0, []⟩, rfl, rfl, hO.far hG (xx2.far (by decide)) (xx2.far (by decide)) (xx2.far (by decide)) (xx2.far (by decide))⟩ ((nn2).row hG (fun g hg => by injection hg with hg; omega) hRlt)
    simp [pRec, pBody, hq1, hq2, e1, e2, e6, e7, pr]
  clear nn1 xx1 rr1 n1 x1 r1 hw1 hBB1 nn2 xx2 rr2 n2 x2 r2 hw2 hBB2 hx0 hr0 hW0  hq1 hq2
  go_wp2
  refine bodyPost_ret (v := .agg #[.int .u8 y1, .int .u32 y2, .int .u32 0, .slice none 0 0, .slice none 0 0, .int .u32 0, .slice none 0 0, .int .i64 0, .int .i64 0, .slice none 0 0]) (by simp [results, Try.results39, go_sem, *]) rfl (HF.out _ ?_)
  iterate 9 (refine grown_trans ?_ (grown_at _ _ _ _))
  exact grown_at _ _ _ _
end Go.Proofs.Ytlokamblbhooaaa.code
