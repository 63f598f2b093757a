/-
 A record read: the program's readRec, kind 7.
 A record read: the program's readRec, of any bytes.
-/
import Derived.Test.YtlcjllgfpfldlaaGreatWalZ23K
set_option maxHeartbeats 16000000
open Go.ChangeShapes Go.WideShapes Go.ChangeAt Go.RowKit Go.Deep
set_option linter.unusedVariables false
set_option maxRecDepth 100000
set_option linter.unusedSimpArgs false
namespace Go.Proofs.YtlcjllgfpfldlaaGreat
namespace code

theorem rr_7_3 (R B : Nat) (hRB : R < B) (w : World) (l : List UInt8) (hB : B ≤ w.heap.size) (hR : RdL R w l) (hl : l.length ≤ 60000) {l1 : List UInt8} (hq1 : pInt 1 l = some (7, l1)) {y2 : Int} {l2 : List UInt8} (hq2 : pInt 4 l1 = some (y2, l2)) (hq3 : pInt 4 l2 = none) :
  Calls Tryz.prog 72 #[.pointer (some ⟨R, 0, none⟩)] w fun e w' => PostX R w (pRec l) (fun y v w' => ∃ r, v = rcV r ∧ pr r = y ∧ RcOwn B w' r) e w' := by
 obtain ⟨W0, HW, hRlt, hx0, hr0, hW0, hB0⟩ := rr_start R B w l hB hR
 clear hR
 have Q1 : Hid (_ = _) := hq1
 have Q2 : Hid (_ = _) := hq2
 have Q3 : Hid (_ = _) := hq3
 have HL0 : Hid (l.length ≤ 60000) := hl
 have hC1 := ru8 R W0 l hW0.rdr
 go_enter Tryz.func72, Tryz.ntmps72
 go_wp2_with fail
 rw [HW.out]
 refine hC1.mono ?_
 intro e w1 hP
 obtain ⟨v1, rfl, hg1, hw1⟩ := hP.got hq1
 subst hg1
 have x1 := hx0.grown hw1.grown (by simp only [ne_eq, oiQ]; omega)
 have r1 := hr0.grown hw1.grown (by simp only [ne_eq, oiQ]; omega)
 have n1 : Went R w w1 l1 := (hW0).trans hw1
 have c1 := r1.cell (j := 0) rfl
 have z1 := r1.frz 0
 clear hC1 hP
 have nn1 : Went R w (w1.setCell ⟨w.heap.size + 1, 0, none⟩ (.int .u8 7)) l1 := n1.row (grown_at _ _ _ _) (fun g hg => by injection hg with hg; omega) hRlt
 have xx1 := x1.grown (grown_at w1 (w.heap.size + 1) 0 (.int .u8 7)) (by simp only [ne_eq, oiQ]; omega)
 have rr1 := r1.set 0 (.int .u8 7)
 have hBB1 : B ≤ (w1.setCell ⟨w.heap.size + 1, 0, none⟩ (.int .u8 7)).heap.size := ntQ hB nn1.grown.size
 have hl1 : Hid (l1.length ≤ 60000) := by
  show _ ≤ _
  have h1 := HL0.out
  have h2 := pInt_less (by omega) _ _ _ hq1
  omega
 have hC2 := ru32 R (w1.setCell ⟨w.heap.size + 1, 0, none⟩ (.int .u8 7)) l1 nn1.rdr 4 (by omega) (by omega)
 go_wp2_with (go_at_call 89; refine hC2.mono ?_; intro e w2 hP; obtain ⟨v2, rfl, hg2, hw2⟩ := hP.got hq2; refine Hid.out ?_)
 refine hid ?_
 subst hg2
 have x2 := xx1.grown hw2.grown (by simp only [ne_eq, oiQ]; omega)
 have r2 := rr1.grown hw2.grown (by simp only [ne_eq, oiQ]; omega)
 have n2 : Went R w w2 l2 := (nn1).trans hw2
 have c2 := r2.cell (j := 1) rfl
 have z2 := r2.frz 1
 have ck := r2.cell (j := 0) rfl
 clear hC2 hP
 have nn2 : Went R w (w2.setCell ⟨w.heap.size + 1, 1, none⟩ (.int .u32 y2)) l2 := n2.row (grown_at _ _ _ _) (fun g hg => by injection hg with hg; omega) hRlt
 have xx2 := x2.grown (grown_at w2 (w.heap.size + 1) 1 (.int .u32 y2)) (by simp only [ne_eq, oiQ]; omega)
 have rr2 := r2.set 1 (.int .u32 y2)
 have hBB2 : B ≤ (w2.setCell ⟨w.heap.size + 1, 1, none⟩ (.int .u32 y2)).heap.size := ntQ hB nn2.grown.size
 have hl2 : Hid (l2.length ≤ 60000) := by
  show _ ≤ _
  have h1 := hl1.out
  have h2 := pInt_less (by omega) _ _ _ hq2
  omega
 have hC3 := rint R (w2.setCell ⟨w.heap.size + 1, 1, none⟩ (.int .u32 y2)) l2 nn2.rdr 4 (by omega) (by omega)
 go_wp2_with (go_at_call 96; refine hC3.mono ?_; intro e w3 hP; obtain ⟨⟨m, rfl⟩, hgr⟩ := hP.miss hq3)
 exact ⟨rfl, PostX.none (by simp [pRec, pBody, hq1, hq2, hq3]) (grown_trans (nn2).grown hgr)⟩

theorem rr_7_4 (R B : Nat) (hRB : R < B) (w : World) (l : List UInt8) (hB : B ≤ w.heap.size) (hR : RdL R w l) (hl : l.length ≤ 60000) {l1 : List UInt8} (hq1 : pInt 1 l = some (7, l1)) {y2 : Int} {l2 : List UInt8} (hq2 : pInt 4 l1 = some (y2, l2)) {y3 : Int} {l3 : List UInt8} (hq3 : pInt 4 l2 = some (y3, l3)) (hq4 : pInt 4 l3 = none) :
  Calls Tryz.prog 72 #[.pointer (some ⟨R, 0, none⟩)] w fun e w' => PostX R w (pRec l) (fun y v w' => ∃ r, v = rcV r ∧ pr r = y ∧ RcOwn B w' r) e w' := by
 obtain ⟨W0, HW, hRlt, hx0, hr0, hW0, hB0⟩ := rr_start R B w l hB hR
 clear hR
 have Q1 : Hid (_ = _) := hq1
 have Q2 : Hid (_ = _) := hq2
 have Q3 : Hid (_ = _) := hq3
 have Q4 : Hid (_ = _) := hq4
 have HL0 : Hid (l.length ≤ 60000) := hl
 have hC1 := ru8 R W0 l hW0.rdr
 go_enter Tryz.func72, Tryz.ntmps72
 go_wp2_with fail
 rw [HW.out]
 refine hC1.mono ?_
 intro e w1 hP
 obtain ⟨v1, rfl, hg1, hw1⟩ := hP.got hq1
 subst hg1
 have x1 := hx0.grown hw1.grown (by simp only [ne_eq, oiQ]; omega)
 have r1 := hr0.grown hw1.grown (by simp only [ne_eq, oiQ]; omega)
 have n1 : Went R w w1 l1 := (hW0).trans hw1
 have c1 := r1.cell (j := 0) rfl
 have z1 := r1.frz 0
 clear hC1 hP
 have nn1 : Went R w (w1.setCell ⟨w.heap.size + 1, 0, none⟩ (.int .u8 7)) l1 := n1.row (grown_at _ _ _ _) (fun g hg => by injection hg with hg; omega) hRlt
 have xx1 := x1.grown (grown_at w1 (w.heap.size + 1) 0 (.int .u8 7)) (by simp only [ne_eq, oiQ]; omega)
 have rr1 := r1.set 0 (.int .u8 7)
 have hBB1 : B ≤ (w1.setCell ⟨w.heap.size + 1, 0, none⟩ (.int .u8 7)).heap.size := ntQ hB nn1.grown.size
 have hl1 : Hid (l1.length ≤ 60000) := by
  show _ ≤ _
  have h1 := HL0.out
  have h2 := pInt_less (by omega) _ _ _ hq1
  omega
 have hC2 := ru32 R (w1.setCell ⟨w.heap.size + 1, 0, none⟩ (.int .u8 7)) l1 nn1.rdr 4 (by omega) (by omega)
 go_wp2_with (go_at_call 89; refine hC2.mono ?_; intro e w2 hP; obtain ⟨v2, rfl, hg2, hw2⟩ := hP.got hq2; refine Hid.out ?_)
 refine hid ?_
 subst hg2
 have x2 := xx1.grown hw2.grown (by simp only [ne_eq, oiQ]; omega)
 have r2 := rr1.grown hw2.grown (by simp only [ne_eq, oiQ]; omega)
 have n2 : Went R w w2 l2 := (nn1).trans hw2
 have c2 := r2.cell (j := 1) rfl
 have z2 := r2.frz 1
 have ck := r2.cell (j := 0) rfl
 clear hC2 hP
 have nn2 : Went R w (w2.setCell ⟨w.heap.size + 1, 1, none⟩ (.int .u32 y2)) l2 := n2.row (grown_at _ _ _ _) (fun g hg => by injection hg with hg; omega) hRlt
 have xx2 := x2.grown (grown_at w2 (w.heap.size + 1) 1 (.int .u32 y2)) (by simp only [ne_eq, oiQ]; omega)
 have rr2 := r2.set 1 (.int .u32 y2)
 have hBB2 : B ≤ (w2.setCell ⟨w.heap.size + 1, 1, none⟩ (.int .u32 y2)).heap.size := ntQ hB nn2.grown.size
 have hl2 : Hid (l2.length ≤ 60000) := by
  show _ ≤ _
  have h1 := hl1.out
  have h2 := pInt_less (by omega) _ _ _ hq2
  omega
 have hC3 := rint R (w2.setCell ⟨w.heap.size + 1, 1, none⟩ (.int .u32 y2)) l2 nn2.rdr 4 (by omega) (by omega)
 go_wp2_with (go_at_call 96; refine hC3.mono ?_; intro e w3 hP; obtain ⟨v3, rfl, hg3, hw3⟩ := hP.got hq3; refine Hid.out ?_)
 refine hid ?_
 subst hg3
 have x3 := xx2.grown hw3.grown (by simp only [ne_eq, oiQ]; omega)
 have r3 := rr2.grown hw3.grown (by simp only [ne_eq, oiQ]; omega)
 have n3 : Went R w w3 l3 := (nn2).trans hw3
 have c3 := r3.cell (j := 7) rfl
 have z3 := r3.frz 7
 clear hC3 hP
 have nn3 : Went R w (w3.setCell ⟨w.heap.size + 1, 7, none⟩ (.int .i64 y3)) l3 := n3.row (grown_at _ _ _ _) (fun g hg => by injection hg with hg; omega) hRlt
 have xx3 := x3.grown (grown_at w3 (w.heap.size + 1) 7 (.int .i64 y3)) (by simp only [ne_eq, oiQ]; omega)
 have rr3 := r3.set 7 (.int .i64 y3)
 have hBB3 : B ≤ (w3.setCell ⟨w.heap.size + 1, 7, none⟩ (.int .i64 y3)).heap.size := ntQ hB nn3.grown.size
 have hl3 : Hid (l3.length ≤ 60000) := by
  show _ ≤ _
  have h1 := hl2.out
  have h2 := pInt_less (by omega) _ _ _ hq3
  omega
 have hC4 := rint R (w3.setCell ⟨w.heap.size + 1, 7, none⟩ (.int .i64 y3)) l3 nn3.rdr 4 (by omega) (by omega)
 go_wp2_with (go_at_call 96; refine hC4.mono ?_; intro e w4 hP; obtain ⟨⟨m, rfl⟩, hgr⟩ := hP.miss hq4)
 exact ⟨rfl, PostX.none (by simp [pRec, pBody, hq1, hq2, hq3, hq4]) (grown_trans (nn3).grown hgr)⟩

theorem rr_7_5 (R B : Nat) (hRB : R < B) (w : World) (l : List UInt8) (hB : B ≤ w.heap.size) (hR : RdL R w l) (hl : l.length ≤ 60000) {l1 : List UInt8} (hq1 : pInt 1 l = some (7, l1)) {y2 : Int} {l2 : List UInt8} (hq2 : pInt 4 l1 = some (y2, l2)) {y3 : Int} {l3 : List UInt8} (hq3 : pInt 4 l2 = some (y3, l3)) {y4 : Int} {l4 : List UInt8} (hq4 : pInt 4 l3 = some (y4, l4)) (hq5 : pAll 4 pEnt l4 = none) :
  Calls Tryz.prog 72 #[.pointer (some ⟨R, 0, none⟩)] w fun e w' => PostX R w (pRec l) (fun y v w' => ∃ r, v = rcV r ∧ pr r = y ∧ RcOwn B w' r) e w' := by
 obtain ⟨W0, HW, hRlt, hx0, hr0, hW0, hB0⟩ := rr_start R B w l hB hR
 clear hR
 have Q1 : Hid (_ = _) := hq1
 have Q2 : Hid (_ = _) := hq2
 have Q3 : Hid (_ = _) := hq3
 have Q4 : Hid (_ = _) := hq4
 have Q5 : Hid (_ = _) := hq5
 have HL0 : Hid (l.length ≤ 60000) := hl
 have hC1 := ru8 R W0 l hW0.rdr
 go_enter Tryz.func72, Tryz.ntmps72
 go_wp2_with fail
 rw [HW.out]
 refine hC1.mono ?_
 intro e w1 hP
 obtain ⟨v1, rfl, hg1, hw1⟩ := hP.got hq1
 subst hg1
 have x1 := hx0.grown hw1.grown (by simp only [ne_eq, oiQ]; omega)
 have r1 := hr0.grown hw1.grown (by simp only [ne_eq, oiQ]; omega)
 have n1 : Went R w w1 l1 := (hW0).trans hw1
 have c1 := r1.cell (j := 0) rfl
 have z1 := r1.frz 0
 clear hC1 hP
 have nn1 : Went R w (w1.setCell ⟨w.heap.size + 1, 0, none⟩ (.int .u8 7)) l1 := n1.row (grown_at _ _ _ _) (fun g hg => by injection hg with hg; omega) hRlt
 have xx1 := x1.grown (grown_at w1 (w.heap.size + 1) 0 (.int .u8 7)) (by simp only [ne_eq, oiQ]; omega)
 have rr1 := r1.set 0 (.int .u8 7)
 have hBB1 : B ≤ (w1.setCell ⟨w.heap.size + 1, 0, none⟩ (.int .u8 7)).heap.size := ntQ hB nn1.grown.size
 have hl1 : Hid (l1.length ≤ 60000) := by
  show _ ≤ _
  have h1 := HL0.out
  have h2 := pInt_less (by omega) _ _ _ hq1
  omega
 have hC2 := ru32 R (w1.setCell ⟨w.heap.size + 1, 0, none⟩ (.int .u8 7)) l1 nn1.rdr 4 (by omega) (by omega)
 go_wp2_with (go_at_call 89; refine hC2.mono ?_; intro e w2 hP; obtain ⟨v2, rfl, hg2, hw2⟩ := hP.got hq2; refine Hid.out ?_)
 refine hid ?_
 subst hg2
 have x2 := xx1.grown hw2.grown (by simp only [ne_eq, oiQ]; omega)
 have r2 := rr1.grown hw2.grown (by simp only [ne_eq, oiQ]; omega)
 have n2 : Went R w w2 l2 := (nn1).trans hw2
 have c2 := r2.cell (j := 1) rfl
 have z2 := r2.frz 1
 have ck := r2.cell (j := 0) rfl
 clear hC2 hP
 have nn2 : Went R w (w2.setCell ⟨w.heap.size + 1, 1, none⟩ (.int .u32 y2)) l2 := n2.row (grown_at _ _ _ _) (fun g hg => by injection hg with hg; omega) hRlt
 have xx2 := x2.grown (grown_at w2 (w.heap.size + 1) 1 (.int .u32 y2)) (by simp only [ne_eq, oiQ]; omega)
 have rr2 := r2.set 1 (.int .u32 y2)
 have hBB2 : B ≤ (w2.setCell ⟨w.heap.size + 1, 1, none⟩ (.int .u32 y2)).heap.size := ntQ hB nn2.grown.size
 have hl2 : Hid (l2.length ≤ 60000) := by
  show _ ≤ _
  have h1 := hl1.out
  have h2 := pInt_less (by omega) _ _ _ hq2
  omega
 have hC3 := rint R (w2.setCell ⟨w.heap.size + 1, 1, none⟩ (.int .u32 y2)) l2 nn2.rdr 4 (by omega) (by omega)
 go_wp2_with (go_at_call 96; refine hC3.mono ?_; intro e w3 hP; obtain ⟨v3, rfl, hg3, hw3⟩ := hP.got hq3; refine Hid.out ?_)
 refine hid ?_
 subst hg3
 have x3 := xx2.grown hw3.grown (by simp only [ne_eq, oiQ]; omega)
 have r3 := rr2.grown hw3.grown (by simp only [ne_eq, oiQ]; omega)
 have n3 : Went R w w3 l3 := (nn2).trans hw3
 have c3 := r3.cell (j := 7) rfl
 have z3 := r3.frz 7
 clear hC3 hP
 have nn3 : Went R w (w3.setCell ⟨w.heap.size + 1, 7, none⟩ (.int .i64 y3)) l3 := n3.row (grown_at _ _ _ _) (fun g hg => by injection hg with hg; omega) hRlt
 have xx3 := x3.grown (grown_at w3 (w.heap.size + 1) 7 (.int .i64 y3)) (by simp only [ne_eq, oiQ]; omega)
 have rr3 := r3.set 7 (.int .i64 y3)
 have hBB3 : B ≤ (w3.setCell ⟨w.heap.size + 1, 7, none⟩ (.int .i64 y3)).heap.size := ntQ hB nn3.grown.size
 have hl3 : Hid (l3.length ≤ 60000) := by
  show _ ≤ _
  have h1 := hl2.out
  have h2 := pInt_less (by omega) _ _ _ hq3
  omega
 have hC4 := rint R (w3.setCell ⟨w.heap.size + 1, 7, none⟩ (.int .i64 y3)) l3 nn3.rdr 4 (by omega) (by omega)
 go_wp2_with (go_at_call 96; refine hC4.mono ?_; intro e w4 hP; obtain ⟨v4, rfl, hg4, hw4⟩ := hP.got hq4; refine Hid.out ?_)
 refine hid ?_
 subst hg4
 have x4 := xx3.grown hw4.grown (by simp only [ne_eq, oiQ]; omega)
 have r4 := rr3.grown hw4.grown (by simp only [ne_eq, oiQ]; omega)
 have n4 : Went R w w4 l4 := (nn3).trans hw4
 have c4 := r4.cell (j := 8) rfl
 have z4 := r4.frz 8
 clear hC4 hP
 have nn4 : Went R w (w4.setCell ⟨w.heap.size + 1, 8, none⟩ (.int .i64 y4)) l4 := n4.row (grown_at _ _ _ _) (fun g hg => by injection hg with hg; omega) hRlt
 have xx4 := x4.grown (grown_at w4 (w.heap.size + 1) 8 (.int .i64 y4)) (by simp only [ne_eq, oiQ]; omega)
 have rr4 := r4.set 8 (.int .i64 y4)
 have hBB4 : B ≤ (w4.setCell ⟨w.heap.size + 1, 8, none⟩ (.int .i64 y4)).heap.size := ntQ hB nn4.grown.size
 have hl4 : Hid (l4.length ≤ 60000) := by
  show _ ≤ _
  have h1 := hl3.out
  have h2 := pInt_less (by omega) _ _ _ hq4
  omega
 have hC5 := readAll_ent R B 98 pEnt 4 (by omega) (by omega) (fun _ _ => rfl) (readEntry_any R B hRB) pEnt_less (w4.setCell ⟨w.heap.size + 1, 8, none⟩ (.int .i64 y4)) l4 hBB4 nn4.rdr hl4.out
 go_wp2_with (go_at_call 97; refine hC5.mono ?_; intro e w5 hP; obtain ⟨⟨m, rfl⟩, hgr⟩ := hP.miss hq5)
 exact ⟨rfl, PostX.none (by simp [pRec, pBody, hq1, hq2, hq3, hq4, hq5]) (grown_trans (nn4).grown hgr)⟩

theorem rr_7_0 (R B : Nat) (hRB : R < B) (w : World) (l : List UInt8) (hB : B ≤ w.heap.size) (hR : RdL R w l) (hl : l.length ≤ 60000) {l1 : List UInt8} (hq1 : pInt 1 l = some (7, l1)) {y2 : Int} {l2 : List UInt8} (hq2 : pInt 4 l1 = some (y2, l2)) {y3 : Int} {l3 : List UInt8} (hq3 : pInt 4 l2 = some (y3, l3)) {y4 : Int} {l4 : List UInt8} (hq4 : pInt 4 l3 = some (y4, l4)) {y5 : List PEnt} {l5 : List UInt8} (hq5 : pAll 4 pEnt l4 = some (y5, l5)) :
  Calls Tryz.prog 72 #[.pointer (some ⟨R, 0, none⟩)] w fun e w' => PostX R w (pRec l) (fun y v w' => ∃ r, v = rcV r ∧ pr r = y ∧ RcOwn B w' r) e w' := by
 obtain ⟨W0, HW, hRlt, hx0, hr0, hW0, hB0⟩ := rr_start R B w l hB hR
 clear hR
 have Q1 : Hid (_ = _) := hq1
 have Q2 : Hid (_ = _) := hq2
 have Q3 : Hid (_ = _) := hq3
 have Q4 : Hid (_ = _) := hq4
 have Q5 : Hid (_ = _) := hq5
 have HL0 : Hid (l.length ≤ 60000) := hl
 have hC1 := ru8 R W0 l hW0.rdr
 go_enter Tryz.func72, Tryz.ntmps72
 go_wp2_with fail
 rw [HW.out]
 refine hC1.mono ?_
 intro e w1 hP
 obtain ⟨v1, rfl, hg1, hw1⟩ := hP.got hq1
 subst hg1
 have x1 := hx0.grown hw1.grown (by simp only [ne_eq, oiQ]; omega)
 have r1 := hr0.grown hw1.grown (by simp only [ne_eq, oiQ]; omega)
 have n1 : Went R w w1 l1 := (hW0).trans hw1
 have c1 := r1.cell (j := 0) rfl
 have z1 := r1.frz 0
 clear hC1 hP
 have nn1 : Went R w (w1.setCell ⟨w.heap.size + 1, 0, none⟩ (.int .u8 7)) l1 := n1.row (grown_at _ _ _ _) (fun g hg => by injection hg with hg; omega) hRlt
 have xx1 := x1.grown (grown_at w1 (w.heap.size + 1) 0 (.int .u8 7)) (by simp only [ne_eq, oiQ]; omega)
 have rr1 := r1.set 0 (.int .u8 7)
 have hBB1 : B ≤ (w1.setCell ⟨w.heap.size + 1, 0, none⟩ (.int .u8 7)).heap.size := ntQ hB nn1.grown.size
 have hl1 : Hid (l1.length ≤ 60000) := by
  show _ ≤ _
  have h1 := HL0.out
  have h2 := pInt_less (by omega) _ _ _ hq1
  omega
 have hC2 := ru32 R (w1.setCell ⟨w.heap.size + 1, 0, none⟩ (.int .u8 7)) l1 nn1.rdr 4 (by omega) (by omega)
 go_wp2_with (go_at_call 89; refine hC2.mono ?_; intro e w2 hP; obtain ⟨v2, rfl, hg2, hw2⟩ := hP.got hq2; refine Hid.out ?_)
 refine hid ?_
 subst hg2
 have x2 := xx1.grown hw2.grown (by simp only [ne_eq, oiQ]; omega)
 have r2 := rr1.grown hw2.grown (by simp only [ne_eq, oiQ]; omega)
 have n2 : Went R w w2 l2 := (nn1).trans hw2
 have c2 := r2.cell (j := 1) rfl
 have z2 := r2.frz 1
 have ck := r2.cell (j := 0) rfl
 clear hC2 hP
 have nn2 : Went R w (w2.setCell ⟨w.heap.size + 1, 1, none⟩ (.int .u32 y2)) l2 := n2.row (grown_at _ _ _ _) (fun g hg => by injection hg with hg; omega) hRlt
 have xx2 := x2.grown (grown_at w2 (w.heap.size + 1) 1 (.int .u32 y2)) (by simp only [ne_eq, oiQ]; omega)
 have rr2 := r2.set 1 (.int .u32 y2)
 have hBB2 : B ≤ (w2.setCell ⟨w.heap.size + 1, 1, none⟩ (.int .u32 y2)).heap.size := ntQ hB nn2.grown.size
 have hl2 : Hid (l2.length ≤ 60000) := by
  show _ ≤ _
  have h1 := hl1.out
  have h2 := pInt_less (by omega) _ _ _ hq2
  omega
 have hC3 := rint R (w2.setCell ⟨w.heap.size + 1, 1, none⟩ (.int .u32 y2)) l2 nn2.rdr 4 (by omega) (by omega)
 go_wp2_with (go_at_call 96; refine hC3.mono ?_; intro e w3 hP; obtain ⟨v3, rfl, hg3, hw3⟩ := hP.got hq3; refine Hid.out ?_)
 refine hid ?_
 subst hg3
 have x3 := xx2.grown hw3.grown (by simp only [ne_eq, oiQ]; omega)
 have r3 := rr2.grown hw3.grown (by simp only [ne_eq, oiQ]; omega)
 have n3 : Went R w w3 l3 := (nn2).trans hw3
 have c3 := r3.cell (j := 7) rfl
 have z3 := r3.frz 7
 clear hC3 hP
 have nn3 : Went R w (w3.setCell ⟨w.heap.size + 1, 7, none⟩ (.int .i64 y3)) l3 := n3.row (grown_at _ _ _ _) (fun g hg => by injection hg with hg; omega) hRlt
 have xx3 := x3.grown (grown_at w3 (w.heap.size + 1) 7 (.int .i64 y3)) (by simp only [ne_eq, oiQ]; omega)
 have rr3 := r3.set 7 (.int .i64 y3)
 have hBB3 : B ≤ (w3.setCell ⟨w.heap.size + 1, 7, none⟩ (.int .i64 y3)).heap.size := ntQ hB nn3.grown.size
 have hl3 : Hid (l3.length ≤ 60000) := by
  show _ ≤ _
  have h1 := hl2.out
  have h2 := pInt_less (by omega) _ _ _ hq3
  omega
 have hC4 := rint R (w3.setCell ⟨w.heap.size + 1, 7, none⟩ (.int .i64 y3)) l3 nn3.rdr 4 (by omega) (by omega)
 go_wp2_with (go_at_call 96; refine hC4.mono ?_; intro e w4 hP; obtain ⟨v4, rfl, hg4, hw4⟩ := hP.got hq4; refine Hid.out ?_)
 refine hid ?_
 subst hg4
 have x4 := xx3.grown hw4.grown (by simp only [ne_eq, oiQ]; omega)
 have r4 := rr3.grown hw4.grown (by simp only [ne_eq, oiQ]; omega)
 have n4 : Went R w w4 l4 := (nn3).trans hw4
 have c4 := r4.cell (j := 8) rfl
 have z4 := r4.frz 8
 clear hC4 hP
 have nn4 : Went R w (w4.setCell ⟨w.heap.size + 1, 8, none⟩ (.int .i64 y4)) l4 := n4.row (grown_at _ _ _ _) (fun g hg => by injection hg with hg; omega) hRlt
 have xx4 := x4.grown (grown_at w4 (w.heap.size + 1) 8 (.int .i64 y4)) (by simp only [ne_eq, oiQ]; omega)
 have rr4 := r4.set 8 (.int .i64 y4)
 have hBB4 : B ≤ (w4.setCell ⟨w.heap.size + 1, 8, none⟩ (.int .i64 y4)).heap.size := ntQ hB nn4.grown.size
 have hl4 : Hid (l4.length ≤ 60000) := by
  show _ ≤ _
  have h1 := hl3.out
  have h2 := pInt_less (by omega) _ _ _ hq4
  omega
 have hC5 := readAll_ent R B 98 pEnt 4 (by omega) (by omega) (fun _ _ => rfl) (readEntry_any R B hRB) pEnt_less (w4.setCell ⟨w.heap.size + 1, 8, none⟩ (.int .i64 y4)) l4 hBB4 nn4.rdr hl4.out
 go_wp2_with (go_at_call 97; refine hC5.mono ?_; intro e w5 hP; obtain ⟨v5, rfl, hg5, hw5⟩ := hP.got hq5; refine Hid.out ?_)
 refine hid ?_
 obtain ⟨es5, hes5, hg5⟩ := hg5
 obtain ⟨ea5, ec5, hkv⟩ := es_form hg5
 subst hkv
 subst hes5
 have x5 := xx4.grown hw5.grown (by simp only [ne_eq, oiQ]; omega)
 have r5 := rr4.grown hw5.grown (by simp only [ne_eq, oiQ]; omega)
 have n5 : Went R w w5 l5 := (nn4).trans hw5
 have o5 := hg5
 clear hg5
 have c5 := r5.cell (j := 9) rfl
 have z5 := r5.frz 9
 clear hC5 hP
 have nn5 : Went R w (w5.setCell ⟨w.heap.size + 1, 9, none⟩ (.slice ea5 es5.length ec5)) l5 := n5.row (grown_at _ _ _ _) (fun g hg => by injection hg with hg; omega) hRlt
 have xx5 := x5.grown (grown_at w5 (w.heap.size + 1) 9 (.slice ea5 es5.length ec5)) (by simp only [ne_eq, oiQ]; omega)
 have rr5 := r5.set 9 (.slice ea5 es5.length ec5)
 have o5 := o5.far (grown_at w5 (w.heap.size + 1) 9 (.slice ea5 es5.length ec5)) (r5.far (by decide)) (r5.far (by decide)) (r5.far (by decide))
 have hBB5 : B ≤ (w5.setCell ⟨w.heap.size + 1, 9, none⟩ (.slice ea5 es5.length ec5)).heap.size := ntQ hB nn5.grown.size
 have hl5 : Hid (l5.length ≤ 60000) := by
  show _ ≤ _
  have h1 := hl4.out
  have h2 := pEnts_less _ _ _ hq5
  omega
 have cr0 := r5.cell (j := 0) rfl
 have cx0 := x5.cell (j := 0) rfl
 have zx0 := x5.frz 0
 have cr1 := r5.cell (j := 1) rfl
 have cx1 := x5.cell (j := 1) rfl
 have zx1 := x5.frz 1
 have cr2 := r5.cell (j := 2) rfl
 have cx2 := x5.cell (j := 2) rfl
 have zx2 := x5.frz 2
 have cr3 := r5.cell (j := 3) rfl
 have cx3 := x5.cell (j := 3) rfl
 have zx3 := x5.frz 3
 have cr4 := r5.cell (j := 4) rfl
 have cx4 := x5.cell (j := 4) rfl
 have zx4 := x5.frz 4
 have cr5 := r5.cell (j := 5) rfl
 have cx5 := x5.cell (j := 5) rfl
 have zx5 := x5.frz 5
 have cr6 := r5.cell (j := 6) rfl
 have cx6 := x5.cell (j := 6) rfl
 have zx6 := x5.frz 6
 have cr7 := r5.cell (j := 7) rfl
 have cx7 := x5.cell (j := 7) rfl
 have zx7 := x5.frz 7
 have cr8 := r5.cell (j := 8) rfl
 have cx8 := x5.cell (j := 8) rfl
 have zx8 := x5.frz 8
 have cr9 := r5.cell (j := 9) rfl
 have cx9 := x5.cell (j := 9) rfl
 have zx9 := x5.frz 9
 have HF : Aside (∀ W, ((w5.setCell ⟨w.heap.size + 1, 9, none⟩ (.slice ea5 es5.length ec5))).grownBy W (some w.heap.size) → PostX R w (pRec l) (fun y v w' => ∃ r, v = rcV r ∧ pr r = y ∧ RcOwn B w' r) (.returned (.agg #[.int .u8 7, .int .u32 y2, .int .u32 0, .slice none 0 0, .slice none 0 0, .int .u32 0, .slice none 0 0, .int .i64 y3, .int .i64 y4, .slice ea5 es5.length ec5])) W) := fun W hG => by
  have hO : RcOwn B ((w5.setCell ⟨w.heap.size + 1, 9, none⟩ (.slice ea5 es5.length ec5))) ⟨7, y2, 0, none, 0, [], none, 0, [], 0, none, 0, [], y3, y4, ea5, ec5, es5⟩ := ⟨pu8 Q1.out, pu32 Q2.out, u32_nought, ns_nil _ _, fs_nil _ _, u32_nought, ss_nil _ _, pi64 Q3.out, pi64 Q4.out, o5⟩
  refine PostX.some (y := pr ⟨7, y2, 0, none, 0, [], none, 0, [], 0, none, 0, [], y3, y4, ea5, ec5, es5⟩) (l' := l5) ?_ ⟨⟨7, y2, 0, none, 0, [], none, 0, [], 0, none, 0, [], y3, y4, ea5, ec5, es5⟩, rfl, rfl, hO.far hG (xx5.far (by decide)) (xx5.far (by decide)) (xx5.far (by decide)) (xx5.far (by decide))⟩ ((nn5).row hG (fun g hg => by injection hg with hg; omega) hRlt)
  simp [pRec, pBody, hq1, hq2, hq3, hq4, hq5, pr]
 clear nn1 xx1 rr1 n1 x1 r1 hw1 hBB1 nn2 xx2 rr2 n2 x2 r2 hw2 hBB2 nn3 xx3 rr3 n3 x3 r3 hw3 hBB3 nn4 xx4 rr4 n4 x4 r4 hw4 hBB4 nn5 xx5 rr5 n5 x5 r5 hw5 hBB5 hx0 hr0 hW0 o5 hq1 hq2 hq3 hq4 hq5
 go_wp2
 refine bodyPost_ret (v := .agg #[.int .u8 7, .int .u32 y2, .int .u32 0, .slice none 0 0, .slice none 0 0, .int .u32 0, .slice none 0 0, .int .i64 y3, .int .i64 y4, .slice ea5 es5.length ec5]) (by simp [results, Tryz.results72, go_sem, *]) rfl (HF.out _ ?_)
 iterate 9 (refine grown_trans ?_ (grown_at _ _ _ _))
 exact grown_at _ _ _ _
theorem readRec_any (R B : Nat) (hRB : R < B) : Reads R B 72 pRec (fun y v w' => ∃ r, v = rcV r ∧ pr r = y ∧ RcOwn B w' r) := by
 intro w l hB hR hl
 cases hq1 : pInt 1 l with
 | none => exact rr_0_1 R B hRB w l hB hR hl hq1
 | some q =>
  obtain ⟨k, l1⟩ := q
  cases hq2 : pInt 4 l1 with
  | none => exact rr_0_2 R B hRB w l hB hR hl hq1 hq2
  | some q =>
   obtain ⟨id, l2⟩ := q
   by_cases k1 : k = 1
   ·subst k1
    cases hq3 : pAll 1 (pInt 1) l2 with
    | none => exact rr_1_3 R B hRB w l hB hR hl hq1 hq2 hq3
    | some q3 =>
     obtain ⟨z3, l3⟩ := q3
     cases hq4 : pAll 4 pFact l3 with
     | none => exact rr_1_4 R B hRB w l hB hR hl hq1 hq2 hq3 hq4
     | some q4 =>
      obtain ⟨z4, l4⟩ := q4
      exact rr_1_0 R B hRB w l hB hR hl hq1 hq2 hq3 hq4
   by_cases k2 : k = 2
   ·subst k2
    cases hq3 : pInt 4 l2 with
    | none => exact rr_2_3 R B hRB w l hB hR hl hq1 hq2 hq3
    | some q3 =>
     obtain ⟨z3, l3⟩ := q3
     cases hq4 : pAll 1 (pInt 1) l3 with
     | none => exact rr_2_4 R B hRB w l hB hR hl hq1 hq2 hq3 hq4
     | some q4 =>
      obtain ⟨z4, l4⟩ := q4
      exact rr_2_0 R B hRB w l hB hR hl hq1 hq2 hq3 hq4
   by_cases k6 : k = 6
   ·subst k6
    cases hq3 : pInt 4 l2 with
    | none => exact rr_6_3 R B hRB w l hB hR hl hq1 hq2 hq3
    | some q3 =>
     obtain ⟨z3, l3⟩ := q3
     cases hq4 : pAll 1 pSpan l3 with
     | none => exact rr_6_4 R B hRB w l hB hR hl hq1 hq2 hq3 hq4
     | some q4 =>
      obtain ⟨z4, l4⟩ := q4
      exact rr_6_0 R B hRB w l hB hR hl hq1 hq2 hq3 hq4
   by_cases k7 : k = 7
   ·subst k7
    cases hq3 : pInt 4 l2 with
    | none => exact rr_7_3 R B hRB w l hB hR hl hq1 hq2 hq3
    | some q3 =>
     obtain ⟨z3, l3⟩ := q3
     cases hq4 : pInt 4 l3 with
     | none => exact rr_7_4 R B hRB w l hB hR hl hq1 hq2 hq3 hq4
     | some q4 =>
      obtain ⟨z4, l4⟩ := q4
      cases hq5 : pAll 4 pEnt l4 with
      | none => exact rr_7_5 R B hRB w l hB hR hl hq1 hq2 hq3 hq4 hq5
      | some q5 =>
       obtain ⟨z5, l5⟩ := q5
       exact rr_7_0 R B hRB w l hB hR hl hq1 hq2 hq3 hq4 hq5
   exact rr_0_0 R B hRB w l hB hR hl hq1 hq2 (by simpa using k1) (by simpa using k2) (by simpa using k6) (by simpa using k7)
end code
end Go.Proofs.YtlcjllgfpfldlaaGreat
