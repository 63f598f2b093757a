/-
  The chapter's reader: a record.
  The chapter's reader: a record of kind 6, and of any kind.
-/
import Derived.Test.YtlokamblbhooaaaCodeBxE
import Derived.Test.YtlokamblbhooaaaCodeReadRec
namespace Go.Proofs.Ytlokamblbhooaaa.code
open Go.ChangeShapes Go.WideShapes Go.ChangeAt Go.RowKit Go.Deep
open Go.Proofs.Ytlokamblbhooaaa.dims (nth Ints cell_lt vals vals_len vals_get vals_one vals_app own_below own_mono own_out own_apart RowOut ret_bool ret_int)
set_option linter.unusedVariables false
set_option maxRecDepth 100000
set_option linter.unusedSimpArgs false


theorem rdInt_get {k : Nat} {s s' : Rd} {y : Int} (h : rdInt k s = (y, s')) : ((rdGet k s).1 : Int) = y ∧ (rdGet k s).2 = s' := by
  unfold rdInt at h
  exact ⟨congrArg Prod.fst h, congrArg Prod.snd h⟩
theorem int_rd (R k : Nat) (w : World) (s : Rd) (h : BxL R w s) (h1 : 1 ≤ k) (h8 : k ≤ 8) {y : Int} {s' : Rd} (hq : rdInt k s = (y, s')) :
    Calls Try.prog 68 #[.pointer (some ⟨R, 0, none⟩), .int .i64 k] w fun e w' => e = .returned (.int .u64 y) ∧ Wb R w w' s' := by
  obtain ⟨e1, e2⟩ := rdInt_get hq
  rw [← e1, ← e2]
  exact get_any R k w s h h1 h8
theorem rd_u32 {k : Nat} {s s' : Rd} {y : Int} (h : rdInt k s = (y, s')) (h4 : k ≤ 4) : U32 y := by
  obtain ⟨e1, e2⟩ := rdInt_get h
  have := rdGet_lt4 s h4
  unfold U32; omega
theorem rd_u8 {s s' : Rd} {y : Int} (h : rdInt 1 s = (y, s')) : 0 ≤ y ∧ y ≤ 255 := by
  obtain ⟨e1, e2⟩ := rdInt_get h
  have h2 : (rdGet 1 s).1 < 256 := by
    unfold rdGet
    split
    · simp
    · have h2 := valB_lt (s.1.take 1)
      have h3 : 256 ^ (s.1.take 1).length ≤ 256 ^ 1 := Nat.pow_le_pow_right (by omega) (by rw [List.length_take]; omega)
      simp only; omega
  omega
theorem rd_len {k : Nat} {s s' : Rd} {y : Int} (h : rdInt k s = (y, s')) : s'.1.length ≤ s.1.length := by
  obtain ⟨e1, e2⟩ := rdInt_get h
  rw [← e2]
  exact rdGet_len k s
theorem rdNodes_len (s : Rd) : (rdNodes s).2.1.length ≤ s.1.length := Nat.le_trans (rdTimes_len (p := rdInt 1) (fun s => rdGet_len 1 s) _ _) (rdMany_len 1 1 s)
theorem i64_u32 {y : Int} (h : U32 y) : I64 y := by unfold U32 at h; unfold I64; omega
theorem w64_u32 {y : Int} (h : U32 y) : wrap64 y = y := by unfold U32 at h; unfold wrap64; omega
theorem mod_u32 {y : Int} (h : U32 y) : y % 4294967296 = y := by unfold U32 at h; omega
theorem mod_u8 {y : Int} (h : 0 ≤ y ∧ y ≤ 255) : y % 256 = y := by omega
/-- a record that was read -/
def RcRes (B : Nat) (y : PRec) (v : Value) (W : World) : Prop := ∃ r, v = rcV r ∧ pr r = y ∧ RcOwn B W r
/-- a record in a variable while it is read; the result's own variable is as it was made -/
structure XR (R : Nat) (w : World) (r : Rc) (s : Rd) (W : World) : Prop where
  zx : Boxed W w.heap.size #[.int .u8 0, .int .u32 0, .int .u32 0, .slice none 0 0, .slice none 0 0, .int .u32 0, .slice none 0 0, .int .i64 0, .int .i64 0, .slice none 0 0] 30
  bx : Boxed W (w.heap.size + 1) (rcC r) 30
  own : RcOwn w.heap.size W r
  wb : Wb R w W s
theorem XR.start {R : Nat} {w : World} {s : Rd} (h : BxL R w s) : XR R w ⟨0, 0, 0, none, 0, [], none, 0, [], 0, none, 0, [], 0, 0, none, 0, []⟩ s ((w.alloc (.cells #[.int .u8 0, .int .u32 0, .int .u32 0, .slice none 0 0, .slice none 0 0, .int .u32 0, .slice none 0 0, .int .i64 0, .int .i64 0, .slice none 0 0] 30)).alloc (.cells #[.int .u8 0, .int .u32 0, .int .u32 0, .slice none 0 0, .slice none 0 0, .int .u32 0, .slice none 0 0, .int .i64 0, .int .i64 0, .slice none 0 0] 30)) :=
  ⟨(Boxed.new w _ _).below ((Below.refl _ _).alloc (Nat.le_refl _) _), (by show Boxed _ _ #[.int .u8 0, .int .u32 0, .int .u32 0, .slice none 0 0, .slice none 0 0, .int .u32 0, .slice none 0 0, .int .i64 0, .int .i64 0, .slice none 0 0] _; have := Boxed.new (w.alloc (.cells #[.int .u8 0, .int .u32 0, .int .u32 0, .slice none 0 0, .slice none 0 0, .int .u32 0, .slice none 0 0, .int .i64 0, .int .i64 0, .slice none 0 0] 30)) #[.int .u8 0, .int .u32 0, .int .u32 0, .slice none 0 0, .slice none 0 0, .int .u32 0, .slice none 0 0, .int .i64 0, .int .i64 0, .slice none 0 0] 30; simpa using this), ⟨by simp, u32_nought, u32_nought, ns_nil _ _, fs_nil _ _, u32_nought, ss_nil _ _, i64_nought, i64_nought, es_nil _ _⟩, Wb.start h (by (repeat (first | with_reducible exact Below.refl _ _ | (with_reducible refine Below.drew ?_) | (with_reducible refine Below.alloc ?_ (by first | omega | (simp; done) | (simp; omega)) _) | (with_reducible refine Below.setCell ?_ (by first | exact Nat.le_refl _ | omega | (simp; done) | (simp; omega)) _))))⟩
theorem XR.moved {R : Nat} {w W W' : World} {r : Rc} {s s' : Rd} (h : XR R w r s W) (hR : R < w.heap.size) (g : Wb R W W' s') : XR R w r s' W' :=
  ⟨h.zx.grown g.grown (by simp only [ne_eq, Option.some.injEq]; omega), h.bx.grown g.grown (by simp only [ne_eq, Option.some.injEq]; omega), h.own.far g.grown (h.wb.rdr.far (by decide)) (h.wb.rdr.far (by decide)) (h.wb.rdr.far (by decide)) (h.wb.rdr.far (by decide)), h.wb.trans g⟩
theorem XR.far {R : Nat} {w W : World} {r : Rc} {s : Rd} (h : XR R w r s W) (j : Nat) (v : Value) : RcOwn w.heap.size (W.setCell ⟨w.heap.size + 1, j, none⟩ v) r :=
  h.own.far (grown_at _ _ _ _) (h.bx.far (by decide)) (h.bx.far (by decide)) (h.bx.far (by decide)) (h.bx.far (by decide))
theorem XR.set {R : Nat} {w W : World} {r r' : Rc} {s : Rd} (h : XR R w r s W) (hR : R < w.heap.size) (j : Nat) (v : Value) (hc : (rcC r).setIfInBounds j v = rcC r') (ho : RcOwn w.heap.size (W.setCell ⟨w.heap.size + 1, j, none⟩ v) r') : XR R w r' s (W.setCell ⟨w.heap.size + 1, j, none⟩ v) :=
  ⟨h.zx.grown (grown_at _ _ _ _) (by simp only [ne_eq, Option.some.injEq]; omega), by have := h.bx.set j v; rw [hc] at this; exact this, ho, h.wb.row (grown_at _ _ _ _) (fun q hq => by injection hq with hq; omega) hR⟩
theorem XR.fin {R B : Nat} {w W W' : World} {r : Rc} {s : Rd} {y : PRec} (h : XR R w r s W) (hR : R < w.heap.size) (hB : B ≤ w.heap.size) (hy : pr r = y) (hG : W.grownBy W' (some w.heap.size)) : RcRes B y (rcV r) W' ∧ Wb R w W' s := by
  have o := h.own.far hG (h.zx.far (by decide)) (h.zx.far (by decide)) (h.zx.far (by decide)) (h.zx.far (by decide))
  refine ⟨⟨r, rfl, hy, ⟨o.kind, o.id, o.at_, ⟨own_mono o.nodes.own hB, o.nodes.all⟩, o.facts.mono hB, o.epoch, ⟨own_mono o.spans.own hB, o.spans.all⟩, o.frm, o.til, o.ents.mono hB⟩⟩, h.wb.row hG (fun q hq => by injection hq with hq; omega) hR⟩

set_option maxHeartbeats 16000000 in
theorem rec_0 (R B : Nat) (w : World) (s : Rd) (hB : B ≤ w.heap.size) (hR : BxL R w s) (hl : s.1.length ≤ 60000) {y1 : Int} {s1 : Rd} (hq1 : rdInt 1 s = (y1, s1)) {y2 : Int} {s2 : Rd} (hq2 : rdInt 4 s1 = (y2, s2)) (k1 : (y1 == 1) = false) (k2 : (y1 == 2) = false) (k6 : (y1 == 6) = false) (k7 : (y1 == 7) = false) :
    Calls Try.prog 44 #[.pointer (some ⟨R, 0, none⟩)] w fun e w' => ∃ v, e = .returned v ∧ RcRes B (rdRec s).1 v w' ∧ Wb R w w' (rdRec s).2 := by
  have hRlt := hR.lt
  have hX := XR.start hR
  have HB : Aside (B ≤ w.heap.size) := hB
  clear hB hR
  have L1 : Aside (s1.1.length ≤ 60000) := Nat.le_trans (rd_len hq1) hl
  have L2 : Aside (s2.1.length ≤ 60000) := Nat.le_trans (rd_len hq2) L1.out
  have U2 : Aside (U32 y2) := rd_u32 hq2 (by omega)
  have m2 := mod_u32 U2.out
  have Q1 : Hid (_ = _) := hq1
  have Q2 : Hid (_ = _) := hq2
  have U1 : Aside (0 ≤ y1 ∧ y1 ≤ 255) := rd_u8 hq1
  have m1 := mod_u8 U1.out
  have e1 : Hid (¬ y1 = 1) := by show ¬ _; simpa using k1
  have e2 : Hid (¬ y1 = 2) := by show ¬ _; simpa using k2
  have e6 : Hid (¬ y1 = 6) := by show ¬ _; simpa using k6
  have e7 : Hid (¬ y1 = 7) := by show ¬ _; simpa using k7
  have hC := int_rd R 1 _ s hX.wb.rdr (by omega) (by omega) hq1
  have HX0 : Aside (XR R w ⟨0, 0, 0, none, 0, [], none, 0, [], 0, none, 0, [], 0, 0, none, 0, []⟩ s ((w.alloc (.cells #[.int .u8 0, .int .u32 0, .int .u32 0, .slice none 0 0, .slice none 0 0, .int .u32 0, .slice none 0 0, .int .i64 0, .int .i64 0, .slice none 0 0] 30)).alloc (.cells #[.int .u8 0, .int .u32 0, .int .u32 0, .slice none 0 0, .slice none 0 0, .int .u32 0, .slice none 0 0, .int .i64 0, .int .i64 0, .slice none 0 0] 30))) := hX
  clear hX
  go_enter Try.func44, Try.ntmps44
  go_wp2_with (go_at_call 68; refine hC.mono ?_; rintro e w1 ⟨rfl, g1⟩; refine Hid.out ?_)
  refine hid ?_
  have hM := HX0.out.moved hRlt g1
  have cj : w1.cell? ⟨w.heap.size + 1, 0, none⟩ = some (.int .u8 0) := hM.bx.cell (j := 0) rfl
  have zj := hM.bx.frz 0
  have o := hM.far 0 (.int .u8 y1)
  have HX1 : Aside (XR R w ⟨y1, 0, 0, none, 0, [], none, 0, [], 0, none, 0, [], 0, 0, none, 0, []⟩ s1 (w1.setCell ⟨w.heap.size + 1, 0, none⟩ (.int .u8 y1))) := hM.set hRlt 0 (.int .u8 y1) (by first | rfl | simp [rcC]) ⟨U1.out, o.id, o.at_, o.nodes, o.facts, o.epoch, o.spans, o.frm, o.til, o.ents⟩
  clear hM o hC g1 HX0
  go_upto_region 3 with fail
  generalize w1.setCell ⟨w.heap.size + 1, 0, none⟩ (.int .u8 y1) = u1 at HX1 ⊢
  clear cj zj
  have hC := int_rd R 4 u1 s1 HX1.out.wb.rdr (by omega) (by omega) hq2
  go_wp2_with (go_at_call 68; refine hC.mono ?_; rintro e w2 ⟨rfl, g2⟩; refine Hid.out ?_)
  refine hid ?_
  have hM := HX1.out.moved hRlt g2
  have cj : w2.cell? ⟨w.heap.size + 1, 1, none⟩ = some (.int .u32 0) := hM.bx.cell (j := 1) rfl
  have zj := hM.bx.frz 1
  have o := hM.far 1 (.int .u32 y2)
  have HX2 : Aside (XR R w ⟨y1, y2, 0, none, 0, [], none, 0, [], 0, none, 0, [], 0, 0, none, 0, []⟩ s2 (w2.setCell ⟨w.heap.size + 1, 1, none⟩ (.int .u32 y2))) := hM.set hRlt 1 (.int .u32 y2) (by first | rfl | simp [rcC]) ⟨o.kind, U2.out, o.at_, o.nodes, o.facts, o.epoch, o.spans, o.frm, o.til, o.ents⟩
  clear hM o hC g2 HX1
  go_upto_region 4 with fail
  generalize w2.setCell ⟨w.heap.size + 1, 1, none⟩ (.int .u32 y2) = u2 at HX2 ⊢
  clear cj zj
  have ck : u2.cell? ⟨w.heap.size + 1, 0, none⟩ = some (.int .u8 y1) := HX2.out.bx.cell (j := 0) rfl
  have E : Hid (rdRec s = (pr ⟨y1, y2, 0, none, 0, [], none, 0, [], 0, none, 0, [], 0, 0, none, 0, []⟩, s2)) := by show _ = _; simp [rdRec, Q1.out, Q2.out, e1.out, e2.out, e6.out, e7.out, pr]
  have HF : Aside (∀ W, u2.grownBy W (some w.heap.size) → RcRes B (rdRec s).1 (.agg #[.int .u8 y1, .int .u32 y2, .int .u32 0, .slice none 0 0, .slice none 0 0, .int .u32 0, .slice none 0 0, .int .i64 0, .int .i64 0, .slice none 0 0]) W ∧ Wb R w W (rdRec s).2) := fun W hG => by
    rw [E.out]
    exact HX2.out.fin hRlt HB.out rfl hG
  have cr0 : u2.cell? ⟨w.heap.size + 1, 0, none⟩ = some (.int .u8 y1) := HX2.out.bx.cell (j := 0) rfl
  have cx0 := HX2.out.zx.cell (j := 0) rfl
  have zx0 := HX2.out.zx.frz 0
  have cr1 : u2.cell? ⟨w.heap.size + 1, 1, none⟩ = some (.int .u32 y2) := HX2.out.bx.cell (j := 1) rfl
  have cx1 := HX2.out.zx.cell (j := 1) rfl
  have zx1 := HX2.out.zx.frz 1
  have cr2 : u2.cell? ⟨w.heap.size + 1, 2, none⟩ = some (.int .u32 0) := HX2.out.bx.cell (j := 2) rfl
  have cx2 := HX2.out.zx.cell (j := 2) rfl
  have zx2 := HX2.out.zx.frz 2
  have cr3 : u2.cell? ⟨w.heap.size + 1, 3, none⟩ = some (.slice none 0 0) := HX2.out.bx.cell (j := 3) rfl
  have cx3 := HX2.out.zx.cell (j := 3) rfl
  have zx3 := HX2.out.zx.frz 3
  have cr4 : u2.cell? ⟨w.heap.size + 1, 4, none⟩ = some (.slice none 0 0) := HX2.out.bx.cell (j := 4) rfl
  have cx4 := HX2.out.zx.cell (j := 4) rfl
  have zx4 := HX2.out.zx.frz 4
  have cr5 : u2.cell? ⟨w.heap.size + 1, 5, none⟩ = some (.int .u32 0) := HX2.out.bx.cell (j := 5) rfl
  have cx5 := HX2.out.zx.cell (j := 5) rfl
  have zx5 := HX2.out.zx.frz 5
  have cr6 : u2.cell? ⟨w.heap.size + 1, 6, none⟩ = some (.slice none 0 0) := HX2.out.bx.cell (j := 6) rfl
  have cx6 := HX2.out.zx.cell (j := 6) rfl
  have zx6 := HX2.out.zx.frz 6
  have cr7 : u2.cell? ⟨w.heap.size + 1, 7, none⟩ = some (.int .i64 0) := HX2.out.bx.cell (j := 7) rfl
  have cx7 := HX2.out.zx.cell (j := 7) rfl
  have zx7 := HX2.out.zx.frz 7
  have cr8 : u2.cell? ⟨w.heap.size + 1, 8, none⟩ = some (.int .i64 0) := HX2.out.bx.cell (j := 8) rfl
  have cx8 := HX2.out.zx.cell (j := 8) rfl
  have zx8 := HX2.out.zx.frz 8
  have cr9 : u2.cell? ⟨w.heap.size + 1, 9, none⟩ = some (.slice none 0 0) := HX2.out.bx.cell (j := 9) rfl
  have cx9 := HX2.out.zx.cell (j := 9) rfl
  have zx9 := HX2.out.zx.frz 9
  clear HX2 E
  go_wp2
  refine bodyPost_ret (v := .agg #[.int .u8 y1, .int .u32 y2, .int .u32 0, .slice none 0 0, .slice none 0 0, .int .u32 0, .slice none 0 0, .int .i64 0, .int .i64 0, .slice none 0 0]) (by simp [results, Try.results44, go_sem, *]) rfl ?_
  refine ⟨_, rfl, HF.out _ ?_⟩
  iterate 9 (refine grown_trans ?_ (grown_at _ _ _ _))
  exact grown_at _ _ _ _
set_option maxHeartbeats 16000000 in
theorem rec_1 (R B : Nat) (w : World) (s : Rd) (hB : B ≤ w.heap.size) (hR : BxL R w s) (hl : s.1.length ≤ 60000) {s1 : Rd} (hq1 : rdInt 1 s = (1, s1)) {y2 : Int} {s2 : Rd} (hq2 : rdInt 4 s1 = (y2, s2)) :
    Calls Try.prog 44 #[.pointer (some ⟨R, 0, none⟩)] w fun e w' => ∃ v, e = .returned v ∧ RcRes B (rdRec s).1 v w' ∧ Wb R w w' (rdRec s).2 := by
  have hRlt := hR.lt
  have hX := XR.start hR
  have HB : Aside (B ≤ w.heap.size) := hB
  clear hB hR
  have L1 : Aside (s1.1.length ≤ 60000) := Nat.le_trans (rd_len hq1) hl
  have L2 : Aside (s2.1.length ≤ 60000) := Nat.le_trans (rd_len hq2) L1.out
  have U2 : Aside (U32 y2) := rd_u32 hq2 (by omega)
  have m2 := mod_u32 U2.out
  have Q1 : Hid (_ = _) := hq1
  have Q2 : Hid (_ = _) := hq2
  have hC := int_rd R 1 _ s hX.wb.rdr (by omega) (by omega) hq1
  have HX0 : Aside (XR R w ⟨0, 0, 0, none, 0, [], none, 0, [], 0, none, 0, [], 0, 0, none, 0, []⟩ s ((w.alloc (.cells #[.int .u8 0, .int .u32 0, .int .u32 0, .slice none 0 0, .slice none 0 0, .int .u32 0, .slice none 0 0, .int .i64 0, .int .i64 0, .slice none 0 0] 30)).alloc (.cells #[.int .u8 0, .int .u32 0, .int .u32 0, .slice none 0 0, .slice none 0 0, .int .u32 0, .slice none 0 0, .int .i64 0, .int .i64 0, .slice none 0 0] 30))) := hX
  clear hX
  go_enter Try.func44, Try.ntmps44
  go_wp2_with (go_at_call 68; refine hC.mono ?_; rintro e w1 ⟨rfl, g1⟩; refine Hid.out ?_)
  refine hid ?_
  have hM := HX0.out.moved hRlt g1
  have cj : w1.cell? ⟨w.heap.size + 1, 0, none⟩ = some (.int .u8 0) := hM.bx.cell (j := 0) rfl
  have zj := hM.bx.frz 0
  have o := hM.far 0 (.int .u8 1)
  have HX1 : Aside (XR R w ⟨1, 0, 0, none, 0, [], none, 0, [], 0, none, 0, [], 0, 0, none, 0, []⟩ s1 (w1.setCell ⟨w.heap.size + 1, 0, none⟩ (.int .u8 1))) := hM.set hRlt 0 (.int .u8 1) (by first | rfl | simp [rcC]) ⟨by simp, o.id, o.at_, o.nodes, o.facts, o.epoch, o.spans, o.frm, o.til, o.ents⟩
  clear hM o hC g1 HX0
  go_upto_region 3 with fail
  generalize w1.setCell ⟨w.heap.size + 1, 0, none⟩ (.int .u8 1) = u1 at HX1 ⊢
  clear cj zj
  have hC := int_rd R 4 u1 s1 HX1.out.wb.rdr (by omega) (by omega) hq2
  go_wp2_with (go_at_call 68; refine hC.mono ?_; rintro e w2 ⟨rfl, g2⟩; refine Hid.out ?_)
  refine hid ?_
  have hM := HX1.out.moved hRlt g2
  have cj : w2.cell? ⟨w.heap.size + 1, 1, none⟩ = some (.int .u32 0) := hM.bx.cell (j := 1) rfl
  have zj := hM.bx.frz 1
  have o := hM.far 1 (.int .u32 y2)
  have HX2 : Aside (XR R w ⟨1, y2, 0, none, 0, [], none, 0, [], 0, none, 0, [], 0, 0, none, 0, []⟩ s2 (w2.setCell ⟨w.heap.size + 1, 1, none⟩ (.int .u32 y2))) := hM.set hRlt 1 (.int .u32 y2) (by first | rfl | simp [rcC]) ⟨o.kind, U2.out, o.at_, o.nodes, o.facts, o.epoch, o.spans, o.frm, o.til, o.ents⟩
  clear hM o hC g2 HX1
  go_upto_region 4 with fail
  generalize w2.setCell ⟨w.heap.size + 1, 1, none⟩ (.int .u32 y2) = u2 at HX2 ⊢
  clear cj zj
  have ck : u2.cell? ⟨w.heap.size + 1, 0, none⟩ = some (.int .u8 1) := HX2.out.bx.cell (j := 0) rfl
  have hC := nodes_rd R w.heap.size u2 s2 HX2.out.wb.grown.size HX2.out.wb.rdr L2.out
  go_wp2_with (go_at_call 69; refine hC.mono ?_; rintro e w3 ⟨v, rfl, hn, g3⟩; refine Hid.out ?_)
  refine hid ?_
  obtain ⟨na, nc, hv⟩ := ns_form hn
  subst hv
  have L3 : Aside ((rdNodes s2).2.1.length ≤ 60000) := Nat.le_trans (rdNodes_len s2) L2.out
  have hM := HX2.out.moved hRlt g3
  have cj : w3.cell? ⟨w.heap.size + 1, 3, none⟩ = some (.slice none 0 0) := hM.bx.cell (j := 3) rfl
  have zj := hM.bx.frz 3
  have o := hM.far 3 (.slice na (rdNodes s2).1.length nc)
  have HX3 : Aside (XR R w ⟨1, y2, 0, na, nc, (rdNodes s2).1, none, 0, [], 0, none, 0, [], 0, 0, none, 0, []⟩ (rdNodes s2).2 (w3.setCell ⟨w.heap.size + 1, 3, none⟩ (.slice na (rdNodes s2).1.length nc))) := hM.set hRlt 3 (.slice na (rdNodes s2).1.length nc) (by first | rfl | simp [rcC]) ⟨o.kind, o.id, o.at_, hn.far (grown_at _ _ _ _) (hM.bx.far (by decide)), o.facts, o.epoch, o.spans, o.frm, o.til, o.ents⟩
  clear hM o hC g3 HX2
  go_upto_region 7 with fail
  generalize w3.setCell ⟨w.heap.size + 1, 3, none⟩ (.slice na (rdNodes s2).1.length nc) = u3 at HX3 ⊢
  clear cj zj
  clear hn
  have hC := facts_rd R w.heap.size u3 _ HX3.out.wb.grown.size HX3.out.wb.rdr L3.out
  go_wp2_with (go_at_call 70; refine hC.mono ?_; rintro e w4 ⟨v, rfl, hn, g4⟩; refine Hid.out ?_)
  refine hid ?_
  obtain ⟨os, ho, he⟩ := hn
  obtain ⟨fa, fc, hv⟩ := fs_form ho
  subst hv
  have HE : Hid (os.map pf = (rdFacts (rdNodes s2).2).1) := he
  have hM := HX3.out.moved hRlt g4
  have cj : w4.cell? ⟨w.heap.size + 1, 4, none⟩ = some (.slice none 0 0) := hM.bx.cell (j := 4) rfl
  have zj := hM.bx.frz 4
  have o := hM.far 4 (.slice fa os.length fc)
  have HX4 : Aside (XR R w ⟨1, y2, 0, na, nc, (rdNodes s2).1, fa, fc, os, 0, none, 0, [], 0, 0, none, 0, []⟩ (rdFacts (rdNodes s2).2).2 (w4.setCell ⟨w.heap.size + 1, 4, none⟩ (.slice fa os.length fc))) := hM.set hRlt 4 (.slice fa os.length fc) (by first | rfl | simp [rcC]) ⟨o.kind, o.id, o.at_, o.nodes, ho.far (grown_at _ _ _ _) (hM.bx.far (by decide)) (hM.bx.far (by decide)), o.epoch, o.spans, o.frm, o.til, o.ents⟩
  clear hM o hC g4 HX3
  go_upto_region 25 with fail
  generalize w4.setCell ⟨w.heap.size + 1, 4, none⟩ (.slice fa os.length fc) = u4 at HX4 ⊢
  clear cj zj
  clear ho he
  have E : Hid (rdRec s = (pr ⟨1, y2, 0, na, nc, (rdNodes s2).1, fa, fc, os, 0, none, 0, [], 0, 0, none, 0, []⟩, (rdFacts (rdNodes s2).2).2)) := by show _ = _; simp [rdRec, Q1.out, Q2.out, pr, HE.out]
  have HF : Aside (∀ W, u4.grownBy W (some w.heap.size) → RcRes B (rdRec s).1 (.agg #[.int .u8 1, .int .u32 y2, .int .u32 0, .slice na ((rdNodes s2).1 : List _).length nc, .slice fa (os : List _).length fc, .int .u32 0, .slice none 0 0, .int .i64 0, .int .i64 0, .slice none 0 0]) W ∧ Wb R w W (rdRec s).2) := fun W hG => by
    rw [E.out]
    exact HX4.out.fin hRlt HB.out rfl hG
  have cr0 : u4.cell? ⟨w.heap.size + 1, 0, none⟩ = some (.int .u8 1) := HX4.out.bx.cell (j := 0) rfl
  have cx0 := HX4.out.zx.cell (j := 0) rfl
  have zx0 := HX4.out.zx.frz 0
  have cr1 : u4.cell? ⟨w.heap.size + 1, 1, none⟩ = some (.int .u32 y2) := HX4.out.bx.cell (j := 1) rfl
  have cx1 := HX4.out.zx.cell (j := 1) rfl
  have zx1 := HX4.out.zx.frz 1
  have cr2 : u4.cell? ⟨w.heap.size + 1, 2, none⟩ = some (.int .u32 0) := HX4.out.bx.cell (j := 2) rfl
  have cx2 := HX4.out.zx.cell (j := 2) rfl
  have zx2 := HX4.out.zx.frz 2
  have cr3 : u4.cell? ⟨w.heap.size + 1, 3, none⟩ = some (.slice na ((rdNodes s2).1 : List _).length nc) := HX4.out.bx.cell (j := 3) rfl
  have cx3 := HX4.out.zx.cell (j := 3) rfl
  have zx3 := HX4.out.zx.frz 3
  have cr4 : u4.cell? ⟨w.heap.size + 1, 4, none⟩ = some (.slice fa (os : List _).length fc) := HX4.out.bx.cell (j := 4) rfl
  have cx4 := HX4.out.zx.cell (j := 4) rfl
  have zx4 := HX4.out.zx.frz 4
  have cr5 : u4.cell? ⟨w.heap.size + 1, 5, none⟩ = some (.int .u32 0) := HX4.out.bx.cell (j := 5) rfl
  have cx5 := HX4.out.zx.cell (j := 5) rfl
  have zx5 := HX4.out.zx.frz 5
  have cr6 : u4.cell? ⟨w.heap.size + 1, 6, none⟩ = some (.slice none 0 0) := HX4.out.bx.cell (j := 6) rfl
  have cx6 := HX4.out.zx.cell (j := 6) rfl
  have zx6 := HX4.out.zx.frz 6
  have cr7 : u4.cell? ⟨w.heap.size + 1, 7, none⟩ = some (.int .i64 0) := HX4.out.bx.cell (j := 7) rfl
  have cx7 := HX4.out.zx.cell (j := 7) rfl
  have zx7 := HX4.out.zx.frz 7
  have cr8 : u4.cell? ⟨w.heap.size + 1, 8, none⟩ = some (.int .i64 0) := HX4.out.bx.cell (j := 8) rfl
  have cx8 := HX4.out.zx.cell (j := 8) rfl
  have zx8 := HX4.out.zx.frz 8
  have cr9 : u4.cell? ⟨w.heap.size + 1, 9, none⟩ = some (.slice none 0 0) := HX4.out.bx.cell (j := 9) rfl
  have cx9 := HX4.out.zx.cell (j := 9) rfl
  have zx9 := HX4.out.zx.frz 9
  clear HX4 E
  go_wp2
  refine bodyPost_ret (v := .agg #[.int .u8 1, .int .u32 y2, .int .u32 0, .slice na ((rdNodes s2).1 : List _).length nc, .slice fa (os : List _).length fc, .int .u32 0, .slice none 0 0, .int .i64 0, .int .i64 0, .slice none 0 0]) (by simp [results, Try.results44, go_sem, *]) rfl ?_
  refine ⟨_, rfl, HF.out _ ?_⟩
  iterate 9 (refine grown_trans ?_ (grown_at _ _ _ _))
  exact grown_at _ _ _ _
set_option maxHeartbeats 16000000 in
theorem rec_2 (R B : Nat) (w : World) (s : Rd) (hB : B ≤ w.heap.size) (hR : BxL R w s) (hl : s.1.length ≤ 60000) {s1 : Rd} (hq1 : rdInt 1 s = (2, s1)) {y2 : Int} {s2 : Rd} (hq2 : rdInt 4 s1 = (y2, s2)) {y3 : Int} {s3 : Rd} (hq3 : rdInt 4 s2 = (y3, s3)) :
    Calls Try.prog 44 #[.pointer (some ⟨R, 0, none⟩)] w fun e w' => ∃ v, e = .returned v ∧ RcRes B (rdRec s).1 v w' ∧ Wb R w w' (rdRec s).2 := by
  have hRlt := hR.lt
  have hX := XR.start hR
  have HB : Aside (B ≤ w.heap.size) := hB
  clear hB hR
  have L1 : Aside (s1.1.length ≤ 60000) := Nat.le_trans (rd_len hq1) hl
  have L2 : Aside (s2.1.length ≤ 60000) := Nat.le_trans (rd_len hq2) L1.out
  have U2 : Aside (U32 y2) := rd_u32 hq2 (by omega)
  have m2 := mod_u32 U2.out
  have Q1 : Hid (_ = _) := hq1
  have Q2 : Hid (_ = _) := hq2
  have Q3 : Hid (_ = _) := hq3
  have L3 : Aside (s3.1.length ≤ 60000) := Nat.le_trans (rd_len hq3) L2.out
  have U3 : Aside (U32 y3) := rd_u32 hq3 (by omega)
  have m3 := mod_u32 U3.out
  have hC := int_rd R 1 _ s hX.wb.rdr (by omega) (by omega) hq1
  have HX0 : Aside (XR R w ⟨0, 0, 0, none, 0, [], none, 0, [], 0, none, 0, [], 0, 0, none, 0, []⟩ s ((w.alloc (.cells #[.int .u8 0, .int .u32 0, .int .u32 0, .slice none 0 0, .slice none 0 0, .int .u32 0, .slice none 0 0, .int .i64 0, .int .i64 0, .slice none 0 0] 30)).alloc (.cells #[.int .u8 0, .int .u32 0, .int .u32 0, .slice none 0 0, .slice none 0 0, .int .u32 0, .slice none 0 0, .int .i64 0, .int .i64 0, .slice none 0 0] 30))) := hX
  clear hX
  go_enter Try.func44, Try.ntmps44
  go_wp2_with (go_at_call 68; refine hC.mono ?_; rintro e w1 ⟨rfl, g1⟩; refine Hid.out ?_)
  refine hid ?_
  have hM := HX0.out.moved hRlt g1
  have cj : w1.cell? ⟨w.heap.size + 1, 0, none⟩ = some (.int .u8 0) := hM.bx.cell (j := 0) rfl
  have zj := hM.bx.frz 0
  have o := hM.far 0 (.int .u8 2)
  have HX1 : Aside (XR R w ⟨2, 0, 0, none, 0, [], none, 0, [], 0, none, 0, [], 0, 0, none, 0, []⟩ s1 (w1.setCell ⟨w.heap.size + 1, 0, none⟩ (.int .u8 2))) := hM.set hRlt 0 (.int .u8 2) (by first | rfl | simp [rcC]) ⟨by simp, o.id, o.at_, o.nodes, o.facts, o.epoch, o.spans, o.frm, o.til, o.ents⟩
  clear hM o hC g1 HX0
  go_upto_region 3 with fail
  generalize w1.setCell ⟨w.heap.size + 1, 0, none⟩ (.int .u8 2) = u1 at HX1 ⊢
  clear cj zj
  have hC := int_rd R 4 u1 s1 HX1.out.wb.rdr (by omega) (by omega) hq2
  go_wp2_with (go_at_call 68; refine hC.mono ?_; rintro e w2 ⟨rfl, g2⟩; refine Hid.out ?_)
  refine hid ?_
  have hM := HX1.out.moved hRlt g2
  have cj : w2.cell? ⟨w.heap.size + 1, 1, none⟩ = some (.int .u32 0) := hM.bx.cell (j := 1) rfl
  have zj := hM.bx.frz 1
  have o := hM.far 1 (.int .u32 y2)
  have HX2 : Aside (XR R w ⟨2, y2, 0, none, 0, [], none, 0, [], 0, none, 0, [], 0, 0, none, 0, []⟩ s2 (w2.setCell ⟨w.heap.size + 1, 1, none⟩ (.int .u32 y2))) := hM.set hRlt 1 (.int .u32 y2) (by first | rfl | simp [rcC]) ⟨o.kind, U2.out, o.at_, o.nodes, o.facts, o.epoch, o.spans, o.frm, o.til, o.ents⟩
  clear hM o hC g2 HX1
  go_upto_region 4 with fail
  generalize w2.setCell ⟨w.heap.size + 1, 1, none⟩ (.int .u32 y2) = u2 at HX2 ⊢
  clear cj zj
  have ck : u2.cell? ⟨w.heap.size + 1, 0, none⟩ = some (.int .u8 2) := HX2.out.bx.cell (j := 0) rfl
  have hC := int_rd R 4 u2 s2 HX2.out.wb.rdr (by omega) (by omega) hq3
  go_wp2_with (go_at_call 68; refine hC.mono ?_; rintro e w3 ⟨rfl, g3⟩; refine Hid.out ?_)
  refine hid ?_
  have hM := HX2.out.moved hRlt g3
  have cj : w3.cell? ⟨w.heap.size + 1, 2, none⟩ = some (.int .u32 0) := hM.bx.cell (j := 2) rfl
  have zj := hM.bx.frz 2
  have o := hM.far 2 (.int .u32 y3)
  have HX3 : Aside (XR R w ⟨2, y2, y3, none, 0, [], none, 0, [], 0, none, 0, [], 0, 0, none, 0, []⟩ s3 (w3.setCell ⟨w.heap.size + 1, 2, none⟩ (.int .u32 y3))) := hM.set hRlt 2 (.int .u32 y3) (by first | rfl | simp [rcC]) ⟨o.kind, o.id, U3.out, o.nodes, o.facts, o.epoch, o.spans, o.frm, o.til, o.ents⟩
  clear hM o hC g3 HX2
  go_upto_region 10 with fail
  generalize w3.setCell ⟨w.heap.size + 1, 2, none⟩ (.int .u32 y3) = u3 at HX3 ⊢
  clear cj zj
  have hC := nodes_rd R w.heap.size u3 s3 HX3.out.wb.grown.size HX3.out.wb.rdr L3.out
  go_wp2_with (go_at_call 69; refine hC.mono ?_; rintro e w4 ⟨v, rfl, hn, g4⟩; refine Hid.out ?_)
  refine hid ?_
  obtain ⟨na, nc, hv⟩ := ns_form hn
  subst hv
  have hM := HX3.out.moved hRlt g4
  have cj : w4.cell? ⟨w.heap.size + 1, 3, none⟩ = some (.slice none 0 0) := hM.bx.cell (j := 3) rfl
  have zj := hM.bx.frz 3
  have o := hM.far 3 (.slice na (rdNodes s3).1.length nc)
  have HX4 : Aside (XR R w ⟨2, y2, y3, na, nc, (rdNodes s3).1, none, 0, [], 0, none, 0, [], 0, 0, none, 0, []⟩ (rdNodes s3).2 (w4.setCell ⟨w.heap.size + 1, 3, none⟩ (.slice na (rdNodes s3).1.length nc))) := hM.set hRlt 3 (.slice na (rdNodes s3).1.length nc) (by first | rfl | simp [rcC]) ⟨o.kind, o.id, o.at_, hn.far (grown_at _ _ _ _) (hM.bx.far (by decide)), o.facts, o.epoch, o.spans, o.frm, o.til, o.ents⟩
  clear hM o hC g4 HX3
  go_upto_region 25 with fail
  generalize w4.setCell ⟨w.heap.size + 1, 3, none⟩ (.slice na (rdNodes s3).1.length nc) = u4 at HX4 ⊢
  clear cj zj
  clear hn
  have E : Hid (rdRec s = (pr ⟨2, y2, y3, na, nc, (rdNodes s3).1, none, 0, [], 0, none, 0, [], 0, 0, none, 0, []⟩, (rdNodes s3).2)) := by show _ = _; simp [rdRec, Q1.out, Q2.out, Q3.out, pr]
  have HF : Aside (∀ W, u4.grownBy W (some w.heap.size) → RcRes B (rdRec s).1 (.agg #[.int .u8 2, .int .u32 y2, .int .u32 y3, .slice na ((rdNodes s3).1 : List _).length nc, .slice none 0 0, .int .u32 0, .slice none 0 0, .int .i64 0, .int .i64 0, .slice none 0 0]) W ∧ Wb R w W (rdRec s).2) := fun W hG => by
    rw [E.out]
    exact HX4.out.fin hRlt HB.out rfl hG
  have cr0 : u4.cell? ⟨w.heap.size + 1, 0, none⟩ = some (.int .u8 2) := HX4.out.bx.cell (j := 0) rfl
  have cx0 := HX4.out.zx.cell (j := 0) rfl
  have zx0 := HX4.out.zx.frz 0
  have cr1 : u4.cell? ⟨w.heap.size + 1, 1, none⟩ = some (.int .u32 y2) := HX4.out.bx.cell (j := 1) rfl
  have cx1 := HX4.out.zx.cell (j := 1) rfl
  have zx1 := HX4.out.zx.frz 1
  have cr2 : u4.cell? ⟨w.heap.size + 1, 2, none⟩ = some (.int .u32 y3) := HX4.out.bx.cell (j := 2) rfl
  have cx2 := HX4.out.zx.cell (j := 2) rfl
  have zx2 := HX4.out.zx.frz 2
  have cr3 : u4.cell? ⟨w.heap.size + 1, 3, none⟩ = some (.slice na ((rdNodes s3).1 : List _).length nc) := HX4.out.bx.cell (j := 3) rfl
  have cx3 := HX4.out.zx.cell (j := 3) rfl
  have zx3 := HX4.out.zx.frz 3
  have cr4 : u4.cell? ⟨w.heap.size + 1, 4, none⟩ = some (.slice none 0 0) := HX4.out.bx.cell (j := 4) rfl
  have cx4 := HX4.out.zx.cell (j := 4) rfl
  have zx4 := HX4.out.zx.frz 4
  have cr5 : u4.cell? ⟨w.heap.size + 1, 5, none⟩ = some (.int .u32 0) := HX4.out.bx.cell (j := 5) rfl
  have cx5 := HX4.out.zx.cell (j := 5) rfl
  have zx5 := HX4.out.zx.frz 5
  have cr6 : u4.cell? ⟨w.heap.size + 1, 6, none⟩ = some (.slice none 0 0) := HX4.out.bx.cell (j := 6) rfl
  have cx6 := HX4.out.zx.cell (j := 6) rfl
  have zx6 := HX4.out.zx.frz 6
  have cr7 : u4.cell? ⟨w.heap.size + 1, 7, none⟩ = some (.int .i64 0) := HX4.out.bx.cell (j := 7) rfl
  have cx7 := HX4.out.zx.cell (j := 7) rfl
  have zx7 := HX4.out.zx.frz 7
  have cr8 : u4.cell? ⟨w.heap.size + 1, 8, none⟩ = some (.int .i64 0) := HX4.out.bx.cell (j := 8) rfl
  have cx8 := HX4.out.zx.cell (j := 8) rfl
  have zx8 := HX4.out.zx.frz 8
  have cr9 : u4.cell? ⟨w.heap.size + 1, 9, none⟩ = some (.slice none 0 0) := HX4.out.bx.cell (j := 9) rfl
  have cx9 := HX4.out.zx.cell (j := 9) rfl
  have zx9 := HX4.out.zx.frz 9
  clear HX4 E
  go_wp2
  refine bodyPost_ret (v := .agg #[.int .u8 2, .int .u32 y2, .int .u32 y3, .slice na ((rdNodes s3).1 : List _).length nc, .slice none 0 0, .int .u32 0, .slice none 0 0, .int .i64 0, .int .i64 0, .slice none 0 0]) (by simp [results, Try.results44, go_sem, *]) rfl ?_
  refine ⟨_, rfl, HF.out _ ?_⟩
  iterate 9 (refine grown_trans ?_ (grown_at _ _ _ _))
  exact grown_at _ _ _ _
set_option maxHeartbeats 16000000 in
theorem rec_7 (R B : Nat) (w : World) (s : Rd) (hB : B ≤ w.heap.size) (hR : BxL R w s) (hl : s.1.length ≤ 60000) {s1 : Rd} (hq1 : rdInt 1 s = (7, s1)) {y2 : Int} {s2 : Rd} (hq2 : rdInt 4 s1 = (y2, s2)) {y3 : Int} {s3 : Rd} (hq3 : rdInt 4 s2 = (y3, s3)) {y4 : Int} {s4 : Rd} (hq4 : rdInt 4 s3 = (y4, s4)) :
    Calls Try.prog 44 #[.pointer (some ⟨R, 0, none⟩)] w fun e w' => ∃ v, e = .returned v ∧ RcRes B (rdRec s).1 v w' ∧ Wb R w w' (rdRec s).2 := by
  have hRlt := hR.lt
  have hX := XR.start hR
  have HB : Aside (B ≤ w.heap.size) := hB
  clear hB hR
  have L1 : Aside (s1.1.length ≤ 60000) := Nat.le_trans (rd_len hq1) hl
  have L2 : Aside (s2.1.length ≤ 60000) := Nat.le_trans (rd_len hq2) L1.out
  have U2 : Aside (U32 y2) := rd_u32 hq2 (by omega)
  have m2 := mod_u32 U2.out
  have Q1 : Hid (_ = _) := hq1
  have Q2 : Hid (_ = _) := hq2
  have Q3 : Hid (_ = _) := hq3
  have L3 : Aside (s3.1.length ≤ 60000) := Nat.le_trans (rd_len hq3) L2.out
  have U3 : Aside (U32 y3) := rd_u32 hq3 (by omega)
  have m3 := w64_u32 U3.out
  have Q4 : Hid (_ = _) := hq4
  have L4 : Aside (s4.1.length ≤ 60000) := Nat.le_trans (rd_len hq4) L3.out
  have U4 : Aside (U32 y4) := rd_u32 hq4 (by omega)
  have m4 := w64_u32 U4.out
  have hC := int_rd R 1 _ s hX.wb.rdr (by omega) (by omega) hq1
  have HX0 : Aside (XR R w ⟨0, 0, 0, none, 0, [], none, 0, [], 0, none, 0, [], 0, 0, none, 0, []⟩ s ((w.alloc (.cells #[.int .u8 0, .int .u32 0, .int .u32 0, .slice none 0 0, .slice none 0 0, .int .u32 0, .slice none 0 0, .int .i64 0, .int .i64 0, .slice none 0 0] 30)).alloc (.cells #[.int .u8 0, .int .u32 0, .int .u32 0, .slice none 0 0, .slice none 0 0, .int .u32 0, .slice none 0 0, .int .i64 0, .int .i64 0, .slice none 0 0] 30))) := hX
  clear hX
  go_enter Try.func44, Try.ntmps44
  go_wp2_with (go_at_call 68; refine hC.mono ?_; rintro e w1 ⟨rfl, g1⟩; refine Hid.out ?_)
  refine hid ?_
  have hM := HX0.out.moved hRlt g1
  have cj : w1.cell? ⟨w.heap.size + 1, 0, none⟩ = some (.int .u8 0) := hM.bx.cell (j := 0) rfl
  have zj := hM.bx.frz 0
  have o := hM.far 0 (.int .u8 7)
  have HX1 : Aside (XR R w ⟨7, 0, 0, none, 0, [], none, 0, [], 0, none, 0, [], 0, 0, none, 0, []⟩ s1 (w1.setCell ⟨w.heap.size + 1, 0, none⟩ (.int .u8 7))) := hM.set hRlt 0 (.int .u8 7) (by first | rfl | simp [rcC]) ⟨by simp, o.id, o.at_, o.nodes, o.facts, o.epoch, o.spans, o.frm, o.til, o.ents⟩
  clear hM o hC g1 HX0
  go_upto_region 3 with fail
  generalize w1.setCell ⟨w.heap.size + 1, 0, none⟩ (.int .u8 7) = u1 at HX1 ⊢
  clear cj zj
  have hC := int_rd R 4 u1 s1 HX1.out.wb.rdr (by omega) (by omega) hq2
  go_wp2_with (go_at_call 68; refine hC.mono ?_; rintro e w2 ⟨rfl, g2⟩; refine Hid.out ?_)
  refine hid ?_
  have hM := HX1.out.moved hRlt g2
  have cj : w2.cell? ⟨w.heap.size + 1, 1, none⟩ = some (.int .u32 0) := hM.bx.cell (j := 1) rfl
  have zj := hM.bx.frz 1
  have o := hM.far 1 (.int .u32 y2)
  have HX2 : Aside (XR R w ⟨7, y2, 0, none, 0, [], none, 0, [], 0, none, 0, [], 0, 0, none, 0, []⟩ s2 (w2.setCell ⟨w.heap.size + 1, 1, none⟩ (.int .u32 y2))) := hM.set hRlt 1 (.int .u32 y2) (by first | rfl | simp [rcC]) ⟨o.kind, U2.out, o.at_, o.nodes, o.facts, o.epoch, o.spans, o.frm, o.til, o.ents⟩
  clear hM o hC g2 HX1
  go_upto_region 4 with fail
  generalize w2.setCell ⟨w.heap.size + 1, 1, none⟩ (.int .u32 y2) = u2 at HX2 ⊢
  clear cj zj
  have ck : u2.cell? ⟨w.heap.size + 1, 0, none⟩ = some (.int .u8 7) := HX2.out.bx.cell (j := 0) rfl
  have hC := int_rd R 4 u2 s2 HX2.out.wb.rdr (by omega) (by omega) hq3
  go_wp2_with (go_at_call 68; refine hC.mono ?_; rintro e w3 ⟨rfl, g3⟩; refine Hid.out ?_)
  refine hid ?_
  have hM := HX2.out.moved hRlt g3
  have cj : w3.cell? ⟨w.heap.size + 1, 7, none⟩ = some (.int .i64 0) := hM.bx.cell (j := 7) rfl
  have zj := hM.bx.frz 7
  have o := hM.far 7 (.int .i64 y3)
  have HX3 : Aside (XR R w ⟨7, y2, 0, none, 0, [], none, 0, [], 0, none, 0, [], y3, 0, none, 0, []⟩ s3 (w3.setCell ⟨w.heap.size + 1, 7, none⟩ (.int .i64 y3))) := hM.set hRlt 7 (.int .i64 y3) (by first | rfl | simp [rcC]) ⟨o.kind, o.id, o.at_, o.nodes, o.facts, o.epoch, o.spans, i64_u32 U3.out, o.til, o.ents⟩
  clear hM o hC g3 HX2
  go_upto_region 23 with fail
  generalize w3.setCell ⟨w.heap.size + 1, 7, none⟩ (.int .i64 y3) = u3 at HX3 ⊢
  clear cj zj
  have hC := int_rd R 4 u3 s3 HX3.out.wb.rdr (by omega) (by omega) hq4
  go_wp2_with (go_at_call 68; refine hC.mono ?_; rintro e w4 ⟨rfl, g4⟩; refine Hid.out ?_)
  refine hid ?_
  have hM := HX3.out.moved hRlt g4
  have cj : w4.cell? ⟨w.heap.size + 1, 8, none⟩ = some (.int .i64 0) := hM.bx.cell (j := 8) rfl
  have zj := hM.bx.frz 8
  have o := hM.far 8 (.int .i64 y4)
  have HX4 : Aside (XR R w ⟨7, y2, 0, none, 0, [], none, 0, [], 0, none, 0, [], y3, y4, none, 0, []⟩ s4 (w4.setCell ⟨w.heap.size + 1, 8, none⟩ (.int .i64 y4))) := hM.set hRlt 8 (.int .i64 y4) (by first | rfl | simp [rcC]) ⟨o.kind, o.id, o.at_, o.nodes, o.facts, o.epoch, o.spans, o.frm, i64_u32 U4.out, o.ents⟩
  clear hM o hC g4 HX3
  go_upto_region 24 with fail
  generalize w4.setCell ⟨w.heap.size + 1, 8, none⟩ (.int .i64 y4) = u4 at HX4 ⊢
  clear cj zj
  have hC := ents_rd R w.heap.size u4 s4 HX4.out.wb.grown.size HX4.out.wb.rdr L4.out
  go_wp2_with (go_at_call 72; refine hC.mono ?_; rintro e w5 ⟨v, rfl, hn, g5⟩; refine Hid.out ?_)
  refine hid ?_
  obtain ⟨es, ho, he⟩ := hn
  obtain ⟨ea, ec, hv⟩ := es_form ho
  subst hv
  have HE : Hid (es.map pe = (rdEnts s4).1) := he
  have hM := HX4.out.moved hRlt g5
  have cj : w5.cell? ⟨w.heap.size + 1, 9, none⟩ = some (.slice none 0 0) := hM.bx.cell (j := 9) rfl
  have zj := hM.bx.frz 9
  have o := hM.far 9 (.slice ea es.length ec)
  have HX5 : Aside (XR R w ⟨7, y2, 0, none, 0, [], none, 0, [], 0, none, 0, [], y3, y4, ea, ec, es⟩ (rdEnts s4).2 (w5.setCell ⟨w.heap.size + 1, 9, none⟩ (.slice ea es.length ec))) := hM.set hRlt 9 (.slice ea es.length ec) (by first | rfl | simp [rcC]) ⟨o.kind, o.id, o.at_, o.nodes, o.facts, o.epoch, o.spans, o.frm, o.til, ho.far (grown_at _ _ _ _) (hM.bx.far (by decide)) (hM.bx.far (by decide)) (hM.bx.far (by decide))⟩
  clear hM o hC g5 HX4
  go_upto_region 25 with fail
  generalize w5.setCell ⟨w.heap.size + 1, 9, none⟩ (.slice ea es.length ec) = u5 at HX5 ⊢
  clear cj zj
  clear ho he
  have E : Hid (rdRec s = (pr ⟨7, y2, 0, none, 0, [], none, 0, [], 0, none, 0, [], y3, y4, ea, ec, es⟩, (rdEnts s4).2)) := by show _ = _; simp [rdRec, Q1.out, Q2.out, Q3.out, Q4.out, pr, HE.out]
  have HF : Aside (∀ W, u5.grownBy W (some w.heap.size) → RcRes B (rdRec s).1 (.agg #[.int .u8 7, .int .u32 y2, .int .u32 0, .slice none 0 0, .slice none 0 0, .int .u32 0, .slice none 0 0, .int .i64 y3, .int .i64 y4, .slice ea (es : List _).length ec]) W ∧ Wb R w W (rdRec s).2) := fun W hG => by
    rw [E.out]
    exact HX5.out.fin hRlt HB.out rfl hG
  have cr0 : u5.cell? ⟨w.heap.size + 1, 0, none⟩ = some (.int .u8 7) := HX5.out.bx.cell (j := 0) rfl
  have cx0 := HX5.out.zx.cell (j := 0) rfl
  have zx0 := HX5.out.zx.frz 0
  have cr1 : u5.cell? ⟨w.heap.size + 1, 1, none⟩ = some (.int .u32 y2) := HX5.out.bx.cell (j := 1) rfl
  have cx1 := HX5.out.zx.cell (j := 1) rfl
  have zx1 := HX5.out.zx.frz 1
  have cr2 : u5.cell? ⟨w.heap.size + 1, 2, none⟩ = some (.int .u32 0) := HX5.out.bx.cell (j := 2) rfl
  have cx2 := HX5.out.zx.cell (j := 2) rfl
  have zx2 := HX5.out.zx.frz 2
  have cr3 : u5.cell? ⟨w.heap.size + 1, 3, none⟩ = some (.slice none 0 0) := HX5.out.bx.cell (j := 3) rfl
  have cx3 := HX5.out.zx.cell (j := 3) rfl
  have zx3 := HX5.out.zx.frz 3
  have cr4 : u5.cell? ⟨w.heap.size + 1, 4, none⟩ = some (.slice none 0 0) := HX5.out.bx.cell (j := 4) rfl
  have cx4 := HX5.out.zx.cell (j := 4) rfl
  have zx4 := HX5.out.zx.frz 4
  have cr5 : u5.cell? ⟨w.heap.size + 1, 5, none⟩ = some (.int .u32 0) := HX5.out.bx.cell (j := 5) rfl
  have cx5 := HX5.out.zx.cell (j := 5) rfl
  have zx5 := HX5.out.zx.frz 5
  have cr6 : u5.cell? ⟨w.heap.size + 1, 6, none⟩ = some (.slice none 0 0) := HX5.out.bx.cell (j := 6) rfl
  have cx6 := HX5.out.zx.cell (j := 6) rfl
  have zx6 := HX5.out.zx.frz 6
  have cr7 : u5.cell? ⟨w.heap.size + 1, 7, none⟩ = some (.int .i64 y3) := HX5.out.bx.cell (j := 7) rfl
  have cx7 := HX5.out.zx.cell (j := 7) rfl
  have zx7 := HX5.out.zx.frz 7
  have cr8 : u5.cell? ⟨w.heap.size + 1, 8, none⟩ = some (.int .i64 y4) := HX5.out.bx.cell (j := 8) rfl
  have cx8 := HX5.out.zx.cell (j := 8) rfl
  have zx8 := HX5.out.zx.frz 8
  have cr9 : u5.cell? ⟨w.heap.size + 1, 9, none⟩ = some (.slice ea (es : List _).length ec) := HX5.out.bx.cell (j := 9) rfl
  have cx9 := HX5.out.zx.cell (j := 9) rfl
  have zx9 := HX5.out.zx.frz 9
  clear HX5 E
  go_wp2
  refine bodyPost_ret (v := .agg #[.int .u8 7, .int .u32 y2, .int .u32 0, .slice none 0 0, .slice none 0 0, .int .u32 0, .slice none 0 0, .int .i64 y3, .int .i64 y4, .slice ea (es : List _).length ec]) (by simp [results, Try.results44, go_sem, *]) rfl ?_
  refine ⟨_, rfl, HF.out _ ?_⟩
  iterate 9 (refine grown_trans ?_ (grown_at _ _ _ _))
  exact grown_at _ _ _ _
end Go.Proofs.Ytlokamblbhooaaa.code

namespace Go.Proofs.Ytlokamblbhooaaa.code
open Go.ChangeShapes Go.WideShapes Go.ChangeAt Go.RowKit Go.Deep
open Go.Proofs.Ytlokamblbhooaaa.dims (nth Ints cell_lt vals vals_len vals_get vals_one vals_app own_below own_mono own_out own_apart RowOut ret_bool ret_int)
set_option linter.unusedVariables false
set_option maxRecDepth 100000
set_option linter.unusedSimpArgs false


theorem rdSpan_len (s : Rd) : (rdSpan s).2.1.length ≤ s.1.length := Nat.le_trans (rdGet_len 1 _) (rdGet_len 4 s)
structure S6 (R : Nat) (w : World) (y2 y3 : Int) (sa : Option Addr) (k sc : Nat) (ss : List PSpan) (s : Rd) (W : World) : Prop where
  zx : Boxed W w.heap.size #[.int .u8 0, .int .u32 0, .int .u32 0, .slice none 0 0, .slice none 0 0, .int .u32 0, .slice none 0 0, .int .i64 0, .int .i64 0, .slice none 0 0] 30
  bx : Boxed W (w.heap.size + 1) #[.int .u8 6, .int .u32 y2, .int .u32 0, .slice none 0 0, .slice none 0 0, .int .u32 y3, .slice sa k sc, .int .i64 0, .int .i64 0, .slice none 0 0] 30
  own : W.ownsRow w.heap.size 63 2 (.slice sa k sc) k (ss.flatMap spanC)
  len : ss.length = k
  all : ∀ s ∈ ss, I64 s.1 ∧ I64 s.2
  wb : Wb R w W s
theorem S6.below {R : Nat} {w W W' : World} {y2 y3 : Int} {sa : Option Addr} {k sc : Nat} {ss : List PSpan} {s : Rd} (h : S6 R w y2 y3 sa k sc ss s W) (hR : R < w.heap.size) (hb : Below W.heap.size W W') : S6 R w y2 y3 sa k sc ss s W' :=
  ⟨h.zx.below hb, h.bx.below hb, own_below h.own hb, h.len, h.all, h.wb.below hb hR⟩
theorem S6.moved {R : Nat} {w W W' : World} {y2 y3 : Int} {sa : Option Addr} {k sc : Nat} {ss : List PSpan} {s s' : Rd} (h : S6 R w y2 y3 sa k sc ss s W) (hR : R < w.heap.size) (g : Wb R W W' s') : S6 R w y2 y3 sa k sc ss s' W' :=
  ⟨h.zx.grown g.grown (by simp only [ne_eq, Option.some.injEq]; omega), h.bx.grown g.grown (by simp only [ne_eq, Option.some.injEq]; omega), own_far h.own g.grown (h.wb.rdr.far (by decide)), h.len, h.all, h.wb.trans g⟩
theorem S6.other {R Q j : Nat} {w W : World} {y2 y3 : Int} {sa : Option Addr} {k sc : Nat} {ss : List PSpan} {s : Rd} {v : Value} (h : S6 R w y2 y3 sa k sc ss s W) (hR : R < w.heap.size) (hQ : w.heap.size + 1 < Q) (hlt : ∀ q, (Value.slice sa k sc).ownBlock = some q → q < Q) : S6 R w y2 y3 sa k sc ss s (W.setCell ⟨Q, j, none⟩ v) :=
  ⟨h.zx.grown (grown_at _ _ _ _) (by simp only [ne_eq, Option.some.injEq]; omega), h.bx.grown (grown_at _ _ _ _) (by simp only [ne_eq, Option.some.injEq]; omega), h.own.kept (grown_at _ _ _ _) (Or.inr fun e => by have := hlt _ e; omega), h.len, h.all, h.wb.row (grown_at _ _ _ _) (fun q hq => by injection hq with hq; omega) hR⟩
theorem S6.ofXR {R : Nat} {w W : World} {y2 y3 : Int} {s : Rd} (h : XR R w ⟨6, y2, 0, none, 0, [], none, 0, [], y3, none, 0, [], 0, 0, none, 0, []⟩ s W) : S6 R w y2 y3 none 0 0 [] s W :=
  ⟨h.zx, h.bx, World.ownsRow_nil _ _ _ _, rfl, by simp, h.wb⟩
theorem S6.xr {R : Nat} {w W : World} {y2 y3 : Int} {sa : Option Addr} {k sc : Nat} {ss : List PSpan} {s : Rd} (h : S6 R w y2 y3 sa k sc ss s W) (h2 : U32 y2) (h3 : U32 y3) : XR R w ⟨6, y2, 0, none, 0, [], none, 0, [], y3, sa, sc, ss, 0, 0, none, 0, []⟩ s W := by
  obtain rfl := h.len
  exact ⟨h.zx, h.bx, ⟨by simp, h2, u32_nought, ns_nil _ _, fs_nil _ _, h3, ⟨h.own, h.all⟩, i64_nought, i64_nought, es_nil _ _⟩, h.wb⟩
theorem S6.push {R g c3 : Nat} {w W w3 : World} {y2 y3 a b : Int} {sa : Option Addr} {k sc : Nat} {ss : List PSpan} {s : Rd} {o : Obj} (h : S6 R w y2 y3 sa k sc ss s W) (hR : R < w.heap.size) (hs : w.heap.size + 1 < W.heap.size) (hn : (Value.slice sa k sc).ownBlock ≠ some w.heap.size ∧ (Value.slice sa k sc).ownBlock ≠ some (w.heap.size + 1)) (hg : (W.alloc o).grownBy w3 (Value.slice sa k sc).ownBlock) (hat : (Value.slice sa k sc).ownBlock = some g ∨ g = W.heap.size + 1)
    (hown : w3.ownsRow w.heap.size 63 2 (.slice (some ⟨g, 0, none⟩) (k + 1) c3) (k + 1) (ss.flatMap spanC ++ [.int .i64 a, .int .i64 b])) (ha : I64 a) (hb : I64 b) :
    S6 R w y2 y3 (some ⟨g, 0, none⟩) (k + 1) c3 (ss ++ [(a, b)]) s (w3.setCell ⟨w.heap.size + 1, 6, none⟩ (.slice (some ⟨g, 0, none⟩) (k + 1) c3)) := by
  have hb0 : Below W.heap.size W (W.alloc o) := (Below.refl _ _).alloc (Nat.le_refl _) o
  have h1 := (h.zx.below hb0).grown hg (fun e => hn.1 e.symm)
  have h2 := (h.bx.below hb0).grown hg (fun e => hn.2 e.symm)
  have hgn : g ≠ w.heap.size + 1 := fun e => by
    rcases hat with h | h
    · rw [e] at h; exact hn.2 h
    · omega
  refine ⟨h1.grown (grown_at _ _ _ _) (by simp only [ne_eq, Option.some.injEq]; omega), h2.set 6 _, ?_, by simp [h.len], fun x hx => ?_, ?_⟩
  · have e : (ss ++ [(a, b)]).flatMap spanC = ss.flatMap spanC ++ [Value.int .i64 a, Value.int .i64 b] := by simp [spanC]
    rw [e]
    refine hown.kept (grown_at _ _ _ _) (Or.inr fun e => ?_)
    simp only [Value.ownBlock, Option.some.injEq] at e
    exact hgn e
  · rcases List.mem_append.1 hx with hx | hx
    · exact h.all x hx
    · simp only [List.mem_singleton] at hx
      subst hx
      exact ⟨ha, hb⟩
  · exact ((h.wb.below hb0 hR).row hg (fun q hq => (World.ownsRow.lt h.own _ hq).1) hR).row (grown_at _ _ _ _) (fun q hq => by injection hq with hq; omega) hR

set_option maxHeartbeats 16000000 in
theorem rec_6 (R B : Nat) (w : World) (s : Rd) (hB : B ≤ w.heap.size) (hR : BxL R w s) (hl : s.1.length ≤ 60000) {s1 : Rd} (hq1 : rdInt 1 s = (6, s1)) {y2 : Int} {s2 : Rd} (hq2 : rdInt 4 s1 = (y2, s2)) {y3 : Int} {s3 : Rd} (hq3 : rdInt 4 s2 = (y3, s3)) {n : Nat} {sm : Rd} (hqm : rdMany 1 5 s3 = (n, sm)) :
    Calls Try.prog 44 #[.pointer (some ⟨R, 0, none⟩)] w fun e w' => ∃ v, e = .returned v ∧ RcRes B (rdRec s).1 v w' ∧ Wb R w w' (rdRec s).2 := by
  have hRlt := hR.lt
  have hX := XR.start hR
  have HB : Aside (B ≤ w.heap.size) := hB
  clear hB hR
  obtain ⟨j0, hj, hy0, hy1, hy2⟩ := info_parts info_span
  have L1 : Aside (s1.1.length ≤ 60000) := Nat.le_trans (rd_len hq1) hl
  have L2 : Aside (s2.1.length ≤ 60000) := Nat.le_trans (rd_len hq2) L1.out
  have U2 : Aside (U32 y2) := rd_u32 hq2 (by omega)
  have m2 := mod_u32 U2.out
  have Q1 : Hid (_ = _) := hq1
  have Q2 : Hid (_ = _) := hq2
  have Q3 : Hid (_ = _) := hq3
  have L3 : Aside (s3.1.length ≤ 60000) := Nat.le_trans (rd_len hq3) L2.out
  have U3 : Aside (U32 y3) := rd_u32 hq3 (by omega)
  have m3 := mod_u32 U3.out
  have Q4 : Hid (_ = _) := hqm
  have hn6 : n ≤ 60000 := by have h := rdMany_le 1 5 s3; rw [hqm] at h; have := L3.out; omega
  have L4 : Aside (sm.1.length ≤ 60000) := by have h := rdMany_len 1 5 s3; rw [hqm] at h; exact Nat.le_trans h L3.out
  have hC := int_rd R 1 _ s hX.wb.rdr (by omega) (by omega) hq1
  have HX0 : Aside (XR R w ⟨0, 0, 0, none, 0, [], none, 0, [], 0, none, 0, [], 0, 0, none, 0, []⟩ s ((w.alloc (.cells #[.int .u8 0, .int .u32 0, .int .u32 0, .slice none 0 0, .slice none 0 0, .int .u32 0, .slice none 0 0, .int .i64 0, .int .i64 0, .slice none 0 0] 30)).alloc (.cells #[.int .u8 0, .int .u32 0, .int .u32 0, .slice none 0 0, .slice none 0 0, .int .u32 0, .slice none 0 0, .int .i64 0, .int .i64 0, .slice none 0 0] 30))) := hX
  clear hX
  go_enter Try.func44, Try.ntmps44
  go_wp2_with (go_at_call 68; refine hC.mono ?_; rintro e w1 ⟨rfl, g1⟩; refine Hid.out ?_)
  refine hid ?_
  have hM := HX0.out.moved hRlt g1
  have cj : w1.cell? ⟨w.heap.size + 1, 0, none⟩ = some (.int .u8 0) := hM.bx.cell (j := 0) rfl
  have zj := hM.bx.frz 0
  have o := hM.far 0 (.int .u8 6)
  have HX1 : Aside (XR R w ⟨6, 0, 0, none, 0, [], none, 0, [], 0, none, 0, [], 0, 0, none, 0, []⟩ s1 (w1.setCell ⟨w.heap.size + 1, 0, none⟩ (.int .u8 6))) := hM.set hRlt 0 (.int .u8 6) (by first | rfl | simp [rcC]) ⟨by simp, o.id, o.at_, o.nodes, o.facts, o.epoch, o.spans, o.frm, o.til, o.ents⟩
  clear hM o hC g1 HX0
  go_upto_region 3 with fail
  generalize w1.setCell ⟨w.heap.size + 1, 0, none⟩ (.int .u8 6) = u1 at HX1 ⊢
  clear cj zj
  have hC := int_rd R 4 u1 s1 HX1.out.wb.rdr (by omega) (by omega) hq2
  go_wp2_with (go_at_call 68; refine hC.mono ?_; rintro e w2 ⟨rfl, g2⟩; refine Hid.out ?_)
  refine hid ?_
  have hM := HX1.out.moved hRlt g2
  have cj : w2.cell? ⟨w.heap.size + 1, 1, none⟩ = some (.int .u32 0) := hM.bx.cell (j := 1) rfl
  have zj := hM.bx.frz 1
  have o := hM.far 1 (.int .u32 y2)
  have HX2 : Aside (XR R w ⟨6, y2, 0, none, 0, [], none, 0, [], 0, none, 0, [], 0, 0, none, 0, []⟩ s2 (w2.setCell ⟨w.heap.size + 1, 1, none⟩ (.int .u32 y2))) := hM.set hRlt 1 (.int .u32 y2) (by first | rfl | simp [rcC]) ⟨o.kind, U2.out, o.at_, o.nodes, o.facts, o.epoch, o.spans, o.frm, o.til, o.ents⟩
  clear hM o hC g2 HX1
  go_upto_region 4 with fail
  generalize w2.setCell ⟨w.heap.size + 1, 1, none⟩ (.int .u32 y2) = u2 at HX2 ⊢
  clear cj zj
  have ck : u2.cell? ⟨w.heap.size + 1, 0, none⟩ = some (.int .u8 6) := HX2.out.bx.cell (j := 0) rfl
  have hC := int_rd R 4 u2 s2 HX2.out.wb.rdr (by omega) (by omega) hq3
  go_wp2_with (go_at_call 68; refine hC.mono ?_; rintro e w3 ⟨rfl, g3⟩; refine Hid.out ?_)
  refine hid ?_
  have hM := HX2.out.moved hRlt g3
  have cj : w3.cell? ⟨w.heap.size + 1, 5, none⟩ = some (.int .u32 0) := hM.bx.cell (j := 5) rfl
  have zj := hM.bx.frz 5
  have o := hM.far 5 (.int .u32 y3)
  have HX3 : Aside (XR R w ⟨6, y2, 0, none, 0, [], none, 0, [], y3, none, 0, [], 0, 0, none, 0, []⟩ s3 (w3.setCell ⟨w.heap.size + 1, 5, none⟩ (.int .u32 y3))) := hM.set hRlt 5 (.int .u32 y3) (by first | rfl | simp [rcC]) ⟨o.kind, o.id, o.at_, o.nodes, o.facts, U3.out, o.spans, o.frm, o.til, o.ents⟩
  clear hM o hC g3 HX2
  go_upto_region 13 with fail
  generalize w3.setCell ⟨w.heap.size + 1, 5, none⟩ (.int .u32 y3) = u3 at HX3 ⊢
  clear cj zj
  have hC := many_any R 1 5 u3 s3 HX3.out.wb.rdr (by omega) (by omega) (by omega) (by omega) L3.out
  rw [hqm] at hC
  go_wp2_with (go_at_call 71; refine hC.mono ?_; rintro e w4 ⟨rfl, g4⟩; refine Hid.out ?_)
  refine hid ?_
  have H4 : Aside (S6 R w y2 y3 none 0 0 [] sm w4) := S6.ofXR (HX3.out.moved hRlt g4)
  clear hC g4 HX3 ck hq1 hq2 hq3 hqm m2 m3
  go_wp2_with fail
  go_loopg [5] n (fun g1 vi wr => ∃ (k : Nat), vi = .int .i64 k ∧ k ≤ n ∧ n - k ≤ g1 ∧ Aside (∃ sa sc ss sk, S6 R w y2 y3 sa k sc ss sk wr ∧ sk.1.length ≤ 60000 ∧ rdTimes rdSpan n sm = (ss ++ (rdTimes rdSpan (n - k) sk).1, (rdTimes rdSpan (n - k) sk).2) ∧ (Value.slice sa k sc).ownBlock ≠ some w.heap.size ∧ (Value.slice sa k sc).ownBlock ≠ some (w.heap.size + 1)))
  case atStart => exact ⟨0, rfl, Nat.zero_le _, Nat.le_refl _, none, 0, [], sm, H4.out, L4.out, by simp, by simp [Value.ownBlock], by simp [Value.ownBlock]⟩
  case round =>
    obtain ⟨k, rfl, hk, hgk, SK⟩ := hrel
    by_cases hlt : k < n
    · have hltz : (k : Int) < (n : Int) := by omega
      obtain ⟨sa, sc, ss, sk, hS, hsl, hsr, hn1, hn2⟩ := SK.out
      obtain ⟨jj, hjj⟩ : ∃ jj, n - k = jj + 1 := ⟨n - k - 1, by omega⟩
      rw [hjj] at hsr
      have hsr2 := rdTimes_step hsr
      obtain ⟨y, t1, hq1⟩ : ∃ y t1, rdInt 4 sk = (y, t1) := ⟨_, _, rfl⟩
      obtain ⟨z, t2, hq2⟩ : ∃ z t2, rdInt 1 t1 = (z, t2) := ⟨_, _, rfl⟩
      have hsp : rdSpan sk = ((y, z), t2) := by unfold rdSpan; simp [hq1, hq2]
      rw [hsp] at hsr2
      have T1 := rd_u32 hq1 (by omega)
      have T2 := rd_u32 hq2 (by omega)
      have w1 := w64_u32 T1
      have w2 := w64_u32 T2
      have HI : Aside (I64 y ∧ I64 z ∧ t2.1.length ≤ 60000) := ⟨i64_u32 T1, i64_u32 T2, Nat.le_trans (rd_len hq2) (Nat.le_trans (rd_len hq1) hsl)⟩
      generalize hWr : wr = W1 at *
      clear hWr
      have hlq : w.heap.size + 1 < W1.heap.size := hS.bx.lt
      have hown0 : ∀ q, (Value.slice sa k sc).ownBlock = some q → q < W1.heap.size := fun q hq => (World.ownsRow.lt hS.own _ hq).2
      have HK : Aside (rdTimes rdSpan n sm = ((ss ++ [(y, z)]) ++ (rdTimes rdSpan jj t2).1, (rdTimes rdSpan jj t2).2) ∧ n - k = jj + 1 ∧ (Value.slice sa k sc).ownBlock ≠ some w.heap.size ∧ (Value.slice sa k sc).ownBlock ≠ some (w.heap.size + 1) ∧ ∀ q, (Value.slice sa k sc).ownBlock = some q → q < W1.heap.size) := ⟨hsr2, hjj, hn1, hn2, hown0⟩
      have hS0 := hS.below hRlt (W' := W1.alloc (.cells #[.int .i64 0, .int .i64 0] 63)) ((Below.refl _ _).alloc (Nat.le_refl _) _)
      have HS0 : Aside (S6 R w y2 y3 sa k sc ss sk (W1.alloc (.cells #[.int .i64 0, .int .i64 0] 63)) ∧ Boxed (W1.alloc (.cells #[.int .i64 0, .int .i64 0] 63)) W1.heap.size #[.int .i64 0, .int .i64 0] 63) := ⟨hS0, Boxed.new _ _ _⟩
      have hC := int_rd R 4 _ sk hS0.wb.rdr (by omega) (by omega) hq1
      have HQ2 : Hid (rdInt 1 t1 = (z, t2)) := hq2
      clear SK hS hS0 hsl hsr hsr2 hn1 hn2 hown0 hjj hq1 hq2 hsp T1 T2
      go_wp2_with (go_at_call 68; refine hC.mono ?_; rintro e v2 ⟨rfl, g2⟩; refine Hid.out ?_)
      refine hid ?_
      have hbx := HS0.out.2.grown g2.grown (by simp only [ne_eq, Option.some.injEq]; omega)
      have q0 := hbx.cell (j := 0) rfl
      have z0 := hbx.frz 0
      have HS2 : Aside (S6 R w y2 y3 sa k sc ss t1 (v2.setCell ⟨W1.heap.size, 0, none⟩ (.int .i64 y)) ∧ Boxed (v2.setCell ⟨W1.heap.size, 0, none⟩ (.int .i64 y)) W1.heap.size #[.int .i64 y, .int .i64 0] 63) := ⟨(HS0.out.1.moved hRlt g2).other hRlt hlq HK.out.2.2.2.2, hbx.set 0 _⟩
      clear hC g2 hbx HS0
      go_upto_region 19 with fail
      generalize v2.setCell ⟨W1.heap.size, 0, none⟩ (.int .i64 y) = x2 at HS2 ⊢
      clear q0 z0 w1
      have hC := int_rd R 1 x2 t1 HS2.out.1.wb.rdr (by omega) (by omega) HQ2.out
      go_wp2_with (go_at_call 68; refine hC.mono ?_; rintro e v3 ⟨rfl, g3⟩; refine Hid.out ?_)
      refine hid ?_
      have hbx := HS2.out.2.grown g3.grown (by simp only [ne_eq, Option.some.injEq]; omega)
      have q0 := hbx.cell (j := 1) rfl
      have z0 := hbx.frz 1
      have HS3 : Aside (S6 R w y2 y3 sa k sc ss t2 (v3.setCell ⟨W1.heap.size, 1, none⟩ (.int .i64 z)) ∧ Boxed (v3.setCell ⟨W1.heap.size, 1, none⟩ (.int .i64 z)) W1.heap.size #[.int .i64 y, .int .i64 z] 63) := ⟨(HS2.out.1.moved hRlt g3).other hRlt hlq HK.out.2.2.2.2, hbx.set 1 _⟩
      clear hC g3 hbx HS2
      go_upto_region 20 with fail
      generalize v3.setCell ⟨W1.heap.size, 1, none⟩ (.int .i64 z) = x3 at HS3 ⊢
      clear q0 z0 w2
      have q0 := HS3.out.2.cell (j := 0) rfl
      have q1 := HS3.out.2.cell (j := 1) rfl
      have c6 := HS3.out.1.bx.cell (j := 6) rfl
      have hown2 := HS3.out.1.own
      have hsz : w.heap.size + 1 < x3.heap.size := HS3.out.1.bx.lt
      have HX3 : ∀ o w6, (x3.alloc o).grownBy w6 (Value.slice sa k sc).ownBlock → Boxed w6 (w.heap.size + 1) #[.int .u8 6, .int .u32 y2, .int .u32 0, .slice none 0 0, .slice none 0 0, .int .u32 y3, .slice sa k sc, .int .i64 0, .int .i64 0, .slice none 0 0] 30 := fun o w6 hg => (HS3.out.1.bx.below ((Below.refl _ _).alloc (Nat.le_refl _) o)).grown hg (fun e => HK.out.2.2.2.1 e.symm)
      go_wp2_with (at_builtin; refine wpList_append_lies _ rfl _ _ 25 rfl w.heap.size 63 j0 _ 2 16 Try.underlying25 hj hy0 hy1 hy2 rfl (by decide) _ k _ rfl (hown2.alloc _) ⟨x3.heap.size, 0, none⟩ 1 1 [Value.int .i64 y, Value.int .i64 z] rfl rfl (cells_two_new _ _ _ _) (by intro u hu; simp at hu; first | (rcases hu with rfl | rfl <;> rfl) | (subst hu; rfl)) (by omega) (by unfold maxLen; omega) (by omega) (by simp; omega) (x3.heap.size + 1) (by simp) ?_; intro gg c3 w6 hown3 hgrow hat hglt; have hx6 := HX3 _ _ hgrow; have q6 := hx6.cell (j := 6) rfl; have z6 := hx6.frz 6; refine Hid.out ?_)
      refine hid ?_
      have S3 : Aside (∃ sa sc ss sk, S6 R w y2 y3 sa (k + 1) sc ss sk (w6.setCell ⟨w.heap.size + 1, 6, none⟩ (.slice (some ⟨gg, 0, none⟩) (k + 1) c3)) ∧ sk.1.length ≤ 60000 ∧ rdTimes rdSpan n sm = (ss ++ (rdTimes rdSpan (n - (k + 1)) sk).1, (rdTimes rdSpan (n - (k + 1)) sk).2) ∧ (Value.slice sa (k + 1) sc).ownBlock ≠ some w.heap.size ∧ (Value.slice sa (k + 1) sc).ownBlock ≠ some (w.heap.size + 1)) := by
        have hne : gg ≠ w.heap.size ∧ gg ≠ w.heap.size + 1 := by
          rcases hat with h | h
          · exact ⟨fun e => HK.out.2.2.1 (Eq.trans h (congrArg some e)), fun e => HK.out.2.2.2.1 (Eq.trans h (congrArg some e))⟩
          · constructor <;> omega
        refine ⟨_, _, _, t2, HS3.out.1.push hRlt hsz ⟨HK.out.2.2.1, HK.out.2.2.2.1⟩ hgrow hat hown3 HI.out.1 HI.out.2.1, HI.out.2.2, ?_, by simp only [Value.ownBlock, ne_eq, Option.some.injEq]; exact hne.1, by simp only [Value.ownBlock, ne_eq, Option.some.injEq]; exact hne.2⟩
        rw [show n - (k + 1) = jj by have := HK.out.2.1; omega]
        exact HK.out.1
      clear hown3 hgrow hat hglt hown2 q0 q1 c6 HX3 hx6 HS3
      go_wp2
      go_roundg (n - (k + 1))
      case measure => omega
      case rel => exact ⟨k + 1, by go_num, by omega, by omega, S3⟩
    · have hltz : ¬ (k : Int) < (n : Int) := by omega
      obtain ⟨sa, sc, ss, sk, hS, hsl, hsr, hn1, hn2⟩ := SK.out
      rw [show n - k = 0 by omega] at hsr
      have hsr2 := rdTimes_end hsr
      have hXX := hS.xr U2.out U3.out
      have HLN : Hid (ss.length = k) := hS.len
      have E : Hid (rdRec s = (pr ⟨6, y2, 0, none, 0, [], none, 0, [], y3, sa, sc, ss, 0, 0, none, 0, []⟩, sk)) := by show _ = _; simp [rdRec, rdSpans, Q1.out, Q2.out, Q3.out, Q4.out, hsr2, pr]
      have HF : Aside (∀ W, wr.grownBy W (some w.heap.size) → RcRes B (rdRec s).1 (.agg #[.int .u8 6, .int .u32 y2, .int .u32 0, .slice none 0 0, .slice none 0 0, .int .u32 y3, .slice sa k sc, .int .i64 0, .int .i64 0, .slice none 0 0]) W ∧ Wb R w W (rdRec s).2) := fun W hG => by
        rw [E.out]
        have h := hXX.fin hRlt HB.out rfl hG
        unfold rcV rcC at h
        simp only at h
        rw [HLN.out] at h
        exact h

      have cr0 := hS.bx.cell (j := 0) rfl
      have cx0 := hS.zx.cell (j := 0) rfl
      have zx0 := hS.zx.frz 0
      have cr1 := hS.bx.cell (j := 1) rfl
      have cx1 := hS.zx.cell (j := 1) rfl
      have zx1 := hS.zx.frz 1
      have cr2 := hS.bx.cell (j := 2) rfl
      have cx2 := hS.zx.cell (j := 2) rfl
      have zx2 := hS.zx.frz 2
      have cr3 := hS.bx.cell (j := 3) rfl
      have cx3 := hS.zx.cell (j := 3) rfl
      have zx3 := hS.zx.frz 3
      have cr4 := hS.bx.cell (j := 4) rfl
      have cx4 := hS.zx.cell (j := 4) rfl
      have zx4 := hS.zx.frz 4
      have cr5 := hS.bx.cell (j := 5) rfl
      have cx5 := hS.zx.cell (j := 5) rfl
      have zx5 := hS.zx.frz 5
      have cr6 := hS.bx.cell (j := 6) rfl
      have cx6 := hS.zx.cell (j := 6) rfl
      have zx6 := hS.zx.frz 6
      have cr7 := hS.bx.cell (j := 7) rfl
      have cx7 := hS.zx.cell (j := 7) rfl
      have zx7 := hS.zx.frz 7
      have cr8 := hS.bx.cell (j := 8) rfl
      have cx8 := hS.zx.cell (j := 8) rfl
      have zx8 := hS.zx.frz 8
      have cr9 := hS.bx.cell (j := 9) rfl
      have cx9 := hS.zx.cell (j := 9) rfl
      have zx9 := hS.zx.frz 9
      clear SK hS hsl hsr hsr2 hn1 hn2 hXX E H4
      go_wp2
      refine bodyPost_ret (v := .agg #[.int .u8 6, .int .u32 y2, .int .u32 0, .slice none 0 0, .slice none 0 0, .int .u32 y3, .slice sa k sc, .int .i64 0, .int .i64 0, .slice none 0 0]) (by simp [results, Try.results44, go_sem, *]) rfl ?_
      refine ⟨_, rfl, HF.out _ ?_⟩
      iterate 9 (refine grown_trans ?_ (grown_at _ _ _ _))
      exact grown_at _ _ _ _
theorem rec_rd (R B : Nat) (w : World) (s : Rd) (hB : B ≤ w.heap.size) (hR : BxL R w s) (hl : s.1.length ≤ 60000) :
    Calls Try.prog 44 #[.pointer (some ⟨R, 0, none⟩)] w fun e w' => ∃ v, e = .returned v ∧ RcRes B (rdRec s).1 v w' ∧ Wb R w w' (rdRec s).2 := by
  obtain ⟨y1, s1, hq1⟩ : ∃ y t, rdInt 1 s = (y, t) := ⟨_, _, rfl⟩
  obtain ⟨y2, s2, hq2⟩ : ∃ y t, rdInt 4 s1 = (y, t) := ⟨_, _, rfl⟩
  obtain ⟨y3, s3, hq3⟩ : ∃ y t, rdInt 4 s2 = (y, t) := ⟨_, _, rfl⟩
  obtain ⟨y4, s4, hq4⟩ : ∃ y t, rdInt 4 s3 = (y, t) := ⟨_, _, rfl⟩
  obtain ⟨n, sm, hqm⟩ : ∃ y t, rdMany 1 5 s3 = (y, t) := ⟨_, _, rfl⟩
  by_cases k1 : y1 = 1
  · subst k1; exact rec_1 R B w s hB hR hl hq1 hq2
  by_cases k2 : y1 = 2
  · subst k2; exact rec_2 R B w s hB hR hl hq1 hq2 hq3
  by_cases k6 : y1 = 6
  · subst k6; exact rec_6 R B w s hB hR hl hq1 hq2 hq3 hqm
  by_cases k7 : y1 = 7
  · subst k7; exact rec_7 R B w s hB hR hl hq1 hq2 hq3 hq4
  exact rec_0 R B w s hB hR hl hq1 hq2 (by simpa using k1) (by simpa using k2) (by simpa using k6) (by simpa using k7)
end Go.Proofs.Ytlokamblbhooaaa.code
