/-
  The chapter's reader: a record of kind 6, and of any kind.
-/
import Derived.Test.YtlokamblbhooaaaCodeBxR
namespace Go.Proofs.Ytlokamblbhooaaa.code
open Go.ChangeShapes Go.WideShapes Go.ChangeAt Go.RowKit Go.Deep
open Go.Proofs.Ytlokamblbhooaaa.dims (nth Ints cell_lt vals vals_len vals_get vals_one vals_app own_below own_mono own_out own_apart RowOut ret_bool ret_int)
set_option linter.unusedVariables false
set_option maxRecDepth 100000
set_option linter.unusedSimpArgs false


theorem rdSpan_len (s : Rd) : (rdSpan s).2.1.length ≤ s.1.length := Nat.le_trans (rdGet_len 1 _) (rdGet_len 4 s)
structure S6 (R : Nat) (w : World) (y2 y3 : Int) (sa : Option Addr) (k sc : Nat) (ss : List PSpan) (s : Rd) (W : World) : Prop where
  zx : Boxed W w.heap.size #[.int .u8 0, .int .u32 0, .int .u32 0, .slice none 0 0, .slice none 0 0, .int .u32 0, .slice none 0 0, .int .i64 0, .int .i64 0, .slice none 0 0] 30
  bx : Boxed W (w.heap.size + 1) #[.int .u8 6, .int .u32 y2, .int .u32 0, .slice none 0 0, .slice none 0 0, .int .u32 y3, .slice sa k sc, .int .i64 0, .int .i64 0, .slice none 0 0] 30
  own : W.ownsRow w.heap.size 63 2 (.slice sa k sc) k (ss.flatMap spanC)
  len : ss.length = k
  all : ∀ s ∈ ss, I64 s.1 ∧ I64 s.2
  wb : Wb R w W s
theorem S6.below {R : Nat} {w W W' : World} {y2 y3 : Int} {sa : Option Addr} {k sc : Nat} {ss : List PSpan} {s : Rd} (h : S6 R w y2 y3 sa k sc ss s W) (hR : R < w.heap.size) (hb : Below W.heap.size W W') : S6 R w y2 y3 sa k sc ss s W' :=
  ⟨h.zx.below hb, h.bx.below hb, own_below h.own hb, h.len, h.all, h.wb.below hb hR⟩
theorem S6.moved {R : Nat} {w W W' : World} {y2 y3 : Int} {sa : Option Addr} {k sc : Nat} {ss : List PSpan} {s s' : Rd} (h : S6 R w y2 y3 sa k sc ss s W) (hR : R < w.heap.size) (g : Wb R W W' s') : S6 R w y2 y3 sa k sc ss s' W' :=
  ⟨h.zx.grown g.grown (by simp only [ne_eq, Option.some.injEq]; omega), h.bx.grown g.grown (by simp only [ne_eq, Option.some.injEq]; omega), own_far h.own g.grown (h.wb.rdr.far (by decide)), h.len, h.all, h.wb.trans g⟩
theorem S6.other {R Q j : Nat} {w W : World} {y2 y3 : Int} {sa : Option Addr} {k sc : Nat} {ss : List PSpan} {s : Rd} {v : Value} (h : S6 R w y2 y3 sa k sc ss s W) (hR : R < w.heap.size) (hQ : w.heap.size + 1 < Q) (hlt : ∀ q, (Value.slice sa k sc).ownBlock = some q → q < Q) : S6 R w y2 y3 sa k sc ss s (W.setCell ⟨Q, j, none⟩ v) :=
  ⟨h.zx.grown (grown_at _ _ _ _) (by simp only [ne_eq, Option.some.injEq]; omega), h.bx.grown (grown_at _ _ _ _) (by simp only [ne_eq, Option.some.injEq]; omega), h.own.kept (grown_at _ _ _ _) (Or.inr fun e => by have := hlt _ e; omega), h.len, h.all, h.wb.row (grown_at _ _ _ _) (fun q hq => by injection hq with hq; omega) hR⟩
theorem S6.ofXR {R : Nat} {w W : World} {y2 y3 : Int} {s : Rd} (h : XR R w ⟨6, y2, 0, none, 0, [], none, 0, [], y3, none, 0, [], 0, 0, none, 0, []⟩ s W) : S6 R w y2 y3 none 0 0 [] s W :=
  ⟨h.zx, h.bx, World.ownsRow_nil _ _ _ _, rfl, by simp, h.wb⟩
theorem S6.xr {R : Nat} {w W : World} {y2 y3 : Int} {sa : Option Addr} {k sc : Nat} {ss : List PSpan} {s : Rd} (h : S6 R w y2 y3 sa k sc ss s W) (h2 : U32 y2) (h3 : U32 y3) : XR R w ⟨6, y2, 0, none, 0, [], none, 0, [], y3, sa, sc, ss, 0, 0, none, 0, []⟩ s W := by
  obtain rfl := h.len
  exact ⟨h.zx, h.bx, ⟨by simp, h2, u32_nought, ns_nil _ _, fs_nil _ _, h3, ⟨h.own, h.all⟩, i64_nought, i64_nought, es_nil _ _⟩, h.wb⟩
theorem S6.push {R g c3 : Nat} {w W w3 : World} {y2 y3 a b : Int} {sa : Option Addr} {k sc : Nat} {ss : List PSpan} {s : Rd} {o : Obj} (h : S6 R w y2 y3 sa k sc ss s W) (hR : R < w.heap.size) (hs : w.heap.size + 1 < W.heap.size) (hn : (Value.slice sa k sc).ownBlock ≠ some w.heap.size ∧ (Value.slice sa k sc).ownBlock ≠ some (w.heap.size + 1)) (hg : (W.alloc o).grownBy w3 (Value.slice sa k sc).ownBlock) (hat : (Value.slice sa k sc).ownBlock = some g ∨ g = W.heap.size + 1)
    (hown : w3.ownsRow w.heap.size 63 2 (.slice (some ⟨g, 0, none⟩) (k + 1) c3) (k + 1) (ss.flatMap spanC ++ [.int .i64 a, .int .i64 b])) (ha : I64 a) (hb : I64 b) :
    S6 R w y2 y3 (some ⟨g, 0, none⟩) (k + 1) c3 (ss ++ [(a, b)]) s (w3.setCell ⟨w.heap.size + 1, 6, none⟩ (.slice (some ⟨g, 0, none⟩) (k + 1) c3)) := by
  have hb0 : Below W.heap.size W (W.alloc o) := (Below.refl _ _).alloc (Nat.le_refl _) o
  have h1 := (h.zx.below hb0).grown hg (fun e => hn.1 e.symm)
  have h2 := (h.bx.below hb0).grown hg (fun e => hn.2 e.symm)
  have hgn : g ≠ w.heap.size + 1 := fun e => by
    rcases hat with h | h
    · rw [e] at h; exact hn.2 h
    · omega
  refine ⟨h1.grown (grown_at _ _ _ _) (by simp only [ne_eq, Option.some.injEq]; omega), h2.set 6 _, ?_, by simp [h.len], fun x hx => ?_, ?_⟩
  · have e : (ss ++ [(a, b)]).flatMap spanC = ss.flatMap spanC ++ [Value.int .i64 a, Value.int .i64 b] := by simp [spanC]
    rw [e]
    refine hown.kept (grown_at _ _ _ _) (Or.inr fun e => ?_)
    simp only [Value.ownBlock, Option.some.injEq] at e
    exact hgn e
  · rcases List.mem_append.1 hx with hx | hx
    · exact h.all x hx
    · simp only [List.mem_singleton] at hx
      subst hx
      exact ⟨ha, hb⟩
  · exact ((h.wb.below hb0 hR).row hg (fun q hq => (World.ownsRow.lt h.own _ hq).1) hR).row (grown_at _ _ _ _) (fun q hq => by injection hq with hq; omega) hR

set_option maxHeartbeats 16000000 in
theorem rec_6 (R B : Nat) (w : World) (s : Rd) (hB : B ≤ w.heap.size) (hR : BxL R w s) (hl : s.1.length ≤ 60000) {s1 : Rd} (hq1 : rdInt 1 s = (6, s1)) {y2 : Int} {s2 : Rd} (hq2 : rdInt 4 s1 = (y2, s2)) {y3 : Int} {s3 : Rd} (hq3 : rdInt 4 s2 = (y3, s3)) {n : Nat} {sm : Rd} (hqm : rdMany 1 5 s3 = (n, sm)) :
    Calls Try.prog 44 #[.pointer (some ⟨R, 0, none⟩)] w fun e w' => ∃ v, e = .returned v ∧ RcRes B (rdRec s).1 v w' ∧ Wb R w w' (rdRec s).2 := by
  have hRlt := hR.lt
  have hX := XR.start hR
  have HB : Aside (B ≤ w.heap.size) := hB
  clear hB hR
  obtain ⟨j0, hj, hy0, hy1, hy2⟩ := info_parts info_span
  have L1 : Aside (s1.1.length ≤ 60000) := Nat.le_trans (rd_len hq1) hl
  have L2 : Aside (s2.1.length ≤ 60000) := Nat.le_trans (rd_len hq2) L1.out
  have U2 : Aside (U32 y2) := rd_u32 hq2 (by omega)
  have m2 := mod_u32 U2.out
  have Q1 : Hid (_ = _) := hq1
  have Q2 : Hid (_ = _) := hq2
  have Q3 : Hid (_ = _) := hq3
  have L3 : Aside (s3.1.length ≤ 60000) := Nat.le_trans (rd_len hq3) L2.out
  have U3 : Aside (U32 y3) := rd_u32 hq3 (by omega)
  have m3 := mod_u32 U3.out
  have Q4 : Hid (_ = _) := hqm
  have hn6 : n ≤ 60000 := by have h := rdMany_le 1 5 s3; rw [hqm] at h; have := L3.out; omega
  have L4 : Aside (sm.1.length ≤ 60000) := by have h := rdMany_len 1 5 s3; rw [hqm] at h; exact Nat.le_trans h L3.out
  have hC := int_rd R 1 _ s hX.wb.rdr (by omega) (by omega) hq1
  have HX0 : Aside (XR R w ⟨0, 0, 0, none, 0, [], none, 0, [], 0, none, 0, [], 0, 0, none, 0, []⟩ s ((w.alloc (.cells #[.int .u8 0, .int .u32 0, .int .u32 0, .slice none 0 0, .slice none 0 0, .int .u32 0, .slice none 0 0, .int .i64 0, .int .i64 0, .slice none 0 0] 30)).alloc (.cells #[.int .u8 0, .int .u32 0, .int .u32 0, .slice none 0 0, .slice none 0 0, .int .u32 0, .slice none 0 0, .int .i64 0, .int .i64 0, .slice none 0 0] 30))) := hX
  clear hX
  go_enter Try.func44, Try.ntmps44
  go_wp2_with (go_at_call 68; refine hC.mono ?_; rintro e w1 ⟨rfl, g1⟩; refine Hid.out ?_)
  refine hid ?_
  have hM := HX0.out.moved hRlt g1
  have cj : w1.cell? ⟨w.heap.size + 1, 0, none⟩ = some (.int .u8 0) := hM.bx.cell (j := 0) rfl
  have zj := hM.bx.frz 0
  have o := hM.far 0 (.int .u8 6)
  have HX1 : Aside (XR R w ⟨6, 0, 0, none, 0, [], none, 0, [], 0, none, 0, [], 0, 0, none, 0, []⟩ s1 (w1.setCell ⟨w.heap.size + 1, 0, none⟩ (.int .u8 6))) := hM.set hRlt 0 (.int .u8 6) (by first | rfl | simp [rcC]) ⟨by simp, o.id, o.at_, o.nodes, o.facts, o.epoch, o.spans, o.frm, o.til, o.ents⟩
  clear hM o hC g1 HX0
  go_upto_region 3 with fail
  generalize w1.setCell ⟨w.heap.size + 1, 0, none⟩ (.int .u8 6) = u1 at HX1 ⊢
  clear cj zj
  have hC := int_rd R 4 u1 s1 HX1.out.wb.rdr (by omega) (by omega) hq2
  go_wp2_with (go_at_call 68; refine hC.mono ?_; rintro e w2 ⟨rfl, g2⟩; refine Hid.out ?_)
  refine hid ?_
  have hM := HX1.out.moved hRlt g2
  have cj : w2.cell? ⟨w.heap.size + 1, 1, none⟩ = some (.int .u32 0) := hM.bx.cell (j := 1) rfl
  have zj := hM.bx.frz 1
  have o := hM.far 1 (.int .u32 y2)
  have HX2 : Aside (XR R w ⟨6, y2, 0, none, 0, [], none, 0, [], 0, none, 0, [], 0, 0, none, 0, []⟩ s2 (w2.setCell ⟨w.heap.size + 1, 1, none⟩ (.int .u32 y2))) := hM.set hRlt 1 (.int .u32 y2) (by first | rfl | simp [rcC]) ⟨o.kind, U2.out, o.at_, o.nodes, o.facts, o.epoch, o.spans, o.frm, o.til, o.ents⟩
  clear hM o hC g2 HX1
  go_upto_region 4 with fail
  generalize w2.setCell ⟨w.heap.size + 1, 1, none⟩ (.int .u32 y2) = u2 at HX2 ⊢
  clear cj zj
  have ck : u2.cell? ⟨w.heap.size + 1, 0, none⟩ = some (.int .u8 6) := HX2.out.bx.cell (j := 0) rfl
  have hC := int_rd R 4 u2 s2 HX2.out.wb.rdr (by omega) (by omega) hq3
  go_wp2_with (go_at_call 68; refine hC.mono ?_; rintro e w3 ⟨rfl, g3⟩; refine Hid.out ?_)
  refine hid ?_
  have hM := HX2.out.moved hRlt g3
  have cj : w3.cell? ⟨w.heap.size + 1, 5, none⟩ = some (.int .u32 0) := hM.bx.cell (j := 5) rfl
  have zj := hM.bx.frz 5
  have o := hM.far 5 (.int .u32 y3)
  have HX3 : Aside (XR R w ⟨6, y2, 0, none, 0, [], none, 0, [], y3, none, 0, [], 0, 0, none, 0, []⟩ s3 (w3.setCell ⟨w.heap.size + 1, 5, none⟩ (.int .u32 y3))) := hM.set hRlt 5 (.int .u32 y3) (by first | rfl | simp [rcC]) ⟨o.kind, o.id, o.at_, o.nodes, o.facts, U3.out, o.spans, o.frm, o.til, o.ents⟩
  clear hM o hC g3 HX2
  go_upto_region 13 with fail
  generalize w3.setCell ⟨w.heap.size + 1, 5, none⟩ (.int .u32 y3) = u3 at HX3 ⊢
  clear cj zj
  have hC := many_any R 1 5 u3 s3 HX3.out.wb.rdr (by omega) (by omega) (by omega) (by omega) L3.out
  rw [hqm] at hC
  go_wp2_with (go_at_call 71; refine hC.mono ?_; rintro e w4 ⟨rfl, g4⟩; refine Hid.out ?_)
  refine hid ?_
  have H4 : Aside (S6 R w y2 y3 none 0 0 [] sm w4) := S6.ofXR (HX3.out.moved hRlt g4)
  clear hC g4 HX3 ck hq1 hq2 hq3 hqm m2 m3
  go_wp2_with fail
  go_loopg [5] n (fun g1 vi wr => ∃ (k : Nat), vi = .int .i64 k ∧ k ≤ n ∧ n - k ≤ g1 ∧ Aside (∃ sa sc ss sk, S6 R w y2 y3 sa k sc ss sk wr ∧ sk.1.length ≤ 60000 ∧ rdTimes rdSpan n sm = (ss ++ (rdTimes rdSpan (n - k) sk).1, (rdTimes rdSpan (n - k) sk).2) ∧ (Value.slice sa k sc).ownBlock ≠ some w.heap.size ∧ (Value.slice sa k sc).ownBlock ≠ some (w.heap.size + 1)))
  case atStart => exact ⟨0, rfl, Nat.zero_le _, Nat.le_refl _, none, 0, [], sm, H4.out, L4.out, by simp, by simp [Value.ownBlock], by simp [Value.ownBlock]⟩
  case round =>
    obtain ⟨k, rfl, hk, hgk, SK⟩ := hrel
    by_cases hlt : k < n
    · have hltz : (k : Int) < (n : Int) := by omega
      obtain ⟨sa, sc, ss, sk, hS, hsl, hsr, hn1, hn2⟩ := SK.out
      obtain ⟨jj, hjj⟩ : ∃ jj, n - k = jj + 1 := ⟨n - k - 1, by omega⟩
      rw [hjj] at hsr
      have hsr2 := rdTimes_step hsr
      obtain ⟨y, t1, hq1⟩ : ∃ y t1, rdInt 4 sk = (y, t1) := ⟨_, _, rfl⟩
      obtain ⟨z, t2, hq2⟩ : ∃ z t2, rdInt 1 t1 = (z, t2) := ⟨_, _, rfl⟩
      have hsp : rdSpan sk = ((y, z), t2) := by unfold rdSpan; simp [hq1, hq2]
      rw [hsp] at hsr2
      have T1 := rd_u32 hq1 (by omega)
      have T2 := rd_u32 hq2 (by omega)
      have w1 := w64_u32 T1
      have w2 := w64_u32 T2
      have HI : Aside (I64 y ∧ I64 z ∧ t2.1.length ≤ 60000) := ⟨i64_u32 T1, i64_u32 T2, Nat.le_trans (rd_len hq2) (Nat.le_trans (rd_len hq1) hsl)⟩
      generalize hWr : wr = W1 at *
      clear hWr
      have hlq : w.heap.size + 1 < W1.heap.size := hS.bx.lt
      have hown0 : ∀ q, (Value.slice sa k sc).ownBlock = some q → q < W1.heap.size := fun q hq => (World.ownsRow.lt hS.own _ hq).2
      have HK : Aside (rdTimes rdSpan n sm = ((ss ++ [(y, z)]) ++ (rdTimes rdSpan jj t2).1, (rdTimes rdSpan jj t2).2) ∧ n - k = jj + 1 ∧ (Value.slice sa k sc).ownBlock ≠ some w.heap.size ∧ (Value.slice sa k sc).ownBlock ≠ some (w.heap.size + 1) ∧ ∀ q, (Value.slice sa k sc).ownBlock = some q → q < W1.heap.size) := ⟨hsr2, hjj, hn1, hn2, hown0⟩
      have hS0 := hS.below hRlt (W' := W1.alloc (.cells #[.int .i64 0, .int .i64 0] 63)) ((Below.refl _ _).alloc (Nat.le_refl _) _)
      have HS0 : Aside (S6 R w y2 y3 sa k sc ss sk (W1.alloc (.cells #[.int .i64 0, .int .i64 0] 63)) ∧ Boxed (W1.alloc (.cells #[.int .i64 0, .int .i64 0] 63)) W1.heap.size #[.int .i64 0, .int .i64 0] 63) := ⟨hS0, Boxed.new _ _ _⟩
      have hC := int_rd R 4 _ sk hS0.wb.rdr (by omega) (by omega) hq1
      have HQ2 : Hid (rdInt 1 t1 = (z, t2)) := hq2
      clear SK hS hS0 hsl hsr hsr2 hn1 hn2 hown0 hjj hq1 hq2 hsp T1 T2
      go_wp2_with (go_at_call 68; refine hC.mono ?_; rintro e v2 ⟨rfl, g2⟩; refine Hid.out ?_)
      refine hid ?_
      have hbx := HS0.out.2.grown g2.grown (by simp only [ne_eq, Option.some.injEq]; omega)
      have q0 := hbx.cell (j := 0) rfl
      have z0 := hbx.frz 0
      have HS2 : Aside (S6 R w y2 y3 sa k sc ss t1 (v2.setCell ⟨W1.heap.size, 0, none⟩ (.int .i64 y)) ∧ Boxed (v2.setCell ⟨W1.heap.size, 0, none⟩ (.int .i64 y)) W1.heap.size #[.int .i64 y, .int .i64 0] 63) := ⟨(HS0.out.1.moved hRlt g2).other hRlt hlq HK.out.2.2.2.2, hbx.set 0 _⟩
      clear hC g2 hbx HS0
      go_upto_region 19 with fail
      generalize v2.setCell ⟨W1.heap.size, 0, none⟩ (.int .i64 y) = x2 at HS2 ⊢
      clear q0 z0 w1
      have hC := int_rd R 1 x2 t1 HS2.out.1.wb.rdr (by omega) (by omega) HQ2.out
      go_wp2_with (go_at_call 68; refine hC.mono ?_; rintro e v3 ⟨rfl, g3⟩; refine Hid.out ?_)
      refine hid ?_
      have hbx := HS2.out.2.grown g3.grown (by simp only [ne_eq, Option.some.injEq]; omega)
      have q0 := hbx.cell (j := 1) rfl
      have z0 := hbx.frz 1
      have HS3 : Aside (S6 R w y2 y3 sa k sc ss t2 (v3.setCell ⟨W1.heap.size, 1, none⟩ (.int .i64 z)) ∧ Boxed (v3.setCell ⟨W1.heap.size, 1, none⟩ (.int .i64 z)) W1.heap.size #[.int .i64 y, .int .i64 z] 63) := ⟨(HS2.out.1.moved hRlt g3).other hRlt hlq HK.out.2.2.2.2, hbx.set 1 _⟩
      clear hC g3 hbx HS2
      go_upto_region 20 with fail
      generalize v3.setCell ⟨W1.heap.size, 1, none⟩ (.int .i64 z) = x3 at HS3 ⊢
      clear q0 z0 w2
      have q0 := HS3.out.2.cell (j := 0) rfl
      have q1 := HS3.out.2.cell (j := 1) rfl
      have c6 := HS3.out.1.bx.cell (j := 6) rfl
      have hown2 := HS3.out.1.own
      have hsz : w.heap.size + 1 < x3.heap.size := HS3.out.1.bx.lt
      have HX3 : ∀ o w6, (x3.alloc o).grownBy w6 (Value.slice sa k sc).ownBlock → Boxed w6 (w.heap.size + 1) #[.int .u8 6, .int .u32 y2, .int .u32 0, .slice none 0 0, .slice none 0 0, .int .u32 y3, .slice sa k sc, .int .i64 0, .int .i64 0, .slice none 0 0] 30 := fun o w6 hg => (HS3.out.1.bx.below ((Below.refl _ _).alloc (Nat.le_refl _) o)).grown hg (fun e => HK.out.2.2.2.1 e.symm)
      go_wp2_with (at_builtin; refine wpList_append_lies _ rfl _ _ 25 rfl w.heap.size 63 j0 _ 2 16 Try.underlying25 hj hy0 hy1 hy2 rfl (by decide) _ k _ rfl (hown2.alloc _) ⟨x3.heap.size, 0, none⟩ 1 1 [Value.int .i64 y, Value.int .i64 z] rfl rfl (cells_two_new _ _ _ _) (by intro u hu; simp at hu; first | (rcases hu with rfl | rfl <;> rfl) | (subst hu; rfl)) (by omega) (by unfold maxLen; omega) (by omega) (by simp; omega) (x3.heap.size + 1) (by simp) ?_; intro gg c3 w6 hown3 hgrow hat hglt; have hx6 := HX3 _ _ hgrow; have q6 := hx6.cell (j := 6) rfl; have z6 := hx6.frz 6; refine Hid.out ?_)
      refine hid ?_
      have S3 : Aside (∃ sa sc ss sk, S6 R w y2 y3 sa (k + 1) sc ss sk (w6.setCell ⟨w.heap.size + 1, 6, none⟩ (.slice (some ⟨gg, 0, none⟩) (k + 1) c3)) ∧ sk.1.length ≤ 60000 ∧ rdTimes rdSpan n sm = (ss ++ (rdTimes rdSpan (n - (k + 1)) sk).1, (rdTimes rdSpan (n - (k + 1)) sk).2) ∧ (Value.slice sa (k + 1) sc).ownBlock ≠ some w.heap.size ∧ (Value.slice sa (k + 1) sc).ownBlock ≠ some (w.heap.size + 1)) := by
        have hne : gg ≠ w.heap.size ∧ gg ≠ w.heap.size + 1 := by
          rcases hat with h | h
          · exact ⟨fun e => HK.out.2.2.1 (Eq.trans h (congrArg some e)), fun e => HK.out.2.2.2.1 (Eq.trans h (congrArg some e))⟩
          · constructor <;> omega
        refine ⟨_, _, _, t2, HS3.out.1.push hRlt hsz ⟨HK.out.2.2.1, HK.out.2.2.2.1⟩ hgrow hat hown3 HI.out.1 HI.out.2.1, HI.out.2.2, ?_, by simp only [Value.ownBlock, ne_eq, Option.some.injEq]; exact hne.1, by simp only [Value.ownBlock, ne_eq, Option.some.injEq]; exact hne.2⟩
        rw [show n - (k + 1) = jj by have := HK.out.2.1; omega]
        exact HK.out.1
      clear hown3 hgrow hat hglt hown2 q0 q1 c6 HX3 hx6 HS3
      go_wp2
      go_roundg (n - (k + 1))
      case measure => omega
      case rel => exact ⟨k + 1, by go_num, by omega, by omega, S3⟩
    · have hltz : ¬ (k : Int) < (n : Int) := by omega
      obtain ⟨sa, sc, ss, sk, hS, hsl, hsr, hn1, hn2⟩ := SK.out
      rw [show n - k = 0 by omega] at hsr
      have hsr2 := rdTimes_end hsr
      have hXX := hS.xr U2.out U3.out
      have HLN : Hid (ss.length = k) := hS.len
      have E : Hid (rdRec s = (pr ⟨6, y2, 0, none, 0, [], none, 0, [], y3, sa, sc, ss, 0, 0, none, 0, []⟩, sk)) := by show _ = _; simp [rdRec, rdSpans, Q1.out, Q2.out, Q3.out, Q4.out, hsr2, pr]
      have HF : Aside (∀ W, wr.grownBy W (some w.heap.size) → RcRes B (rdRec s).1 (.agg #[.int .u8 6, .int .u32 y2, .int .u32 0, .slice none 0 0, .slice none 0 0, .int .u32 y3, .slice sa k sc, .int .i64 0, .int .i64 0, .slice none 0 0]) W ∧ Wb R w W (rdRec s).2) := fun W hG => by
        rw [E.out]
        have h := hXX.fin hRlt HB.out rfl hG
        unfold rcV rcC at h
        simp only at h
        rw [HLN.out] at h
        exact h

      have cr0 := hS.bx.cell (j := 0) rfl
      have cx0 := hS.zx.cell (j := 0) rfl
      have zx0 := hS.zx.frz 0
      have cr1 := hS.bx.cell (j := 1) rfl
      have cx1 := hS.zx.cell (j := 1) rfl
      have zx1 := hS.zx.frz 1
      have cr2 := hS.bx.cell (j := 2) rfl
      have cx2 := hS.zx.cell (j := 2) rfl
      have zx2 := hS.zx.frz 2
      have cr3 := hS.bx.cell (j := 3) rfl
      have cx3 := hS.zx.cell (j := 3) rfl
      have zx3 := hS.zx.frz 3
      have cr4 := hS.bx.cell (j := 4) rfl
      have cx4 := hS.zx.cell (j := 4) rfl
      have zx4 := hS.zx.frz 4
      have cr5 := hS.bx.cell (j := 5) rfl
      have cx5 := hS.zx.cell (j := 5) rfl
      have zx5 := hS.zx.frz 5
      have cr6 := hS.bx.cell (j := 6) rfl
      have cx6 := hS.zx.cell (j := 6) rfl
      have zx6 := hS.zx.frz 6
      have cr7 := hS.bx.cell (j := 7) rfl
      have cx7 := hS.zx.cell (j := 7) rfl
      have zx7 := hS.zx.frz 7
      have cr8 := hS.bx.cell (j := 8) rfl
      have cx8 := hS.zx.cell (j := 8) rfl
      have zx8 := hS.zx.frz 8
      have cr9 := hS.bx.cell (j := 9) rfl
      have cx9 := hS.zx.cell (j := 9) rfl
      have zx9 := hS.zx.frz 9
      clear SK hS hsl hsr hsr2 hn1 hn2 hXX E H4
      go_wp2
      refine bodyPost_ret (v := .agg #[.int .u8 6, .int .u32 y2, .int .u32 0, .slice none 0 0, .slice none 0 0, .int .u32 y3, .slice sa k sc, .int .i64 0, .int .i64 0, .slice none 0 0]) (by simp [results, Try.results44, go_sem, *]) rfl ?_
      refine ⟨_, rfl, HF.out _ ?_⟩
      iterate 9 (refine grown_trans ?_ (grown_at _ _ _ _))
      exact grown_at _ _ _ _
theorem rec_rd (R B : Nat) (w : World) (s : Rd) (hB : B ≤ w.heap.size) (hR : BxL R w s) (hl : s.1.length ≤ 60000) :
    Calls Try.prog 44 #[.pointer (some ⟨R, 0, none⟩)] w fun e w' => ∃ v, e = .returned v ∧ RcRes B (rdRec s).1 v w' ∧ Wb R w w' (rdRec s).2 := by
  obtain ⟨y1, s1, hq1⟩ : ∃ y t, rdInt 1 s = (y, t) := ⟨_, _, rfl⟩
  obtain ⟨y2, s2, hq2⟩ : ∃ y t, rdInt 4 s1 = (y, t) := ⟨_, _, rfl⟩
  obtain ⟨y3, s3, hq3⟩ : ∃ y t, rdInt 4 s2 = (y, t) := ⟨_, _, rfl⟩
  obtain ⟨y4, s4, hq4⟩ : ∃ y t, rdInt 4 s3 = (y, t) := ⟨_, _, rfl⟩
  obtain ⟨n, sm, hqm⟩ : ∃ y t, rdMany 1 5 s3 = (y, t) := ⟨_, _, rfl⟩
  by_cases k1 : y1 = 1
  · subst k1; exact rec_1 R B w s hB hR hl hq1 hq2
  by_cases k2 : y1 = 2
  · subst k2; exact rec_2 R B w s hB hR hl hq1 hq2 hq3
  by_cases k6 : y1 = 6
  · subst k6; exact rec_6 R B w s hB hR hl hq1 hq2 hq3 hqm
  by_cases k7 : y1 = 7
  · subst k7; exact rec_7 R B w s hB hR hl hq1 hq2 hq3 hq4
  exact rec_0 R B w s hB hR hl hq1 hq2 (by simpa using k1) (by simpa using k2) (by simpa using k6) (by simpa using k7)
end Go.Proofs.Ytlokamblbhooaaa.code
