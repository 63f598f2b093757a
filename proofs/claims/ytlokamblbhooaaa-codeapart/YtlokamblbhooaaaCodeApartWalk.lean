/-
  CodeApart: two sound records have the same bytes just if they are the same.
-/
import Derived.Test.YtlokamblbhooaaaCodeTwo
namespace Go.Proofs.Ytlokamblbhooaaa.code
open Go.ChangeShapes Go.WideShapes Go.ChangeAt Go.RowKit Go.Deep
open Go.Proofs.Ytlokamblbhooaaa.dims (nth Ints cell_lt vals vals_len vals_get vals_one vals_app own_below own_mono own_out own_apart RowOut ret_bool ret_int)
set_option linter.unusedVariables false
set_option maxRecDepth 100000
set_option linter.unusedSimpArgs false

theorem no_nums2 (w : World) : dims.Nums .u16 w none 0 0 [] := ⟨.inl rfl, rfl, Nat.le_refl _, Nat.zero_le _, fun i hi => by simp at hi⟩
theorem Strs.keep2 {w w' : World} {v : Value} {l : List UInt8} (h : Strs w v l) (hb : Below w.heap.size w w') : Strs w' v l := fun W hW => h W (hb.trans (hW.mono hb.size))

set_option maxHeartbeats 32000000 in
theorem apart_walk (r s : Rc) (ka kb na nb : Int) (w : World) (hR : RecIn w r) (hS : RecIn w s) (hka : 0 ≤ ka ∧ ka ≤ 255) (hkb : 0 ≤ kb ∧ kb ≤ 255) (hna : 0 ≤ na ∧ na ≤ 255) (hnb : 0 ≤ nb ∧ nb ≤ 255) :
    Calls Try.prog 7 #[rcV r, rcV s, .int .u8 ka, .int .u8 kb, .int .u8 na, .int .u8 nb] w fun e w' => e = .returned (.bool true) ∧ Below w.heap.size w w' := by
  show Calls _ _ #[.agg #[.int .u8 r.kind, .int .u32 r.id, .int .u32 r.at_, .slice r.na r.nodes.length r.nc, .slice r.fa r.facts.length r.fc, .int .u32 r.epoch, .slice r.sa r.spans.length r.sc, .int .i64 r.frm, .int .i64 r.til, .slice r.ea r.ents.length r.ec], .agg #[.int .u8 s.kind, .int .u32 s.id, .int .u32 s.at_, .slice s.na s.nodes.length s.nc, .slice s.fa s.facts.length s.fc, .int .u32 s.epoch, .slice s.sa s.spans.length s.sc, .int .i64 s.frm, .int .i64 s.til, .slice s.ea s.ents.length s.ec], _, _, _, _] _ _
  have hb0 : Below w.heap.size w ((w.alloc (.cells #[.int .u8 r.kind, .int .u32 r.id, .int .u32 r.at_, .slice r.na r.nodes.length r.nc, .slice r.fa r.facts.length r.fc, .int .u32 r.epoch, .slice r.sa r.spans.length r.sc, .int .i64 r.frm, .int .i64 r.til, .slice r.ea r.ents.length r.ec] 30)).alloc (.cells #[.int .u8 s.kind, .int .u32 s.id, .int .u32 s.at_, .slice s.na s.nodes.length s.nc, .slice s.fa s.facts.length s.fc, .int .u32 s.epoch, .slice s.sa s.spans.length s.sc, .int .i64 s.frm, .int .i64 s.til, .slice s.ea s.ents.length s.ec] 30)) := by (repeat (first | with_reducible exact Below.refl _ _ | (with_reducible refine Below.drew ?_) | (with_reducible refine Below.alloc ?_ (by first | omega | (simp; done) | (simp; omega)) _) | (with_reducible refine Below.setCell ?_ (by first | exact Nat.le_refl _ | omega | (simp; done) | (simp; omega)) _)))
  have x0 : Boxed ((w.alloc (.cells #[.int .u8 r.kind, .int .u32 r.id, .int .u32 r.at_, .slice r.na r.nodes.length r.nc, .slice r.fa r.facts.length r.fc, .int .u32 r.epoch, .slice r.sa r.spans.length r.sc, .int .i64 r.frm, .int .i64 r.til, .slice r.ea r.ents.length r.ec] 30)).alloc (.cells #[.int .u8 s.kind, .int .u32 s.id, .int .u32 s.at_, .slice s.na s.nodes.length s.nc, .slice s.fa s.facts.length s.fc, .int .u32 s.epoch, .slice s.sa s.spans.length s.sc, .int .i64 s.frm, .int .i64 s.til, .slice s.ea s.ents.length s.ec] 30)) w.heap.size #[.int .u8 r.kind, .int .u32 r.id, .int .u32 r.at_, .slice r.na r.nodes.length r.nc, .slice r.fa r.facts.length r.fc, .int .u32 r.epoch, .slice r.sa r.spans.length r.sc, .int .i64 r.frm, .int .i64 r.til, .slice r.ea r.ents.length r.ec] 30 := (Boxed.new w _ _).below ((Below.refl _ _).alloc (Nat.le_refl _) _)
  have y0 : Boxed ((w.alloc (.cells #[.int .u8 r.kind, .int .u32 r.id, .int .u32 r.at_, .slice r.na r.nodes.length r.nc, .slice r.fa r.facts.length r.fc, .int .u32 r.epoch, .slice r.sa r.spans.length r.sc, .int .i64 r.frm, .int .i64 r.til, .slice r.ea r.ents.length r.ec] 30)).alloc (.cells #[.int .u8 s.kind, .int .u32 s.id, .int .u32 s.at_, .slice s.na s.nodes.length s.nc, .slice s.fa s.facts.length s.fc, .int .u32 s.epoch, .slice s.sa s.spans.length s.sc, .int .i64 s.frm, .int .i64 s.til, .slice s.ea s.ents.length s.ec] 30)) (w.heap.size + 1) #[.int .u8 s.kind, .int .u32 s.id, .int .u32 s.at_, .slice s.na s.nodes.length s.nc, .slice s.fa s.facts.length s.fc, .int .u32 s.epoch, .slice s.sa s.spans.length s.sc, .int .i64 s.frm, .int .i64 s.til, .slice s.ea s.ents.length s.ec] 30 := by
    have := Boxed.new (w.alloc (.cells #[.int .u8 r.kind, .int .u32 r.id, .int .u32 r.at_, .slice r.na r.nodes.length r.nc, .slice r.fa r.facts.length r.fc, .int .u32 r.epoch, .slice r.sa r.spans.length r.sc, .int .i64 r.frm, .int .i64 r.til, .slice r.ea r.ents.length r.ec] 30)) #[.int .u8 s.kind, .int .u32 s.id, .int .u32 s.at_, .slice s.na s.nodes.length s.nc, .slice s.fa s.facts.length s.fc, .int .u32 s.epoch, .slice s.sa s.spans.length s.sc, .int .i64 s.frm, .int .i64 s.til, .slice s.ea s.ents.length s.ec] 30
    simpa using this
  generalize hW : ((w.alloc (.cells #[.int .u8 r.kind, .int .u32 r.id, .int .u32 r.at_, .slice r.na r.nodes.length r.nc, .slice r.fa r.facts.length r.fc, .int .u32 r.epoch, .slice r.sa r.spans.length r.sc, .int .i64 r.frm, .int .i64 r.til, .slice r.ea r.ents.length r.ec] 30)).alloc (.cells #[.int .u8 s.kind, .int .u32 s.id, .int .u32 s.at_, .slice s.na s.nodes.length s.nc, .slice s.fa s.facts.length s.fc, .int .u32 s.epoch, .slice s.sa s.spans.length s.sc, .int .i64 s.frm, .int .i64 s.til, .slice s.ea s.ents.length s.ec] 30)) = W0 at hb0 x0 y0
  have HW : Hid (_ = W0) := hW
  have H0 : Aside (Below w.heap.size w W0 ∧ Boxed W0 w.heap.size #[.int .u8 r.kind, .int .u32 r.id, .int .u32 r.at_, .slice r.na r.nodes.length r.nc, .slice r.fa r.facts.length r.fc, .int .u32 r.epoch, .slice r.sa r.spans.length r.sc, .int .i64 r.frm, .int .i64 r.til, .slice r.ea r.ents.length r.ec] 30 ∧ Boxed W0 (w.heap.size + 1) #[.int .u8 s.kind, .int .u32 s.id, .int .u32 s.at_, .slice s.na s.nodes.length s.nc, .slice s.fa s.facts.length s.fc, .int .u32 s.epoch, .slice s.sa s.spans.length s.sc, .int .i64 s.frm, .int .i64 s.til, .slice s.ea s.ents.length s.ec] 30 ∧ RecIn W0 r ∧ RecIn W0 s) := ⟨hb0, x0, y0, hR.keep hb0, hS.keep hb0⟩
  have hV1 := Heavy_any W0 r H0.out.2.2.2.1
  have hV2 := fun W (hW : Below W0.heap.size W0 W) => Heavy_any W s (H0.out.2.2.2.2.keep hW)
  obtain ⟨x, hxw⟩ : ∃ x, wrap64 (rw_ r) = x := ⟨_, rfl⟩
  obtain ⟨y, hyw⟩ : ∃ y, wrap64 (rw_ s) = y := ⟨_, rfl⟩
  rw [hxw] at hV1
  simp only [hyw] at hV2
  have HV2 : Aside _ := hV2
  have hKN : Aside (∀ W, Calls Try.prog 10 #[] W fun e w' => e = .returned (.bool true) ∧ Below W.heap.size W w') := fun W => known_any W
  clear hW hb0 x0 y0 hR hS hxw hyw hV2
  by_cases hbig : 2000 < x
  · go_enter Try.func7, Try.ntmps7
    go_wp2_with fail
    rw [HW.out]
    refine hV1.mono ?_
    rintro e w1 ⟨rfl, g1⟩
    have hK := hKN.out w1
    clear hV1
    go_wp2_with (go_at_call 10; refine hK.mono ?_; rintro e w2 ⟨rfl, g2⟩)
    go_ret
    exact ⟨rfl, H0.out.1.trans ((g1.trans (g2.mono g1.size)).mono H0.out.1.size)⟩
  by_cases hbig2 : 2000 < y
  · go_enter Try.func7, Try.ntmps7
    go_wp2_with fail
    rw [HW.out]
    refine hV1.mono ?_
    rintro e w1 ⟨rfl, g1⟩
    have hV := HV2.out w1 g1
    have y1 := H0.out.2.2.1.below g1
    have d0 := y1.cell (j := 0) rfl
    have d1 := y1.cell (j := 1) rfl
    have d2 := y1.cell (j := 2) rfl
    have d3 := y1.cell (j := 3) rfl
    have d4 := y1.cell (j := 4) rfl
    have d5 := y1.cell (j := 5) rfl
    have d6 := y1.cell (j := 6) rfl
    have d7 := y1.cell (j := 7) rfl
    have d8 := y1.cell (j := 8) rfl
    have d9 := y1.cell (j := 9) rfl
    clear hV1 y1
    go_wp2_with (go_at_call 9; refine hV.mono ?_; rintro e w2 ⟨rfl, g2⟩; refine Hid.out ?_)
    refine hid ?_
    have hK := hKN.out w2
    clear hV d0 d1 d2 d3 d4 d5 d6 d7 d8 d9
    go_wp2_with (go_at_call 10; refine hK.mono ?_; rintro e w3 ⟨rfl, g3⟩)
    go_ret
    have g12 := g1.trans (g2.mono g1.size)
    exact ⟨rfl, H0.out.1.trans ((g12.trans (g3.mono g12.size)).mono H0.out.1.size)⟩
  go_enter Try.func7, Try.ntmps7
  go_wp2_with fail
  rw [HW.out]
  refine hV1.mono ?_
  rintro e w1 ⟨rfl, g1⟩
  have hV := HV2.out w1 g1
  have y1 := H0.out.2.2.1.below g1
  have d0 := y1.cell (j := 0) rfl
  have d1 := y1.cell (j := 1) rfl
  have d2 := y1.cell (j := 2) rfl
  have d3 := y1.cell (j := 3) rfl
  have d4 := y1.cell (j := 4) rfl
  have d5 := y1.cell (j := 5) rfl
  have d6 := y1.cell (j := 6) rfl
  have d7 := y1.cell (j := 7) rfl
  have d8 := y1.cell (j := 8) rfl
  have d9 := y1.cell (j := 9) rfl
  clear hV1 y1
  go_wp2_with (go_at_call 9; refine hV.mono ?_; rintro e w2 ⟨rfl, g2⟩; refine Hid.out ?_)
  refine hid ?_
  have hK := hKN.out w2
  clear hV d0 d1 d2 d3 d4 d5 d6 d7 d8 d9
  go_wp2_with (go_at_call 10; refine hK.mono ?_; rintro e w3 ⟨rfl, g3⟩; refine Hid.out ?_)
  refine hid ?_
  have B3 : Aside (Below W0.heap.size W0 w3) := (g1.trans (g2.mono g1.size)).trans (g3.mono (Nat.le_trans g1.size g2.size))
  clear hK g1 g2 g3
  have x3 := H0.out.2.1.below B3.out
  have c1 := x3.cell (j := 1) rfl
  have c2 := x3.cell (j := 2) rfl
  have c4 := x3.cell (j := 4) rfl
  have c9 := x3.cell (j := 9) rfl
  have R3 := H0.out.2.2.2.1.keep B3.out
  have hM := make_any ka r.id r.at_ na 1 2 r.fa none r.ea r.facts.length r.fc 0 0 r.ents.length r.ec r.facts [] r.ents w3 hka R3.id R3.at_ hna R3.facts rfl R3.flen (no_nums2 w3) (by omega) (by omega) R3.ents rfl R3.elen
  clear x3 R3
  go_wp2_with (go_at_call 15; refine hM.mono ?_; rintro e w4 ⟨v4, rfl, hres, g4⟩; refine Hid.out ?_)
  refine hid ?_
  clear hM c1 c2 c4 c9
  obtain ⟨p, hv, hP, hps, -⟩ := hres
  subst hv
  have b5 : Below w4.heap.size w4 (w4.alloc (.cells (rcC p) 30)) := (Below.refl _ _).alloc (Nat.le_refl _) _
  have B4 : Below W0.heap.size W0 w4 := B3.out.trans (g4.mono B3.out.size)
  have xp := Boxed.new w4 (rcC p) 30
  have HP5 : Aside (Below W0.heap.size W0 (w4.alloc (.cells (rcC p) 30)) ∧ Mk (w4.alloc (.cells (rcC p) 30)) p ∧ Boxed (w4.alloc (.cells (rcC p) 30)) w4.heap.size (rcC p) 30) := ⟨B4.trans (b5.mono B4.size), ⟨hP.keep b5, hps⟩, xp⟩
  unfold rcV rcC
  go_upto_region 4 with fail
  have hW5 : w4.alloc (.cells #[.int .u8 p.kind, .int .u32 p.id, .int .u32 p.at_, .slice p.na p.nodes.length p.nc, .slice p.fa p.facts.length p.fc, .int .u32 p.epoch, .slice p.sa p.spans.length p.sc, .int .i64 p.frm, .int .i64 p.til, .slice p.ea p.ents.length p.ec] 30) = w4.alloc (.cells (rcC p) 30) := rfl
  rw [hW5]
  obtain ⟨P4, hP4⟩ : ∃ P4, w4.heap.size = P4 := ⟨_, rfl⟩
  rw [hP4] at HP5 ⊢
  generalize w4.alloc (.cells (rcC p) 30) = w5 at HP5 ⊢
  clear hP hps b5 B4 xp g4 hW5 hP4
  have y5 := H0.out.2.2.1.below HP5.out.1
  have c1 := y5.cell (j := 1) rfl
  have c2 := y5.cell (j := 2) rfl
  have c4 := y5.cell (j := 4) rfl
  have c9 := y5.cell (j := 9) rfl
  have S5 := H0.out.2.2.2.2.keep HP5.out.1
  have hM := make_any kb s.id s.at_ nb 1 2 s.fa none s.ea s.facts.length s.fc 0 0 s.ents.length s.ec s.facts [] s.ents w5 hkb S5.id S5.at_ hnb S5.facts rfl S5.flen (no_nums2 w5) (by omega) (by omega) S5.ents rfl S5.elen
  clear y5 S5
  go_wp2_with (go_at_call 15; refine hM.mono ?_; rintro e w6 ⟨v6, rfl, hres, g6⟩; refine Hid.out ?_)
  refine hid ?_
  clear hM c1 c2 c4 c9
  obtain ⟨q, hv, hQ, hqs, -⟩ := hres
  subst hv
  have b7 : Below w6.heap.size w6 (w6.alloc (.cells (rcC q) 30)) := (Below.refl _ _).alloc (Nat.le_refl _) _
  have g7 : Below w5.heap.size w5 (w6.alloc (.cells (rcC q) 30)) := g6.trans (b7.mono g6.size)
  have xq := Boxed.new w6 (rcC q) 30
  have HQ7 : Aside (Below W0.heap.size W0 (w6.alloc (.cells (rcC q) 30)) ∧ Mk (w6.alloc (.cells (rcC q) 30)) p ∧ Boxed (w6.alloc (.cells (rcC q) 30)) P4 (rcC p) 30 ∧ Mk (w6.alloc (.cells (rcC q) 30)) q ∧ Boxed (w6.alloc (.cells (rcC q) 30)) w6.heap.size (rcC q) 30) := ⟨HP5.out.1.trans (g7.mono HP5.out.1.size), HP5.out.2.1.keep g7, HP5.out.2.2.below g7, ⟨hQ.keep b7, hqs⟩, xq⟩
  unfold rcV rcC
  go_upto_region 5 with fail
  have hW7 : w6.alloc (.cells #[.int .u8 q.kind, .int .u32 q.id, .int .u32 q.at_, .slice q.na q.nodes.length q.nc, .slice q.fa q.facts.length q.fc, .int .u32 q.epoch, .slice q.sa q.spans.length q.sc, .int .i64 q.frm, .int .i64 q.til, .slice q.ea q.ents.length q.ec] 30) = w6.alloc (.cells (rcC q) 30) := rfl
  rw [hW7]
  obtain ⟨Q6, hQ6⟩ : ∃ Q6, w6.heap.size = Q6 := ⟨_, rfl⟩
  rw [hQ6] at HQ7 ⊢
  generalize w6.alloc (.cells (rcC q) 30) = w7 at HQ7 ⊢
  clear hQ hqs b7 g7 xq g6 hW7 hQ6 HP5
  have c0 : w7.cell? ⟨P4, 0, none⟩ = some (.int .u8 p.kind) := HQ7.out.2.2.1.cell (j := 0) rfl
  have c1 : w7.cell? ⟨P4, 1, none⟩ = some (.int .u32 p.id) := HQ7.out.2.2.1.cell (j := 1) rfl
  have c2 : w7.cell? ⟨P4, 2, none⟩ = some (.int .u32 p.at_) := HQ7.out.2.2.1.cell (j := 2) rfl
  have c3 : w7.cell? ⟨P4, 3, none⟩ = some (.slice p.na p.nodes.length p.nc) := HQ7.out.2.2.1.cell (j := 3) rfl
  have c4 : w7.cell? ⟨P4, 4, none⟩ = some (.slice p.fa p.facts.length p.fc) := HQ7.out.2.2.1.cell (j := 4) rfl
  have c5 : w7.cell? ⟨P4, 5, none⟩ = some (.int .u32 p.epoch) := HQ7.out.2.2.1.cell (j := 5) rfl
  have c6 : w7.cell? ⟨P4, 6, none⟩ = some (.slice p.sa p.spans.length p.sc) := HQ7.out.2.2.1.cell (j := 6) rfl
  have c7 : w7.cell? ⟨P4, 7, none⟩ = some (.int .i64 p.frm) := HQ7.out.2.2.1.cell (j := 7) rfl
  have c8 : w7.cell? ⟨P4, 8, none⟩ = some (.int .i64 p.til) := HQ7.out.2.2.1.cell (j := 8) rfl
  have c9 : w7.cell? ⟨P4, 9, none⟩ = some (.slice p.ea p.ents.length p.ec) := HQ7.out.2.2.1.cell (j := 9) rfl
  have hE1 := enc_mk w7 p HQ7.out.2.1
  obtain ⟨z1, hz1⟩ : ∃ z, eno p = z := ⟨_, rfl⟩
  have HZ1 : Aside (eno p = z1) := hz1
  rw [hz1] at hE1
  clear hz1
  go_wp2_with (go_at_call 11; refine hE1.mono ?_; rintro e w8 ⟨va, rfl, sa, g8⟩; refine Hid.out ?_)
  refine hid ?_
  have H8 : Aside (Below W0.heap.size W0 w8 ∧ Mk w8 p ∧ Boxed w8 P4 (rcC p) 30 ∧ Mk w8 q ∧ Boxed w8 Q6 (rcC q) 30 ∧ Strs w8 va (enb p)) := ⟨HQ7.out.1.trans (g8.mono HQ7.out.1.size), HQ7.out.2.1.keep g8, HQ7.out.2.2.1.below g8, HQ7.out.2.2.2.1.keep g8, HQ7.out.2.2.2.2.below g8, sa.strs⟩
  clear hE1 sa g8 HQ7 c0 c1 c2 c3 c4 c5 c6 c7 c8 c9
  have c0 : w8.cell? ⟨Q6, 0, none⟩ = some (.int .u8 q.kind) := H8.out.2.2.2.2.1.cell (j := 0) rfl
  have c1 : w8.cell? ⟨Q6, 1, none⟩ = some (.int .u32 q.id) := H8.out.2.2.2.2.1.cell (j := 1) rfl
  have c2 : w8.cell? ⟨Q6, 2, none⟩ = some (.int .u32 q.at_) := H8.out.2.2.2.2.1.cell (j := 2) rfl
  have c3 : w8.cell? ⟨Q6, 3, none⟩ = some (.slice q.na q.nodes.length q.nc) := H8.out.2.2.2.2.1.cell (j := 3) rfl
  have c4 : w8.cell? ⟨Q6, 4, none⟩ = some (.slice q.fa q.facts.length q.fc) := H8.out.2.2.2.2.1.cell (j := 4) rfl
  have c5 : w8.cell? ⟨Q6, 5, none⟩ = some (.int .u32 q.epoch) := H8.out.2.2.2.2.1.cell (j := 5) rfl
  have c6 : w8.cell? ⟨Q6, 6, none⟩ = some (.slice q.sa q.spans.length q.sc) := H8.out.2.2.2.2.1.cell (j := 6) rfl
  have c7 : w8.cell? ⟨Q6, 7, none⟩ = some (.int .i64 q.frm) := H8.out.2.2.2.2.1.cell (j := 7) rfl
  have c8 : w8.cell? ⟨Q6, 8, none⟩ = some (.int .i64 q.til) := H8.out.2.2.2.2.1.cell (j := 8) rfl
  have c9 : w8.cell? ⟨Q6, 9, none⟩ = some (.slice q.ea q.ents.length q.ec) := H8.out.2.2.2.2.1.cell (j := 9) rfl
  have hE2 := enc_mk w8 q H8.out.2.2.2.1
  obtain ⟨z2, hz2⟩ : ∃ z, eno q = z := ⟨_, rfl⟩
  have HZ2 : Aside (eno q = z2) := hz2
  rw [hz2] at hE2
  clear hz2
  go_wp2_with (go_at_call 11; refine hE2.mono ?_; rintro e w9 ⟨vb, rfl, sb, g9⟩; refine Hid.out ?_)
  refine hid ?_
  have H9 : Aside (Below w.heap.size w w9 ∧ Mk w9 p ∧ Boxed w9 P4 (rcC p) 30 ∧ Mk w9 q ∧ Boxed w9 Q6 (rcC q) 30 ∧ Strs w9 va (enb p) ∧ Strs w9 vb (enb q)) := ⟨H0.out.1.trans ((H8.out.1.trans (g9.mono H8.out.1.size)).mono H0.out.1.size), H8.out.2.1.keep g9, H8.out.2.2.1.below g9, H8.out.2.2.2.1.keep g9, H8.out.2.2.2.2.1.below g9, H8.out.2.2.2.2.2.keep2 g9, sb.strs⟩
  clear hE2 sb g9 H8 hbig hbig2 c0 c1 c2 c3 c4 c5 c6 c7 c8 c9
  have hzz1 : z1 = 0 ∨ z1 = 3 := by have := HZ1.out; unfold eno at this; split at this <;> omega
  have hzz2 : z2 = 0 ∨ z2 = 3 := by have := HZ2.out; unfold eno at this; split at this <;> omega
  rcases hzz1 with h1 | h1
  rotate_left
  · subst h1
    go_wp2
    go_ret
    exact ⟨rfl, H9.out.1⟩
  subst h1
  rcases hzz2 with h2 | h2
  rotate_left
  · subst h2
    go_wp2
    go_ret
    exact ⟨rfl, H9.out.1⟩
  subst h2
  have HL : Aside (enb p = recB (pr p) ∧ enb q = recB (pr q)) := by
    have e1 := HZ1.out
    have e2 := HZ2.out
    unfold eno at e1 e2
    unfold enb
    constructor
    · split at e1
      · rw [if_pos (by assumption)]
      · omega
    · split at e2
      · rw [if_pos (by assumption)]
      · omega
  have hiff : enb p = enb q ↔ pr p = pr q := by
    rw [HL.out.1, HL.out.2]
    exact ⟨fun h => recB_inj H9.out.2.1.snd H9.out.2.1.mem.typed H9.out.2.2.2.1.snd H9.out.2.2.2.1.mem.typed h, fun h => by rw [h]⟩
  obtain ⟨t, ht⟩ := is_or_not (pr p = pr q)
  have hS : ∀ W, Below w9.heap.size w9 W → Calls Try.prog 17 #[.agg #[.int .u8 p.kind, .int .u32 p.id, .int .u32 p.at_, .slice p.na p.nodes.length p.nc, .slice p.fa p.facts.length p.fc, .int .u32 p.epoch, .slice p.sa p.spans.length p.sc, .int .i64 p.frm, .int .i64 p.til, .slice p.ea p.ents.length p.ec], .agg #[.int .u8 q.kind, .int .u32 q.id, .int .u32 q.at_, .slice q.na q.nodes.length q.nc, .slice q.fa q.facts.length q.fc, .int .u32 q.epoch, .slice q.sa q.spans.length q.sc, .int .i64 q.frm, .int .i64 q.til, .slice q.ea q.ents.length q.ec]] W fun e w' => e = .returned (.bool t) ∧ Aside (Below w9.heap.size w9 w') := fun W hW => by
    have := same_mk W p q (H9.out.2.1.keep hW) (H9.out.2.2.2.1.keep hW) t ht
    exact this.mono fun e w' ⟨h1, h2⟩ => ⟨h1, hW.trans (h2.mono hW.size)⟩
  have HI : Aside (enb p = enb q ↔ t = true) := hiff.trans ht.symm
  clear hiff ht HL HZ1 HZ2
  generalize enb p = la at H9 HI
  generalize enb q = lb at H9 HI
  go_wp2_with fail
  go_region_held3 (fun w' => Below w9.heap.size w9 w' ∧ w'.cell? ⟨P4, 0, none⟩ = some (.int .u8 p.kind) ∧ w'.cell? ⟨P4, 1, none⟩ = some (.int .u32 p.id) ∧ w'.cell? ⟨P4, 2, none⟩ = some (.int .u32 p.at_) ∧ w'.cell? ⟨P4, 3, none⟩ = some (.slice p.na p.nodes.length p.nc) ∧ w'.cell? ⟨P4, 4, none⟩ = some (.slice p.fa p.facts.length p.fc) ∧ w'.cell? ⟨P4, 5, none⟩ = some (.int .u32 p.epoch) ∧ w'.cell? ⟨P4, 6, none⟩ = some (.slice p.sa p.spans.length p.sc) ∧ w'.cell? ⟨P4, 7, none⟩ = some (.int .i64 p.frm) ∧ w'.cell? ⟨P4, 8, none⟩ = some (.int .i64 p.til) ∧ w'.cell? ⟨P4, 9, none⟩ = some (.slice p.ea p.ents.length p.ec) ∧ w'.cell? ⟨Q6, 0, none⟩ = some (.int .u8 q.kind) ∧ w'.cell? ⟨Q6, 1, none⟩ = some (.int .u32 q.id) ∧ w'.cell? ⟨Q6, 2, none⟩ = some (.int .u32 q.at_) ∧ w'.cell? ⟨Q6, 3, none⟩ = some (.slice q.na q.nodes.length q.nc) ∧ w'.cell? ⟨Q6, 4, none⟩ = some (.slice q.fa q.facts.length q.fc) ∧ w'.cell? ⟨Q6, 5, none⟩ = some (.int .u32 q.epoch) ∧ w'.cell? ⟨Q6, 6, none⟩ = some (.slice q.sa q.spans.length q.sc) ∧ w'.cell? ⟨Q6, 7, none⟩ = some (.int .i64 q.frm) ∧ w'.cell? ⟨Q6, 8, none⟩ = some (.int .i64 q.til) ∧ w'.cell? ⟨Q6, 9, none⟩ = some (.slice q.ea q.ents.length q.ec) ∧ (convert 33 9 va).run Try.prog w' = .ok (.string ⟨la.toArray⟩) w' ∧ (convert 33 9 vb).run Try.prog w' = .ok (.string ⟨lb.toArray⟩) w')
    (first | with_reducible assumption | (refine rec2_of H9.out.2.2.1 H9.out.2.2.2.2.1 H9.out.2.2.2.2.2.1 H9.out.2.2.2.2.2.2 ?_; repeat (first | with_reducible exact Below.refl _ _ | with_reducible exact hbA.out | (with_reducible refine Below.drew ?_))))
    ((go_at_call 17; refine (hS _ ?_).mono ?_; (focus (apply And.left; assumption)); rintro e wa ⟨rfl, hbA⟩))
  all_goals
    go_wp2
    go_ret
    refine ⟨ret_bool ?_, H9.out.1.trans (hbA.out.mono H9.out.1.size)⟩
    have h := HI.out
    cases t with
    | false =>
      have hne : ¬ la = lb := fun e => by have := h.1 e; cases this
      simp [str_eq, hne]
    | true =>
      have he : la = lb := h.2 rfl
      simp [he]
end Go.Proofs.Ytlokamblbhooaaa.code
