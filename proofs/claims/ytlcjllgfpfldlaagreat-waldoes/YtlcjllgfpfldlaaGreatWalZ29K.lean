/-
 The chapter's Sound.
 The chapter's Encode.
 The contracts of the statements' own heavy and Heavy: how much facts, and a record, weigh (modulo 2^64).
 A record that may be and weighs little has few bytes: plain.
-/
import Derived.Test.YtlcjllgfpfldlaaGreatWalZ28K
set_option maxHeartbeats 16000000
open Go.ChangeShapes Go.WideShapes Go.ChangeAt Go.RowKit Go.Deep
set_option linter.unusedVariables false
set_option maxRecDepth 100000
set_option linter.unusedSimpArgs false
namespace Go.Proofs.YtlcjllgfpfldlaaGreat
namespace code
open dims (cell_lt own_mono ret_bool)
def bareR_ (r : Rc) (l : List UInt8) : Bool := bareB r.id r.at_ r.nodes.length r.facts.length r.epoch r.spans.length r.frm r.til r.ents.length l

theorem snd_ref1 (r : Rc) (hk : r.kind = 1) : sndRec (pr r) = (bareR_ r [73, 78, 70] && (nodesOk r.nodes && (factsOk (r.facts.map pf)))) := by
 unfold bareR_ bareB
 rw [show hasT [73, 78, 70] ([73, 78, 70] : List UInt8).length 73 = true from rfl]
 rw [show hasT [73, 78, 70] ([73, 78, 70] : List UInt8).length 65 = false from rfl]
 rw [show hasT [73, 78, 70] ([73, 78, 70] : List UInt8).length 78 = true from rfl]
 rw [show hasT [73, 78, 70] ([73, 78, 70] : List UInt8).length 70 = true from rfl]
 rw [show hasT [73, 78, 70] ([73, 78, 70] : List UInt8).length 77 = false from rfl]
 rw [show hasT [73, 78, 70] ([73, 78, 70] : List UInt8).length 82 = false from rfl]
 rw [Bool.eq_iff_iff]
 simp only [sndRec, pr, hk, bareI, bareA, bareN, bareF, bareM, bareR, Bool.and_eq_true, Bool.or_eq_true, decide_eq_true_eq, List.length_map, reduceCtorEq, if_true, if_false, true_or, or_true, or_false, false_or, Int.reduceEq, or_self, true_and, and_true, Bool.false_eq_true]
 try (constructor <;> intro hh <;> simp_all)

theorem snd_ref2 (r : Rc) (hk : r.kind = 2) : sndRec (pr r) = (bareR_ r [73, 65, 78] && (nodesOk r.nodes)) := by
 unfold bareR_ bareB
 rw [show hasT [73, 65, 78] ([73, 65, 78] : List UInt8).length 73 = true from rfl]
 rw [show hasT [73, 65, 78] ([73, 65, 78] : List UInt8).length 65 = true from rfl]
 rw [show hasT [73, 65, 78] ([73, 65, 78] : List UInt8).length 78 = true from rfl]
 rw [show hasT [73, 65, 78] ([73, 65, 78] : List UInt8).length 70 = false from rfl]
 rw [show hasT [73, 65, 78] ([73, 65, 78] : List UInt8).length 77 = false from rfl]
 rw [show hasT [73, 65, 78] ([73, 65, 78] : List UInt8).length 82 = false from rfl]
 rw [Bool.eq_iff_iff]
 simp only [sndRec, pr, hk, bareI, bareA, bareN, bareF, bareM, bareR, Bool.and_eq_true, Bool.or_eq_true, decide_eq_true_eq, List.length_map, reduceCtorEq, if_true, if_false, true_or, or_true, or_false, false_or, Int.reduceEq, or_self, true_and, and_true, Bool.false_eq_true]
 try (constructor <;> intro hh <;> simp_all)

theorem snd_ref3 (r : Rc) (hk : r.kind = 3) : sndRec (pr r) = (bareR_ r [73]) := by
 unfold bareR_ bareB
 rw [show hasT [73] ([73] : List UInt8).length 73 = true from rfl]
 rw [show hasT [73] ([73] : List UInt8).length 65 = false from rfl]
 rw [show hasT [73] ([73] : List UInt8).length 78 = false from rfl]
 rw [show hasT [73] ([73] : List UInt8).length 70 = false from rfl]
 rw [show hasT [73] ([73] : List UInt8).length 77 = false from rfl]
 rw [show hasT [73] ([73] : List UInt8).length 82 = false from rfl]
 rw [Bool.eq_iff_iff]
 simp only [sndRec, pr, hk, bareI, bareA, bareN, bareF, bareM, bareR, Bool.and_eq_true, Bool.or_eq_true, decide_eq_true_eq, List.length_map, reduceCtorEq, if_true, if_false, true_or, or_true, or_false, false_or, Int.reduceEq, or_self, true_and, and_true, Bool.false_eq_true]
 try (constructor <;> intro hh <;> simp_all)

theorem snd_ref4 (r : Rc) (hk : r.kind = 4) : sndRec (pr r) = (bareR_ r [73]) := by
 unfold bareR_ bareB
 rw [show hasT [73] ([73] : List UInt8).length 73 = true from rfl]
 rw [show hasT [73] ([73] : List UInt8).length 65 = false from rfl]
 rw [show hasT [73] ([73] : List UInt8).length 78 = false from rfl]
 rw [show hasT [73] ([73] : List UInt8).length 70 = false from rfl]
 rw [show hasT [73] ([73] : List UInt8).length 77 = false from rfl]
 rw [show hasT [73] ([73] : List UInt8).length 82 = false from rfl]
 rw [Bool.eq_iff_iff]
 simp only [sndRec, pr, hk, bareI, bareA, bareN, bareF, bareM, bareR, Bool.and_eq_true, Bool.or_eq_true, decide_eq_true_eq, List.length_map, reduceCtorEq, if_true, if_false, true_or, or_true, or_false, false_or, Int.reduceEq, or_self, true_and, and_true, Bool.false_eq_true]
 try (constructor <;> intro hh <;> simp_all)

theorem snd_ref5 (r : Rc) (hk : r.kind = 5) : sndRec (pr r) = (bareR_ r [73]) := by
 unfold bareR_ bareB
 rw [show hasT [73] ([73] : List UInt8).length 73 = true from rfl]
 rw [show hasT [73] ([73] : List UInt8).length 65 = false from rfl]
 rw [show hasT [73] ([73] : List UInt8).length 78 = false from rfl]
 rw [show hasT [73] ([73] : List UInt8).length 70 = false from rfl]
 rw [show hasT [73] ([73] : List UInt8).length 77 = false from rfl]
 rw [show hasT [73] ([73] : List UInt8).length 82 = false from rfl]
 rw [Bool.eq_iff_iff]
 simp only [sndRec, pr, hk, bareI, bareA, bareN, bareF, bareM, bareR, Bool.and_eq_true, Bool.or_eq_true, decide_eq_true_eq, List.length_map, reduceCtorEq, if_true, if_false, true_or, or_true, or_false, false_or, Int.reduceEq, or_self, true_and, and_true, Bool.false_eq_true]
 try (constructor <;> intro hh <;> simp_all)

theorem snd_ref6 (r : Rc) (hk : r.kind = 6) : sndRec (pr r) = (bareR_ r [77] && (spansOk r.spans)) := by
 unfold bareR_ bareB
 rw [show hasT [77] ([77] : List UInt8).length 73 = false from rfl]
 rw [show hasT [77] ([77] : List UInt8).length 65 = false from rfl]
 rw [show hasT [77] ([77] : List UInt8).length 78 = false from rfl]
 rw [show hasT [77] ([77] : List UInt8).length 70 = false from rfl]
 rw [show hasT [77] ([77] : List UInt8).length 77 = true from rfl]
 rw [show hasT [77] ([77] : List UInt8).length 82 = false from rfl]
 rw [Bool.eq_iff_iff]
 simp only [sndRec, pr, hk, bareI, bareA, bareN, bareF, bareM, bareR, Bool.and_eq_true, Bool.or_eq_true, decide_eq_true_eq, List.length_map, reduceCtorEq, if_true, if_false, true_or, or_true, or_false, false_or, Int.reduceEq, or_self, true_and, and_true, Bool.false_eq_true]
 try (constructor <;> intro hh <;> simp_all)

theorem snd_ref7 (r : Rc) (hk : r.kind = 7) : sndRec (pr r) = (bareR_ r [73, 82] && (entsOk (r.ents.map pe) && (decide (0 ≤ r.frm ∧ r.frm ≤ 10000) && (decide (0 ≤ r.til ∧ r.til ≤ 10000))))) := by
 unfold bareR_ bareB
 rw [show hasT [73, 82] ([73, 82] : List UInt8).length 73 = true from rfl]
 rw [show hasT [73, 82] ([73, 82] : List UInt8).length 65 = false from rfl]
 rw [show hasT [73, 82] ([73, 82] : List UInt8).length 78 = false from rfl]
 rw [show hasT [73, 82] ([73, 82] : List UInt8).length 70 = false from rfl]
 rw [show hasT [73, 82] ([73, 82] : List UInt8).length 77 = false from rfl]
 rw [show hasT [73, 82] ([73, 82] : List UInt8).length 82 = true from rfl]
 rw [Bool.eq_iff_iff]
 simp only [sndRec, pr, hk, bareI, bareA, bareN, bareF, bareM, bareR, Bool.and_eq_true, Bool.or_eq_true, decide_eq_true_eq, List.length_map, reduceCtorEq, if_true, if_false, true_or, or_true, or_false, false_or, Int.reduceEq, or_self, true_and, and_true, Bool.false_eq_true]
 try (constructor <;> intro hh <;> simp_all)

theorem refSound_1 (w : World) (r : Rc) (hR : RecIn w r) (hk : r.kind = 1) : Calls Tryz.prog 55 #[rcV r] w fun e w' => e = .returned (.bool (sndRec (pr r))) ∧ Below w.heap.size w w' := by
 obtain ⟨t0, ht0⟩ : ∃ t, (bareR_ r [73, 78, 70]) = t := ⟨_, rfl⟩
 obtain ⟨t1, ht1⟩ : ∃ t, (nodesOk r.nodes) = t := ⟨_, rfl⟩
 obtain ⟨t2, ht2⟩ : ∃ t, (factsOk (r.facts.map pf)) = t := ⟨_, rfl⟩
 have E : Hid (sndRec (pr r) = (t0 && (t1 && (t2)))) := by show _ = _; rw [snd_ref1 r hk, ht0, ht1, ht2]
 have hB : Below w.heap.size w (w.alloc (.cells #[.int .u8 1, .int .u32 r.id, .int .u32 r.at_, .slice r.na r.nodes.length r.nc, .slice r.fa r.facts.length r.fc, .int .u32 r.epoch, .slice r.sa r.spans.length r.sc, .int .i64 r.frm, .int .i64 r.til, .slice r.ea r.ents.length r.ec] 46)) := (Below.refl _ _).alloc (nrQ _) _
 have hx := Boxed.new w #[.int .u8 1, .int .u32 r.id, .int .u32 r.at_, .slice r.na r.nodes.length r.nc, .slice r.fa r.facts.length r.fc, .int .u32 r.epoch, .slice r.sa r.spans.length r.sc, .int .i64 r.frm, .int .i64 r.til, .slice r.ea r.ents.length r.ec] 46
 have hR0 := hR.keep hB
 have hC1 := bare_val 1 r.id r.at_ r.epoch r.frm r.til r.na r.fa r.sa r.ea r.nodes.length r.nc r.facts.length r.fc r.spans.length r.sc r.ents.length r.ec [73, 78, 70] 3 rfl (by omega) (w.alloc (.cells #[.int .u8 1, .int .u32 r.id, .int .u32 r.at_, .slice r.na r.nodes.length r.nc, .slice r.fa r.facts.length r.fc, .int .u32 r.epoch, .slice r.sa r.spans.length r.sc, .int .i64 r.frm, .int .i64 r.til, .slice r.ea r.ents.length r.ec] 46))
 have e0 : bareB r.id r.at_ r.nodes.length r.facts.length r.epoch r.spans.length r.frm r.til r.ents.length [73, 78, 70] = t0 := ht0
 rw [e0] at hC1
 generalize hW0 : w.alloc (.cells #[.int .u8 1, .int .u32 r.id, .int .u32 r.at_, .slice r.na r.nodes.length r.nc, .slice r.fa r.facts.length r.fc, .int .u32 r.epoch, .slice r.sa r.spans.length r.sc, .int .i64 r.frm, .int .i64 r.til, .slice r.ea r.ents.length r.ec] 46) = W0 at hB hR0 hC1 hx
 have HW : Hid (w.alloc (.cells #[.int .u8 1, .int .u32 r.id, .int .u32 r.at_, .slice r.na r.nodes.length r.nc, .slice r.fa r.facts.length r.fc, .int .u32 r.epoch, .slice r.sa r.spans.length r.sc, .int .i64 r.frm, .int .i64 r.til, .slice r.ea r.ents.length r.ec] 46) = W0) := hW0
 have HR : Aside (RecIn W0 r) := hR0
 have H0 : Aside (Below w.heap.size w W0 ∧ Boxed W0 w.heap.size #[.int .u8 1, .int .u32 r.id, .int .u32 r.at_, .slice r.na r.nodes.length r.nc, .slice r.fa r.facts.length r.fc, .int .u32 r.epoch, .slice r.sa r.spans.length r.sc, .int .i64 r.frm, .int .i64 r.til, .slice r.ea r.ents.length r.ec] 46) := ⟨hB, hx⟩
 refine calls_rc r ?_
 rw [hk]
 clear hR hR0 hB hx hW0 hk e0
 go_enter Tryz.func55, Tryz.ntmps55
 go_wp2_with fail
 rw [HW.out]
 refine hC1.mono ?_
 rintro e w1 ⟨rfl, b1⟩
 clear hC1
 cases t0 with
 | false =>
  go_wp2
  go_ret
  exact ⟨ret_bool (by rw [show _ = _ from E.out]; simp), H0.out.1.trans (b1.mono H0.out.1.size)⟩
 | true =>
  have q1 := (H0.out.2.below b1).cell (j := 3) rfl
  have hC2 := refSoundNodes_any r.na r.nodes.length r.nc r.nodes w1 (HR.out.nodes.keep b1) rfl HR.out.nlen
  rw [ht1] at hC2
  go_wp2_with (go_at_call 82; refine hC2.mono ?_; rintro e w2 ⟨rfl, g2⟩; refine Hid.out ?_)
  refine hid ?_
  have b2 := b1.trans (g2.mono b1.size)
  clear hC2 g2 q1
  cases t1 with
  | false =>
   go_wp2
   go_ret
   exact ⟨ret_bool (by rw [show _ = _ from E.out]; simp), H0.out.1.trans (b2.mono H0.out.1.size)⟩
  | true =>
   have q2 := (H0.out.2.below b2).cell (j := 4) rfl
   have hC3 := refSoundFacts_any r.fa r.facts.length r.fc r.facts w2 (HR.out.facts.keep b2) rfl HR.out.flen
   rw [ht2] at hC3
   go_wp2_with (go_at_call 83; refine hC3.mono ?_; rintro e w3 ⟨rfl, hww⟩; have hww2 := hww.symm; clear hww; subst hww2; refine Hid.out ?_)
   refine hid ?_
   clear hC3 q2
   cases t2 with
   | false =>
    go_wp2
    go_ret
    exact ⟨ret_bool (by rw [show _ = _ from E.out]; simp), H0.out.1.trans (b2.mono H0.out.1.size)⟩
   | true =>
    go_wp2
    go_ret
    exact ⟨ret_bool (by rw [show _ = _ from E.out]; simp), H0.out.1.trans (b2.mono H0.out.1.size)⟩

theorem refSound_2 (w : World) (r : Rc) (hR : RecIn w r) (hk : r.kind = 2) : Calls Tryz.prog 55 #[rcV r] w fun e w' => e = .returned (.bool (sndRec (pr r))) ∧ Below w.heap.size w w' := by
 obtain ⟨t0, ht0⟩ : ∃ t, (bareR_ r [73, 65, 78]) = t := ⟨_, rfl⟩
 obtain ⟨t1, ht1⟩ : ∃ t, (nodesOk r.nodes) = t := ⟨_, rfl⟩
 have E : Hid (sndRec (pr r) = (t0 && (t1))) := by show _ = _; rw [snd_ref2 r hk, ht0, ht1]
 have hB : Below w.heap.size w (w.alloc (.cells #[.int .u8 2, .int .u32 r.id, .int .u32 r.at_, .slice r.na r.nodes.length r.nc, .slice r.fa r.facts.length r.fc, .int .u32 r.epoch, .slice r.sa r.spans.length r.sc, .int .i64 r.frm, .int .i64 r.til, .slice r.ea r.ents.length r.ec] 46)) := (Below.refl _ _).alloc (nrQ _) _
 have hx := Boxed.new w #[.int .u8 2, .int .u32 r.id, .int .u32 r.at_, .slice r.na r.nodes.length r.nc, .slice r.fa r.facts.length r.fc, .int .u32 r.epoch, .slice r.sa r.spans.length r.sc, .int .i64 r.frm, .int .i64 r.til, .slice r.ea r.ents.length r.ec] 46
 have hR0 := hR.keep hB
 have hC1 := bare_val 2 r.id r.at_ r.epoch r.frm r.til r.na r.fa r.sa r.ea r.nodes.length r.nc r.facts.length r.fc r.spans.length r.sc r.ents.length r.ec [73, 65, 78] 3 rfl (by omega) (w.alloc (.cells #[.int .u8 2, .int .u32 r.id, .int .u32 r.at_, .slice r.na r.nodes.length r.nc, .slice r.fa r.facts.length r.fc, .int .u32 r.epoch, .slice r.sa r.spans.length r.sc, .int .i64 r.frm, .int .i64 r.til, .slice r.ea r.ents.length r.ec] 46))
 have e0 : bareB r.id r.at_ r.nodes.length r.facts.length r.epoch r.spans.length r.frm r.til r.ents.length [73, 65, 78] = t0 := ht0
 rw [e0] at hC1
 generalize hW0 : w.alloc (.cells #[.int .u8 2, .int .u32 r.id, .int .u32 r.at_, .slice r.na r.nodes.length r.nc, .slice r.fa r.facts.length r.fc, .int .u32 r.epoch, .slice r.sa r.spans.length r.sc, .int .i64 r.frm, .int .i64 r.til, .slice r.ea r.ents.length r.ec] 46) = W0 at hB hR0 hC1 hx
 have HW : Hid (w.alloc (.cells #[.int .u8 2, .int .u32 r.id, .int .u32 r.at_, .slice r.na r.nodes.length r.nc, .slice r.fa r.facts.length r.fc, .int .u32 r.epoch, .slice r.sa r.spans.length r.sc, .int .i64 r.frm, .int .i64 r.til, .slice r.ea r.ents.length r.ec] 46) = W0) := hW0
 have HR : Aside (RecIn W0 r) := hR0
 have H0 : Aside (Below w.heap.size w W0 ∧ Boxed W0 w.heap.size #[.int .u8 2, .int .u32 r.id, .int .u32 r.at_, .slice r.na r.nodes.length r.nc, .slice r.fa r.facts.length r.fc, .int .u32 r.epoch, .slice r.sa r.spans.length r.sc, .int .i64 r.frm, .int .i64 r.til, .slice r.ea r.ents.length r.ec] 46) := ⟨hB, hx⟩
 refine calls_rc r ?_
 rw [hk]
 clear hR hR0 hB hx hW0 hk e0
 go_enter Tryz.func55, Tryz.ntmps55
 go_wp2_with fail
 rw [HW.out]
 refine hC1.mono ?_
 rintro e w1 ⟨rfl, b1⟩
 clear hC1
 cases t0 with
 | false =>
  go_wp2
  go_ret
  exact ⟨ret_bool (by rw [show _ = _ from E.out]; simp), H0.out.1.trans (b1.mono H0.out.1.size)⟩
 | true =>
  have q1 := (H0.out.2.below b1).cell (j := 3) rfl
  have hC2 := refSoundNodes_any r.na r.nodes.length r.nc r.nodes w1 (HR.out.nodes.keep b1) rfl HR.out.nlen
  rw [ht1] at hC2
  go_wp2_with (go_at_call 82; refine hC2.mono ?_; rintro e w2 ⟨rfl, g2⟩; refine Hid.out ?_)
  refine hid ?_
  have b2 := b1.trans (g2.mono b1.size)
  clear hC2 g2 q1
  cases t1 with
  | false =>
   go_wp2
   go_ret
   exact ⟨ret_bool (by rw [show _ = _ from E.out]; simp), H0.out.1.trans (b2.mono H0.out.1.size)⟩
  | true =>
   go_wp2
   go_ret
   exact ⟨ret_bool (by rw [show _ = _ from E.out]; simp), H0.out.1.trans (b2.mono H0.out.1.size)⟩

theorem refSound_3 (w : World) (r : Rc) (hR : RecIn w r) (hk : r.kind = 3) : Calls Tryz.prog 55 #[rcV r] w fun e w' => e = .returned (.bool (sndRec (pr r))) ∧ Below w.heap.size w w' := by
 obtain ⟨t0, ht0⟩ : ∃ t, (bareR_ r [73]) = t := ⟨_, rfl⟩
 have E : Hid (sndRec (pr r) = (t0)) := by show _ = _; rw [snd_ref3 r hk, ht0]
 have hB : Below w.heap.size w (w.alloc (.cells #[.int .u8 3, .int .u32 r.id, .int .u32 r.at_, .slice r.na r.nodes.length r.nc, .slice r.fa r.facts.length r.fc, .int .u32 r.epoch, .slice r.sa r.spans.length r.sc, .int .i64 r.frm, .int .i64 r.til, .slice r.ea r.ents.length r.ec] 46)) := (Below.refl _ _).alloc (nrQ _) _
 have hx := Boxed.new w #[.int .u8 3, .int .u32 r.id, .int .u32 r.at_, .slice r.na r.nodes.length r.nc, .slice r.fa r.facts.length r.fc, .int .u32 r.epoch, .slice r.sa r.spans.length r.sc, .int .i64 r.frm, .int .i64 r.til, .slice r.ea r.ents.length r.ec] 46
 have hR0 := hR.keep hB
 have hC1 := bare_val 3 r.id r.at_ r.epoch r.frm r.til r.na r.fa r.sa r.ea r.nodes.length r.nc r.facts.length r.fc r.spans.length r.sc r.ents.length r.ec [73] 1 rfl (by omega) (w.alloc (.cells #[.int .u8 3, .int .u32 r.id, .int .u32 r.at_, .slice r.na r.nodes.length r.nc, .slice r.fa r.facts.length r.fc, .int .u32 r.epoch, .slice r.sa r.spans.length r.sc, .int .i64 r.frm, .int .i64 r.til, .slice r.ea r.ents.length r.ec] 46))
 have e0 : bareB r.id r.at_ r.nodes.length r.facts.length r.epoch r.spans.length r.frm r.til r.ents.length [73] = t0 := ht0
 rw [e0] at hC1
 generalize hW0 : w.alloc (.cells #[.int .u8 3, .int .u32 r.id, .int .u32 r.at_, .slice r.na r.nodes.length r.nc, .slice r.fa r.facts.length r.fc, .int .u32 r.epoch, .slice r.sa r.spans.length r.sc, .int .i64 r.frm, .int .i64 r.til, .slice r.ea r.ents.length r.ec] 46) = W0 at hB hR0 hC1 hx
 have HW : Hid (w.alloc (.cells #[.int .u8 3, .int .u32 r.id, .int .u32 r.at_, .slice r.na r.nodes.length r.nc, .slice r.fa r.facts.length r.fc, .int .u32 r.epoch, .slice r.sa r.spans.length r.sc, .int .i64 r.frm, .int .i64 r.til, .slice r.ea r.ents.length r.ec] 46) = W0) := hW0
 have HR : Aside (RecIn W0 r) := hR0
 have H0 : Aside (Below w.heap.size w W0 ∧ Boxed W0 w.heap.size #[.int .u8 3, .int .u32 r.id, .int .u32 r.at_, .slice r.na r.nodes.length r.nc, .slice r.fa r.facts.length r.fc, .int .u32 r.epoch, .slice r.sa r.spans.length r.sc, .int .i64 r.frm, .int .i64 r.til, .slice r.ea r.ents.length r.ec] 46) := ⟨hB, hx⟩
 refine calls_rc r ?_
 rw [hk]
 clear hR hR0 hB hx hW0 hk e0
 go_enter Tryz.func55, Tryz.ntmps55
 go_wp2_with fail
 rw [HW.out]
 refine hC1.mono ?_
 rintro e w1 ⟨rfl, b1⟩
 clear hC1
 go_wp2
 go_ret
 exact ⟨ret_bool (by rw [show _ = _ from E.out]), H0.out.1.trans (b1.mono H0.out.1.size)⟩

theorem refSound_4 (w : World) (r : Rc) (hR : RecIn w r) (hk : r.kind = 4) : Calls Tryz.prog 55 #[rcV r] w fun e w' => e = .returned (.bool (sndRec (pr r))) ∧ Below w.heap.size w w' := by
 obtain ⟨t0, ht0⟩ : ∃ t, (bareR_ r [73]) = t := ⟨_, rfl⟩
 have E : Hid (sndRec (pr r) = (t0)) := by show _ = _; rw [snd_ref4 r hk, ht0]
 have hB : Below w.heap.size w (w.alloc (.cells #[.int .u8 4, .int .u32 r.id, .int .u32 r.at_, .slice r.na r.nodes.length r.nc, .slice r.fa r.facts.length r.fc, .int .u32 r.epoch, .slice r.sa r.spans.length r.sc, .int .i64 r.frm, .int .i64 r.til, .slice r.ea r.ents.length r.ec] 46)) := (Below.refl _ _).alloc (nrQ _) _
 have hx := Boxed.new w #[.int .u8 4, .int .u32 r.id, .int .u32 r.at_, .slice r.na r.nodes.length r.nc, .slice r.fa r.facts.length r.fc, .int .u32 r.epoch, .slice r.sa r.spans.length r.sc, .int .i64 r.frm, .int .i64 r.til, .slice r.ea r.ents.length r.ec] 46
 have hR0 := hR.keep hB
 have hC1 := bare_val 4 r.id r.at_ r.epoch r.frm r.til r.na r.fa r.sa r.ea r.nodes.length r.nc r.facts.length r.fc r.spans.length r.sc r.ents.length r.ec [73] 1 rfl (by omega) (w.alloc (.cells #[.int .u8 4, .int .u32 r.id, .int .u32 r.at_, .slice r.na r.nodes.length r.nc, .slice r.fa r.facts.length r.fc, .int .u32 r.epoch, .slice r.sa r.spans.length r.sc, .int .i64 r.frm, .int .i64 r.til, .slice r.ea r.ents.length r.ec] 46))
 have e0 : bareB r.id r.at_ r.nodes.length r.facts.length r.epoch r.spans.length r.frm r.til r.ents.length [73] = t0 := ht0
 rw [e0] at hC1
 generalize hW0 : w.alloc (.cells #[.int .u8 4, .int .u32 r.id, .int .u32 r.at_, .slice r.na r.nodes.length r.nc, .slice r.fa r.facts.length r.fc, .int .u32 r.epoch, .slice r.sa r.spans.length r.sc, .int .i64 r.frm, .int .i64 r.til, .slice r.ea r.ents.length r.ec] 46) = W0 at hB hR0 hC1 hx
 have HW : Hid (w.alloc (.cells #[.int .u8 4, .int .u32 r.id, .int .u32 r.at_, .slice r.na r.nodes.length r.nc, .slice r.fa r.facts.length r.fc, .int .u32 r.epoch, .slice r.sa r.spans.length r.sc, .int .i64 r.frm, .int .i64 r.til, .slice r.ea r.ents.length r.ec] 46) = W0) := hW0
 have HR : Aside (RecIn W0 r) := hR0
 have H0 : Aside (Below w.heap.size w W0 ∧ Boxed W0 w.heap.size #[.int .u8 4, .int .u32 r.id, .int .u32 r.at_, .slice r.na r.nodes.length r.nc, .slice r.fa r.facts.length r.fc, .int .u32 r.epoch, .slice r.sa r.spans.length r.sc, .int .i64 r.frm, .int .i64 r.til, .slice r.ea r.ents.length r.ec] 46) := ⟨hB, hx⟩
 refine calls_rc r ?_
 rw [hk]
 clear hR hR0 hB hx hW0 hk e0
 go_enter Tryz.func55, Tryz.ntmps55
 go_wp2_with fail
 rw [HW.out]
 refine hC1.mono ?_
 rintro e w1 ⟨rfl, b1⟩
 clear hC1
 go_wp2
 go_ret
 exact ⟨ret_bool (by rw [show _ = _ from E.out]), H0.out.1.trans (b1.mono H0.out.1.size)⟩

theorem refSound_5 (w : World) (r : Rc) (hR : RecIn w r) (hk : r.kind = 5) : Calls Tryz.prog 55 #[rcV r] w fun e w' => e = .returned (.bool (sndRec (pr r))) ∧ Below w.heap.size w w' := by
 obtain ⟨t0, ht0⟩ : ∃ t, (bareR_ r [73]) = t := ⟨_, rfl⟩
 have E : Hid (sndRec (pr r) = (t0)) := by show _ = _; rw [snd_ref5 r hk, ht0]
 have hB : Below w.heap.size w (w.alloc (.cells #[.int .u8 5, .int .u32 r.id, .int .u32 r.at_, .slice r.na r.nodes.length r.nc, .slice r.fa r.facts.length r.fc, .int .u32 r.epoch, .slice r.sa r.spans.length r.sc, .int .i64 r.frm, .int .i64 r.til, .slice r.ea r.ents.length r.ec] 46)) := (Below.refl _ _).alloc (nrQ _) _
 have hx := Boxed.new w #[.int .u8 5, .int .u32 r.id, .int .u32 r.at_, .slice r.na r.nodes.length r.nc, .slice r.fa r.facts.length r.fc, .int .u32 r.epoch, .slice r.sa r.spans.length r.sc, .int .i64 r.frm, .int .i64 r.til, .slice r.ea r.ents.length r.ec] 46
 have hR0 := hR.keep hB
 have hC1 := bare_val 5 r.id r.at_ r.epoch r.frm r.til r.na r.fa r.sa r.ea r.nodes.length r.nc r.facts.length r.fc r.spans.length r.sc r.ents.length r.ec [73] 1 rfl (by omega) (w.alloc (.cells #[.int .u8 5, .int .u32 r.id, .int .u32 r.at_, .slice r.na r.nodes.length r.nc, .slice r.fa r.facts.length r.fc, .int .u32 r.epoch, .slice r.sa r.spans.length r.sc, .int .i64 r.frm, .int .i64 r.til, .slice r.ea r.ents.length r.ec] 46))
 have e0 : bareB r.id r.at_ r.nodes.length r.facts.length r.epoch r.spans.length r.frm r.til r.ents.length [73] = t0 := ht0
 rw [e0] at hC1
 generalize hW0 : w.alloc (.cells #[.int .u8 5, .int .u32 r.id, .int .u32 r.at_, .slice r.na r.nodes.length r.nc, .slice r.fa r.facts.length r.fc, .int .u32 r.epoch, .slice r.sa r.spans.length r.sc, .int .i64 r.frm, .int .i64 r.til, .slice r.ea r.ents.length r.ec] 46) = W0 at hB hR0 hC1 hx
 have HW : Hid (w.alloc (.cells #[.int .u8 5, .int .u32 r.id, .int .u32 r.at_, .slice r.na r.nodes.length r.nc, .slice r.fa r.facts.length r.fc, .int .u32 r.epoch, .slice r.sa r.spans.length r.sc, .int .i64 r.frm, .int .i64 r.til, .slice r.ea r.ents.length r.ec] 46) = W0) := hW0
 have HR : Aside (RecIn W0 r) := hR0
 have H0 : Aside (Below w.heap.size w W0 ∧ Boxed W0 w.heap.size #[.int .u8 5, .int .u32 r.id, .int .u32 r.at_, .slice r.na r.nodes.length r.nc, .slice r.fa r.facts.length r.fc, .int .u32 r.epoch, .slice r.sa r.spans.length r.sc, .int .i64 r.frm, .int .i64 r.til, .slice r.ea r.ents.length r.ec] 46) := ⟨hB, hx⟩
 refine calls_rc r ?_
 rw [hk]
 clear hR hR0 hB hx hW0 hk e0
 go_enter Tryz.func55, Tryz.ntmps55
 go_wp2_with fail
 rw [HW.out]
 refine hC1.mono ?_
 rintro e w1 ⟨rfl, b1⟩
 clear hC1
 go_wp2
 go_ret
 exact ⟨ret_bool (by rw [show _ = _ from E.out]), H0.out.1.trans (b1.mono H0.out.1.size)⟩

theorem refSound_6 (w : World) (r : Rc) (hR : RecIn w r) (hk : r.kind = 6) : Calls Tryz.prog 55 #[rcV r] w fun e w' => e = .returned (.bool (sndRec (pr r))) ∧ Below w.heap.size w w' := by
 obtain ⟨t0, ht0⟩ : ∃ t, (bareR_ r [77]) = t := ⟨_, rfl⟩
 obtain ⟨t1, ht1⟩ : ∃ t, (spansOk r.spans) = t := ⟨_, rfl⟩
 have E : Hid (sndRec (pr r) = (t0 && (t1))) := by show _ = _; rw [snd_ref6 r hk, ht0, ht1]
 have hB : Below w.heap.size w (w.alloc (.cells #[.int .u8 6, .int .u32 r.id, .int .u32 r.at_, .slice r.na r.nodes.length r.nc, .slice r.fa r.facts.length r.fc, .int .u32 r.epoch, .slice r.sa r.spans.length r.sc, .int .i64 r.frm, .int .i64 r.til, .slice r.ea r.ents.length r.ec] 46)) := (Below.refl _ _).alloc (nrQ _) _
 have hx := Boxed.new w #[.int .u8 6, .int .u32 r.id, .int .u32 r.at_, .slice r.na r.nodes.length r.nc, .slice r.fa r.facts.length r.fc, .int .u32 r.epoch, .slice r.sa r.spans.length r.sc, .int .i64 r.frm, .int .i64 r.til, .slice r.ea r.ents.length r.ec] 46
 have hR0 := hR.keep hB
 have hC1 := bare_val 6 r.id r.at_ r.epoch r.frm r.til r.na r.fa r.sa r.ea r.nodes.length r.nc r.facts.length r.fc r.spans.length r.sc r.ents.length r.ec [77] 1 rfl (by omega) (w.alloc (.cells #[.int .u8 6, .int .u32 r.id, .int .u32 r.at_, .slice r.na r.nodes.length r.nc, .slice r.fa r.facts.length r.fc, .int .u32 r.epoch, .slice r.sa r.spans.length r.sc, .int .i64 r.frm, .int .i64 r.til, .slice r.ea r.ents.length r.ec] 46))
 have e0 : bareB r.id r.at_ r.nodes.length r.facts.length r.epoch r.spans.length r.frm r.til r.ents.length [77] = t0 := ht0
 rw [e0] at hC1
 generalize hW0 : w.alloc (.cells #[.int .u8 6, .int .u32 r.id, .int .u32 r.at_, .slice r.na r.nodes.length r.nc, .slice r.fa r.facts.length r.fc, .int .u32 r.epoch, .slice r.sa r.spans.length r.sc, .int .i64 r.frm, .int .i64 r.til, .slice r.ea r.ents.length r.ec] 46) = W0 at hB hR0 hC1 hx
 have HW : Hid (w.alloc (.cells #[.int .u8 6, .int .u32 r.id, .int .u32 r.at_, .slice r.na r.nodes.length r.nc, .slice r.fa r.facts.length r.fc, .int .u32 r.epoch, .slice r.sa r.spans.length r.sc, .int .i64 r.frm, .int .i64 r.til, .slice r.ea r.ents.length r.ec] 46) = W0) := hW0
 have HR : Aside (RecIn W0 r) := hR0
 have H0 : Aside (Below w.heap.size w W0 ∧ Boxed W0 w.heap.size #[.int .u8 6, .int .u32 r.id, .int .u32 r.at_, .slice r.na r.nodes.length r.nc, .slice r.fa r.facts.length r.fc, .int .u32 r.epoch, .slice r.sa r.spans.length r.sc, .int .i64 r.frm, .int .i64 r.til, .slice r.ea r.ents.length r.ec] 46) := ⟨hB, hx⟩
 refine calls_rc r ?_
 rw [hk]
 clear hR hR0 hB hx hW0 hk e0
 go_enter Tryz.func55, Tryz.ntmps55
 go_wp2_with fail
 rw [HW.out]
 refine hC1.mono ?_
 rintro e w1 ⟨rfl, b1⟩
 clear hC1
 cases t0 with
 | false =>
  go_wp2
  go_ret
  exact ⟨ret_bool (by rw [show _ = _ from E.out]; simp), H0.out.1.trans (b1.mono H0.out.1.size)⟩
 | true =>
  have q1 := (H0.out.2.below b1).cell (j := 6) rfl
  have hC2 := refSpans_any r.sa r.spans.length r.sc r.spans w1 (HR.out.spans.keep b1) rfl HR.out.slen
  rw [ht1] at hC2
  go_wp2_with (go_at_call 84; refine hC2.mono ?_; rintro e w2 ⟨rfl, hww⟩; have hww2 := hww.symm; clear hww; subst hww2; refine Hid.out ?_)
  refine hid ?_
  clear hC2 q1
  cases t1 with
  | false =>
   go_wp2
   go_ret
   exact ⟨ret_bool (by rw [show _ = _ from E.out]; simp), H0.out.1.trans (b1.mono H0.out.1.size)⟩
  | true =>
   go_wp2
   go_ret
   exact ⟨ret_bool (by rw [show _ = _ from E.out]; simp), H0.out.1.trans (b1.mono H0.out.1.size)⟩

theorem refSound_7 (w : World) (r : Rc) (hR : RecIn w r) (hk : r.kind = 7) : Calls Tryz.prog 55 #[rcV r] w fun e w' => e = .returned (.bool (sndRec (pr r))) ∧ Below w.heap.size w w' := by
 obtain ⟨t0, ht0⟩ : ∃ t, (bareR_ r [73, 82]) = t := ⟨_, rfl⟩
 obtain ⟨t1, ht1⟩ : ∃ t, (entsOk (r.ents.map pe)) = t := ⟨_, rfl⟩
 obtain ⟨t2, ht2⟩ : ∃ t, (decide (0 ≤ r.frm ∧ r.frm ≤ 10000)) = t := ⟨_, rfl⟩
 obtain ⟨t3, ht3⟩ : ∃ t, (decide (0 ≤ r.til ∧ r.til ≤ 10000)) = t := ⟨_, rfl⟩
 have E : Hid (sndRec (pr r) = (t0 && (t1 && (t2 && (t3))))) := by show _ = _; rw [snd_ref7 r hk, ht0, ht1, ht2, ht3]
 have hB : Below w.heap.size w (w.alloc (.cells #[.int .u8 7, .int .u32 r.id, .int .u32 r.at_, .slice r.na r.nodes.length r.nc, .slice r.fa r.facts.length r.fc, .int .u32 r.epoch, .slice r.sa r.spans.length r.sc, .int .i64 r.frm, .int .i64 r.til, .slice r.ea r.ents.length r.ec] 46)) := (Below.refl _ _).alloc (nrQ _) _
 have hx := Boxed.new w #[.int .u8 7, .int .u32 r.id, .int .u32 r.at_, .slice r.na r.nodes.length r.nc, .slice r.fa r.facts.length r.fc, .int .u32 r.epoch, .slice r.sa r.spans.length r.sc, .int .i64 r.frm, .int .i64 r.til, .slice r.ea r.ents.length r.ec] 46
 have hR0 := hR.keep hB
 have hC1 := bare_val 7 r.id r.at_ r.epoch r.frm r.til r.na r.fa r.sa r.ea r.nodes.length r.nc r.facts.length r.fc r.spans.length r.sc r.ents.length r.ec [73, 82] 2 rfl (by omega) (w.alloc (.cells #[.int .u8 7, .int .u32 r.id, .int .u32 r.at_, .slice r.na r.nodes.length r.nc, .slice r.fa r.facts.length r.fc, .int .u32 r.epoch, .slice r.sa r.spans.length r.sc, .int .i64 r.frm, .int .i64 r.til, .slice r.ea r.ents.length r.ec] 46))
 have e0 : bareB r.id r.at_ r.nodes.length r.facts.length r.epoch r.spans.length r.frm r.til r.ents.length [73, 82] = t0 := ht0
 rw [e0] at hC1
 generalize hW0 : w.alloc (.cells #[.int .u8 7, .int .u32 r.id, .int .u32 r.at_, .slice r.na r.nodes.length r.nc, .slice r.fa r.facts.length r.fc, .int .u32 r.epoch, .slice r.sa r.spans.length r.sc, .int .i64 r.frm, .int .i64 r.til, .slice r.ea r.ents.length r.ec] 46) = W0 at hB hR0 hC1 hx
 have HW : Hid (w.alloc (.cells #[.int .u8 7, .int .u32 r.id, .int .u32 r.at_, .slice r.na r.nodes.length r.nc, .slice r.fa r.facts.length r.fc, .int .u32 r.epoch, .slice r.sa r.spans.length r.sc, .int .i64 r.frm, .int .i64 r.til, .slice r.ea r.ents.length r.ec] 46) = W0) := hW0
 have HR : Aside (RecIn W0 r) := hR0
 have H0 : Aside (Below w.heap.size w W0 ∧ Boxed W0 w.heap.size #[.int .u8 7, .int .u32 r.id, .int .u32 r.at_, .slice r.na r.nodes.length r.nc, .slice r.fa r.facts.length r.fc, .int .u32 r.epoch, .slice r.sa r.spans.length r.sc, .int .i64 r.frm, .int .i64 r.til, .slice r.ea r.ents.length r.ec] 46) := ⟨hB, hx⟩
 refine calls_rc r ?_
 rw [hk]
 clear hR hR0 hB hx hW0 hk e0
 go_enter Tryz.func55, Tryz.ntmps55
 go_wp2_with fail
 rw [HW.out]
 refine hC1.mono ?_
 rintro e w1 ⟨rfl, b1⟩
 clear hC1
 cases t0 with
 | false =>
  go_wp2
  go_ret
  exact ⟨ret_bool (by rw [show _ = _ from E.out]; simp), H0.out.1.trans (b1.mono H0.out.1.size)⟩
 | true =>
  have q1 := (H0.out.2.below b1).cell (j := 9) rfl
  have hC2 := refSoundEntries_any r.ea r.ents.length r.ec r.ents w1 (HR.out.ents.keep b1) rfl HR.out.elen
  rw [ht1] at hC2
  go_wp2_with (go_at_call 85; refine hC2.mono ?_; rintro e w2 ⟨rfl, g2⟩; refine Hid.out ?_)
  refine hid ?_
  have b2 := b1.trans (g2.mono b1.size)
  clear hC2 g2 q1
  cases t1 with
  | false =>
   go_wp2
   go_ret
   exact ⟨ret_bool (by rw [show _ = _ from E.out]; simp), H0.out.1.trans (b2.mono H0.out.1.size)⟩
  | true =>
   have qfrm := (H0.out.2.below b2).cell (j := 7) rfl
   have qtil := (H0.out.2.below b2).cell (j := 8) rfl
   by_cases hzfrm : 0 ≤ r.frm
   rotate_left
   ·obtain rfl : t2 = false := by rw [← ht2]; exact decide_eq_false fun h => hzfrm h.1
    go_wp2
    go_ret
    exact ⟨ret_bool (by rw [show _ = _ from E.out]; simp), H0.out.1.trans (b2.mono H0.out.1.size)⟩
   by_cases hyfrm : r.frm ≤ 10000
   rotate_left
   ·obtain rfl : t2 = false := by rw [← ht2]; exact decide_eq_false fun h => hyfrm h.2
    go_wp2
    go_ret
    exact ⟨ret_bool (by rw [show _ = _ from E.out]; simp), H0.out.1.trans (b2.mono H0.out.1.size)⟩
   obtain rfl : t2 = true := by rw [← ht2]; exact decide_eq_true ⟨hzfrm, hyfrm⟩
   by_cases hztil : 0 ≤ r.til
   rotate_left
   ·obtain rfl : t3 = false := by rw [← ht3]; exact decide_eq_false fun h => hztil h.1
    go_wp2
    go_ret
    exact ⟨ret_bool (by rw [show _ = _ from E.out]; simp), H0.out.1.trans (b2.mono H0.out.1.size)⟩
   by_cases hytil : r.til ≤ 10000
   rotate_left
   ·obtain rfl : t3 = false := by rw [← ht3]; exact decide_eq_false fun h => hytil h.2
    go_wp2
    go_ret
    exact ⟨ret_bool (by rw [show _ = _ from E.out]; simp), H0.out.1.trans (b2.mono H0.out.1.size)⟩
   obtain rfl : t3 = true := by rw [← ht3]; exact decide_eq_true ⟨hztil, hytil⟩
   go_wp2
   go_ret
   exact ⟨ret_bool (by rw [show _ = _ from E.out]; simp), H0.out.1.trans (b2.mono H0.out.1.size)⟩

theorem refSound_none (w : World) (r : Rc) (hR : RecIn w r) (h : ¬ (1 ≤ r.kind ∧ r.kind ≤ 7)) : Calls Tryz.prog 55 #[rcV r] w fun e w' => e = .returned (.bool (sndRec (pr r))) ∧ Below w.heap.size w w' := by
 have E : Hid (sndRec (pr r) = false) := by
  show _ = _
  dsimp only [sndRec, pr]
  rw [if_neg (by omega), if_neg (by omega), if_neg (by omega), if_neg (by omega), if_neg (by omega)]
 have hB : ∀ o, Below w.heap.size w (w.alloc o) := fun o => (Below.refl _ _).alloc (nrQ _) _
 show Calls _ _ #[.agg (rcC r)] _ _
 unfold rcC
 generalize r.kind = kind at h
 have k1 : (kind == 1) = false := by simp; omega
 have k2 : (kind == 2) = false := by simp; omega
 have k3 : (kind == 3) = false := by simp; omega
 have k4 : (kind == 4) = false := by simp; omega
 have k5 : (kind == 5) = false := by simp; omega
 have k6 : (kind == 6) = false := by simp; omega
 have k7 : (kind == 7) = false := by simp; omega
 clear h
 go_enter Tryz.func55, Tryz.ntmps55
 go_wp2
 go_ret
 exact ⟨ret_bool E.out.symm, hB _⟩

theorem refSound_any (w : World) (r : Rc) (hR : RecIn w r) : Calls Tryz.prog 55 #[rcV r] w fun e w' => e = .returned (.bool (sndRec (pr r))) ∧ Below w.heap.size w w' := by
 by_cases h : 1 ≤ r.kind ∧ r.kind ≤ 7
 rotate_left
 ·exact refSound_none w r hR h
 have hk : r.kind = 1 ∨ r.kind = 2 ∨ r.kind = 3 ∨ r.kind = 4 ∨ r.kind = 5 ∨ r.kind = 6 ∨ r.kind = 7 := by omega
 rcases hk with h1 | h1 | h1 | h1 | h1 | h1 | h1
 ·exact refSound_1 w r hR h1
 ·exact refSound_2 w r hR h1
 ·exact refSound_3 w r hR h1
 ·exact refSound_4 w r hR h1
 ·exact refSound_5 w r hR h1
 ·exact refSound_6 w r hR h1
 ·exact refSound_7 w r hR h1
theorem nodesB_len (l : List Int) : (nodesB l).length = 1 + l.length := by unfold nodesB; rw [laQ, putI_len, flatN_len]
theorem factsB_least (l : List Ft) : l.length ≤ (factsB (l.map pf)).length := by
 unfold factsB
 rw [flatF_map, laQ]
 have := flatF_least l
 omega
theorem entsB_least (l : List Et) : l.length ≤ (entsB (l.map pe)).length := by
 unfold entsB
 rw [flatE_map, laQ]
 have := flatE_least l
 omega
theorem spansB_len (l : List PSpan) : (l.flatMap spanB).length = 5 * l.length := by
 induction l with
 | nil => rfl
 | cons x l ih => rw [List.flatMap_cons, laQ, ih, spanB_len, List.length_cons]; omega
theorem putI_one {x : Int} (h : 0 ≤ x ∧ x ≤ 255) : Lib.byteCells (putI x 1) = [Value.int .u8 x] := by
 unfold putI
 have e : (x % 18446744073709551616).toNat = x.toNat := by omega
 rw [e]
 simp [putB, Lib.byteCells]
 omega
theorem heap_new (w : World) (o : Obj) : (w.alloc o).heap[w.heap.size]? = some o := by
 show (w.heap.push o)[w.heap.size]? = some o
 simp
theorem first_byte (B : Nat) (w : World) (x : Int) (hx : 0 ≤ x ∧ x ≤ 255) (hB : B ≤ w.heap.size) : Bs B (w.alloc (.cells #[.int .u8 x] 5)) (.slice (some ⟨w.heap.size, 0, none⟩) 1 1) (putI x 1) := by
 unfold Bs
 rw [putI_len, putI_one hx]
 exact ⟨rfl, .inr ⟨w.heap.size, 1, #[.int .u8 x], rfl, hB, heap_new _ _, nrQ _, by unfold maxLen; omega, rfl, rfl⟩⟩

def encE (v : Value) (n : Nat) : Ending := if n ≤ 60000 then .returned (.tuple #[v, .int .i64 0]) else .returned (.tuple #[.slice none 0 0, .int .i64 3])

theorem refEnc_1 (w : World) (r : Rc) (hR : RecIn w r) (hk : r.kind = 1) (hs : sndRec (pr r) = true) (hfl : ∀ e ∈ r.ents, e.fs.length ≤ 100000000) (hl : (recB (pr r)).length ≤ 100000000) :
  Calls Tryz.prog 34 #[rcV r] w fun e w' => ∃ v', e = encE v' (recB (pr r)).length ∧ Bs w.heap.size w' v' (recB (pr r)) ∧ Below w.heap.size w w' := by
 obtain ⟨kind, id, at_, na, nc, nodes, fa, fc, facts, epoch, sa, sc, spans, frm, til, ea, ec, ents⟩ := r
 simp only at hk hfl
 subst hk
 have E : Hid (recB (pr ⟨1, id, at_, na, nc, nodes, fa, fc, facts, epoch, sa, sc, spans, frm, til, ea, ec, ents⟩) = putI 1 1 ++ (putI id 4 ++ (nodesB nodes ++ factsB (facts.map pf)))) := by
  show _ = _
  simp [recB, bodyB, pr, mapB]
 rw [E.out] at hl
 simp only [laQ, List.length_nil, putI_len, nodesB_len, spansB_len] at hl
 have l2 := factsB_least facts
 have l4 := entsB_least ents
 have hb0 : Below w.heap.size w (w.alloc (.cells #[(.int .u8 1), (.int .u32 id), (.int .u32 at_), (.slice na nodes.length nc), (.slice fa facts.length fc), (.int .u32 epoch), (.slice sa spans.length sc), (.int .i64 frm), (.int .i64 til), (.slice ea ents.length ec)] 46)) := by (repeat (first | with_reducible exact Below.refl _ _ | (with_reducible refine Below.drew ?_) | (with_reducible refine Below.alloc ?_ (by first | omega | (simp; done) | (simp; omega)) _) | (with_reducible refine Below.setCell ?_ (by first | exact nrQ _ | omega | (simp; done) | (simp; omega)) _)))
 have hR0 := hR.keep hb0
 have hcell : ∀ W, Below (w.heap.size + 1) (w.alloc (.cells #[(.int .u8 1), (.int .u32 id), (.int .u32 at_), (.slice na nodes.length nc), (.slice fa facts.length fc), (.int .u32 epoch), (.slice sa spans.length sc), (.int .i64 frm), (.int .i64 til), (.slice ea ents.length ec)] 46)) W → ∀ j x, #[(.int .u8 1), (.int .u32 id), (.int .u32 at_), (.slice na nodes.length nc), (.slice fa facts.length fc), (.int .u32 epoch), (.slice sa spans.length sc), (.int .i64 frm), (.int .i64 til), (.slice ea ents.length ec)][j]? = some x → W.cell? ⟨w.heap.size, j, none⟩ = some x := by
  intro W hW j x hx
  rw [hW.cell (p := ⟨w.heap.size, j, none⟩) (by simp)]
  simpa [go_sem] using hx
 have hsz : (w.alloc (.cells #[(.int .u8 1), (.int .u32 id), (.int .u32 at_), (.slice na nodes.length nc), (.slice fa facts.length fc), (.int .u32 epoch), (.slice sa spans.length sc), (.int .i64 frm), (.int .i64 til), (.slice ea ents.length ec)] 46)).heap.size = w.heap.size + 1 := by simp
 have hS := refSound_any _ _ hR0
 rw [hs] at hS
 generalize hW0 : w.alloc (.cells #[(.int .u8 1), (.int .u32 id), (.int .u32 at_), (.slice na nodes.length nc), (.slice fa facts.length fc), (.int .u32 epoch), (.slice sa spans.length sc), (.int .i64 frm), (.int .i64 til), (.slice ea ents.length ec)] 46) = W0 at hb0 hR0 hcell hsz hS
 rw [← hsz] at hcell
 have HR : Aside (RecIn W0 _) := hR0
 have HU : Aside ((0 ≤ id ∧ id ≤ 4294967295) ∧ (0 ≤ at_ ∧ at_ ≤ 4294967295) ∧ (0 ≤ epoch ∧ epoch ≤ 4294967295)) := ⟨hR.id, hR.at_, hR.epoch⟩
 have HFL : Aside (∀ e ∈ ents, e.fs.length ≤ 100000000) := hfl
 have H0 : Aside (Below w.heap.size w W0) := hb0
 have hS2 : Calls Tryz.prog 55 #[.agg #[(.int .u8 1), (.int .u32 id), (.int .u32 at_), (.slice na nodes.length nc), (.slice fa facts.length fc), (.int .u32 epoch), (.slice sa spans.length sc), (.int .i64 frm), (.int .i64 til), (.slice ea ents.length ec)]] W0 fun e w' => e = .returned (.bool true) ∧ Below W0.heap.size W0 w' := hS
 obtain ⟨nn, hnn⟩ : ∃ nn, nodes.length = nn := ⟨_, rfl⟩
 have HN : Hid (nodes.length = nn) := hnn
 obtain ⟨fn, hfn⟩ : ∃ fn, facts.length = fn := ⟨_, rfl⟩
 have HF : Hid (facts.length = fn) := hfn
 obtain ⟨sn, hsn⟩ : ∃ sn, spans.length = sn := ⟨_, rfl⟩
 have HS : Hid (spans.length = sn) := hsn
 obtain ⟨en, hen⟩ : ∃ en, ents.length = en := ⟨_, rfl⟩
 have HE : Hid (ents.length = en) := hen
 show Calls _ _ #[.agg #[(.int .u8 1), (.int .u32 id), (.int .u32 at_), (.slice na nodes.length nc), (.slice fa facts.length fc), (.int .u32 epoch), (.slice sa spans.length sc), (.int .i64 frm), (.int .i64 til), (.slice ea ents.length ec)]] _ _
 rw [hnn, hfn, hsn, hen] at hW0 hcell hS2 ⊢
 have HC : Aside (∀ W, Below W0.heap.size W0 W → _) := hcell
 have HW : Hid (_ = W0) := hW0
 have b0 := Below.refl W0.heap.size W0
 have s0 : w.heap.size < W0.heap.size := by omega
 clear hR hR0 hb0 hcell hsz hW0 hnn hfn hsn hen hS hs hfl
 go_enter Tryz.func34, Tryz.ntmps34
 go_wp2_with fail
 rw [HW.out]
 refine hS2.mono ?_
 rintro e w0 ⟨rfl, g0⟩
 have bs := b0.trans g0
 have q0 := HC.out w0 bs 0 _ rfl
 have h1 := first_byte W0.heap.size w0 1 HR.out.kind bs.size
 have b1 : Below W0.heap.size W0 (w0.alloc (.cells #[.int .u8 1] 5)) := bs.alloc bs.size _
 clear hS2 g0
 go_upto_region 4 with fail
 generalize (w0.alloc (.cells #[.int .u8 1] 5)) = w1 at h1 b1 ⊢
 generalize (.slice (some ⟨w0.heap.size, 0, none⟩) 1 1 : Value) = v1 at h1 ⊢
 clear q0
 have hC2 : Calls Tryz.prog 56 #[v1, .int .u64 id, .int .i64 4] w1 _ := putW_any W0.heap.size 4 id id (by have := HU.out.1; omega) (by omega) v1 _ w1 h1 b1.size (by (try simp only [laQ, List.length_nil, putI_len, nodesB_len]); have e1 := HN.out; have e2 := HF.out; have e3 := HS.out; have e4 := HE.out; omega)
 have hC2z : Calls Tryz.prog 56 #[v1, .int .u64 (IntKind.u64.wrap id), .int .i64 4] w1 _ := putW_any W0.heap.size 4 id (IntKind.u64.wrap id) (wrap_mod _) (by omega) v1 _ w1 h1 b1.size (by (try simp only [laQ, List.length_nil, putI_len, nodesB_len]); have e1 := HN.out; have e2 := HF.out; have e3 := HS.out; have e4 := HE.out; omega)
 have q2 := HC.out w1 b1 1 _ rfl
 go_wp2_with (go_at_call 56; (first | with_reducible refine hC2.mono ?_ | with_reducible refine hC2z.mono ?_); rintro e w2 ⟨v2, rfl, h2, g2⟩; refine Hid.out ?_)
 refine hid ?_
 have b2 : Below W0.heap.size W0 w2 := b1.trans (g2.below h1 b1.size)
 clear hC2 hC2z q2 g2
 have hC3 := refNodes_any W0 na nodes nn nc HR.out.nodes HN.out HR.out.nok w2 v2 _ b2 h2 (by (try simp only [laQ, List.length_nil, putI_len, nodesB_len]); have e1 := HN.out; have e2 := HF.out; have e3 := HS.out; have e4 := HE.out; omega)
 have q3 := HC.out w2 b2 3 _ rfl
 have qk := HC.out w2 b2 0 _ rfl
 go_wp2_with (go_at_call 57; (first | with_reducible refine hC3.mono ?_); rintro e w3 ⟨v3, rfl, h3, g3⟩; refine Hid.out ?_)
 refine hid ?_
 have b3 : Below W0.heap.size W0 w3 := b2.trans (g3.below h2 b2.size)
 clear hC3 q3 g3
 have hC4 := refFacts_any W0 fa facts fn fc HR.out.facts HF.out w3 v3 _ b3 h3 (by (try simp only [laQ, List.length_nil, putI_len, nodesB_len]); have e1 := HN.out; have e2 := HF.out; have e3 := HS.out; have e4 := HE.out; omega) (by (try simp only [laQ, List.length_nil, putI_len, nodesB_len]); have e1 := HN.out; have e2 := HF.out; have e3 := HS.out; have e4 := HE.out; omega)
 have q4 := HC.out w3 b3 4 _ rfl
 go_wp2_with (go_at_call 58; (first | with_reducible refine hC4.mono ?_); rintro e w4 ⟨v4, rfl, h4, g4⟩; refine Hid.out ?_)
 refine hid ?_
 have b4 : Below W0.heap.size W0 w4 := b3.trans (g4.below h3 b3.size)
 clear hC4 q4 g4
 obtain ⟨va, vc, hv⟩ := Bs.form h4
 have hbs2 : Bs W0.heap.size w4 v4 (recB (pr ⟨1, id, at_, na, nc, nodes, fa, fc, facts, epoch, sa, sc, spans, frm, til, ea, ec, ents⟩)) := by
  rw [E.out]
  simpa [apQ] using h4
 obtain ⟨va, vc, hv⟩ := Bs.form hbs2
 subst hv
 have HO : Aside (Bs W0.heap.size w4 (.slice va (recB (pr ⟨1, id, at_, na, nc, nodes, fa, fc, facts, epoch, sa, sc, spans, frm, til, ea, ec, ents⟩)).length vc) (recB (pr ⟨1, id, at_, na, nc, nodes, fa, fc, facts, epoch, sa, sc, spans, frm, til, ea, ec, ents⟩)) ∧ Below W0.heap.size W0 w4) := ⟨hbs2, b4⟩
 have e60 : (recB (pr ⟨1, id, at_, na, nc, nodes, fa, fc, facts, epoch, sa, sc, spans, frm, til, ea, ec, ents⟩)).length ≤ 100000000 := by rw [E.out]; simp only [laQ, List.length_nil, putI_len, nodesB_len, spansB_len]; omega
 clear h4 hbs2 b4
 obtain ⟨R, hRR⟩ : ∃ R, recB (pr ⟨1, id, at_, na, nc, nodes, fa, fc, facts, epoch, sa, sc, spans, frm, til, ea, ec, ents⟩) = R := ⟨_, rfl⟩
 have HRR : Hid (recB (pr ⟨1, id, at_, na, nc, nodes, fa, fc, facts, epoch, sa, sc, spans, frm, til, ea, ec, ents⟩) = R) := hRR
 rw [hRR] at HO e60 ⊢
 obtain ⟨m, hm⟩ : ∃ m, R.length = m := ⟨_, rfl⟩
 have HMM : Hid (R.length = m) := hm
 rw [hm] at e60 HO ⊢
 clear hm hRR
 by_cases hb6 : m ≤ 60000
 ·have hb6z : ¬ (60000 : Int) < (m : Int) := by omega
  have HEQ : Hid (∀ v, encE v m = .returned (.tuple #[v, .int .i64 0])) := fun v => if_pos hb6
  clear hb6
  go_wp2
  go_ret2
  refine ⟨.slice va m vc, ?_, ?_, H0.out.trans (HO.out.2.mono H0.out.size)⟩
  ·rw [show _ = R from HRR.out, show _ = m from HMM.out]; exact ((show ∀ v, _ from HEQ.out) _).symm
  ·rw [show _ = R from HRR.out]; unfold Bs; rw [show _ = m from HMM.out]; have h9 := HO.out.1; unfold Bs at h9; rw [show _ = m from HMM.out] at h9; exact own_mono h9 H0.out.size
 ·have hb6z : (60000 : Int) < (m : Int) := by omega
  have HEQ : Hid (∀ v, encE v m = .returned (.tuple #[.slice none 0 0, .int .i64 3])) := fun v => if_neg hb6
  clear hb6
  go_wp2
  go_ret2
  refine ⟨.slice va m vc, ?_, ?_, H0.out.trans (HO.out.2.mono H0.out.size)⟩
  ·rw [show _ = R from HRR.out, show _ = m from HMM.out]; exact ((show ∀ v, _ from HEQ.out) _).symm
  ·rw [show _ = R from HRR.out]; unfold Bs; rw [show _ = m from HMM.out]; have h9 := HO.out.1; unfold Bs at h9; rw [show _ = m from HMM.out] at h9; exact own_mono h9 H0.out.size

theorem refEnc_2 (w : World) (r : Rc) (hR : RecIn w r) (hk : r.kind = 2) (hs : sndRec (pr r) = true) (hfl : ∀ e ∈ r.ents, e.fs.length ≤ 100000000) (hl : (recB (pr r)).length ≤ 100000000) :
  Calls Tryz.prog 34 #[rcV r] w fun e w' => ∃ v', e = encE v' (recB (pr r)).length ∧ Bs w.heap.size w' v' (recB (pr r)) ∧ Below w.heap.size w w' := by
 obtain ⟨kind, id, at_, na, nc, nodes, fa, fc, facts, epoch, sa, sc, spans, frm, til, ea, ec, ents⟩ := r
 simp only at hk hfl
 subst hk
 have E : Hid (recB (pr ⟨2, id, at_, na, nc, nodes, fa, fc, facts, epoch, sa, sc, spans, frm, til, ea, ec, ents⟩) = putI 2 1 ++ (putI id 4 ++ (putI at_ 4 ++ nodesB nodes))) := by
  show _ = _
  simp [recB, bodyB, pr, mapB]
 rw [E.out] at hl
 simp only [laQ, List.length_nil, putI_len, nodesB_len, spansB_len] at hl
 have l2 := factsB_least facts
 have l4 := entsB_least ents
 have hb0 : Below w.heap.size w (w.alloc (.cells #[(.int .u8 2), (.int .u32 id), (.int .u32 at_), (.slice na nodes.length nc), (.slice fa facts.length fc), (.int .u32 epoch), (.slice sa spans.length sc), (.int .i64 frm), (.int .i64 til), (.slice ea ents.length ec)] 46)) := by (repeat (first | with_reducible exact Below.refl _ _ | (with_reducible refine Below.drew ?_) | (with_reducible refine Below.alloc ?_ (by first | omega | (simp; done) | (simp; omega)) _) | (with_reducible refine Below.setCell ?_ (by first | exact nrQ _ | omega | (simp; done) | (simp; omega)) _)))
 have hR0 := hR.keep hb0
 have hcell : ∀ W, Below (w.heap.size + 1) (w.alloc (.cells #[(.int .u8 2), (.int .u32 id), (.int .u32 at_), (.slice na nodes.length nc), (.slice fa facts.length fc), (.int .u32 epoch), (.slice sa spans.length sc), (.int .i64 frm), (.int .i64 til), (.slice ea ents.length ec)] 46)) W → ∀ j x, #[(.int .u8 2), (.int .u32 id), (.int .u32 at_), (.slice na nodes.length nc), (.slice fa facts.length fc), (.int .u32 epoch), (.slice sa spans.length sc), (.int .i64 frm), (.int .i64 til), (.slice ea ents.length ec)][j]? = some x → W.cell? ⟨w.heap.size, j, none⟩ = some x := by
  intro W hW j x hx
  rw [hW.cell (p := ⟨w.heap.size, j, none⟩) (by simp)]
  simpa [go_sem] using hx
 have hsz : (w.alloc (.cells #[(.int .u8 2), (.int .u32 id), (.int .u32 at_), (.slice na nodes.length nc), (.slice fa facts.length fc), (.int .u32 epoch), (.slice sa spans.length sc), (.int .i64 frm), (.int .i64 til), (.slice ea ents.length ec)] 46)).heap.size = w.heap.size + 1 := by simp
 have hS := refSound_any _ _ hR0
 rw [hs] at hS
 generalize hW0 : w.alloc (.cells #[(.int .u8 2), (.int .u32 id), (.int .u32 at_), (.slice na nodes.length nc), (.slice fa facts.length fc), (.int .u32 epoch), (.slice sa spans.length sc), (.int .i64 frm), (.int .i64 til), (.slice ea ents.length ec)] 46) = W0 at hb0 hR0 hcell hsz hS
 rw [← hsz] at hcell
 have HR : Aside (RecIn W0 _) := hR0
 have HU : Aside ((0 ≤ id ∧ id ≤ 4294967295) ∧ (0 ≤ at_ ∧ at_ ≤ 4294967295) ∧ (0 ≤ epoch ∧ epoch ≤ 4294967295)) := ⟨hR.id, hR.at_, hR.epoch⟩
 have HFL : Aside (∀ e ∈ ents, e.fs.length ≤ 100000000) := hfl
 have H0 : Aside (Below w.heap.size w W0) := hb0
 have hS2 : Calls Tryz.prog 55 #[.agg #[(.int .u8 2), (.int .u32 id), (.int .u32 at_), (.slice na nodes.length nc), (.slice fa facts.length fc), (.int .u32 epoch), (.slice sa spans.length sc), (.int .i64 frm), (.int .i64 til), (.slice ea ents.length ec)]] W0 fun e w' => e = .returned (.bool true) ∧ Below W0.heap.size W0 w' := hS
 obtain ⟨nn, hnn⟩ : ∃ nn, nodes.length = nn := ⟨_, rfl⟩
 have HN : Hid (nodes.length = nn) := hnn
 obtain ⟨fn, hfn⟩ : ∃ fn, facts.length = fn := ⟨_, rfl⟩
 have HF : Hid (facts.length = fn) := hfn
 obtain ⟨sn, hsn⟩ : ∃ sn, spans.length = sn := ⟨_, rfl⟩
 have HS : Hid (spans.length = sn) := hsn
 obtain ⟨en, hen⟩ : ∃ en, ents.length = en := ⟨_, rfl⟩
 have HE : Hid (ents.length = en) := hen
 show Calls _ _ #[.agg #[(.int .u8 2), (.int .u32 id), (.int .u32 at_), (.slice na nodes.length nc), (.slice fa facts.length fc), (.int .u32 epoch), (.slice sa spans.length sc), (.int .i64 frm), (.int .i64 til), (.slice ea ents.length ec)]] _ _
 rw [hnn, hfn, hsn, hen] at hW0 hcell hS2 ⊢
 have HC : Aside (∀ W, Below W0.heap.size W0 W → _) := hcell
 have HW : Hid (_ = W0) := hW0
 have b0 := Below.refl W0.heap.size W0
 have s0 : w.heap.size < W0.heap.size := by omega
 clear hR hR0 hb0 hcell hsz hW0 hnn hfn hsn hen hS hs hfl
 go_enter Tryz.func34, Tryz.ntmps34
 go_wp2_with fail
 rw [HW.out]
 refine hS2.mono ?_
 rintro e w0 ⟨rfl, g0⟩
 have bs := b0.trans g0
 have q0 := HC.out w0 bs 0 _ rfl
 have h1 := first_byte W0.heap.size w0 2 HR.out.kind bs.size
 have b1 : Below W0.heap.size W0 (w0.alloc (.cells #[.int .u8 2] 5)) := bs.alloc bs.size _
 clear hS2 g0
 go_upto_region 4 with fail
 generalize (w0.alloc (.cells #[.int .u8 2] 5)) = w1 at h1 b1 ⊢
 generalize (.slice (some ⟨w0.heap.size, 0, none⟩) 1 1 : Value) = v1 at h1 ⊢
 clear q0
 have hC2 : Calls Tryz.prog 56 #[v1, .int .u64 id, .int .i64 4] w1 _ := putW_any W0.heap.size 4 id id (by have := HU.out.1; omega) (by omega) v1 _ w1 h1 b1.size (by (try simp only [laQ, List.length_nil, putI_len, nodesB_len]); have e1 := HN.out; have e2 := HF.out; have e3 := HS.out; have e4 := HE.out; omega)
 have hC2z : Calls Tryz.prog 56 #[v1, .int .u64 (IntKind.u64.wrap id), .int .i64 4] w1 _ := putW_any W0.heap.size 4 id (IntKind.u64.wrap id) (wrap_mod _) (by omega) v1 _ w1 h1 b1.size (by (try simp only [laQ, List.length_nil, putI_len, nodesB_len]); have e1 := HN.out; have e2 := HF.out; have e3 := HS.out; have e4 := HE.out; omega)
 have q2 := HC.out w1 b1 1 _ rfl
 go_wp2_with (go_at_call 56; (first | with_reducible refine hC2.mono ?_ | with_reducible refine hC2z.mono ?_); rintro e w2 ⟨v2, rfl, h2, g2⟩; refine Hid.out ?_)
 refine hid ?_
 have b2 : Below W0.heap.size W0 w2 := b1.trans (g2.below h1 b1.size)
 clear hC2 hC2z q2 g2
 have hC3 : Calls Tryz.prog 56 #[v2, .int .u64 at_, .int .i64 4] w2 _ := putW_any W0.heap.size 4 at_ at_ (by have := HU.out.2.1; omega) (by omega) v2 _ w2 h2 b2.size (by (try simp only [laQ, List.length_nil, putI_len, nodesB_len]); have e1 := HN.out; have e2 := HF.out; have e3 := HS.out; have e4 := HE.out; omega)
 have hC3z : Calls Tryz.prog 56 #[v2, .int .u64 (IntKind.u64.wrap at_), .int .i64 4] w2 _ := putW_any W0.heap.size 4 at_ (IntKind.u64.wrap at_) (wrap_mod _) (by omega) v2 _ w2 h2 b2.size (by (try simp only [laQ, List.length_nil, putI_len, nodesB_len]); have e1 := HN.out; have e2 := HF.out; have e3 := HS.out; have e4 := HE.out; omega)
 have q3 := HC.out w2 b2 2 _ rfl
 have qk := HC.out w2 b2 0 _ rfl
 go_wp2_with (go_at_call 56; (first | with_reducible refine hC3.mono ?_ | with_reducible refine hC3z.mono ?_); rintro e w3 ⟨v3, rfl, h3, g3⟩; refine Hid.out ?_)
 refine hid ?_
 have b3 : Below W0.heap.size W0 w3 := b2.trans (g3.below h2 b2.size)
 clear hC3 hC3z q3 g3
 have hC4 := refNodes_any W0 na nodes nn nc HR.out.nodes HN.out HR.out.nok w3 v3 _ b3 h3 (by (try simp only [laQ, List.length_nil, putI_len, nodesB_len]); have e1 := HN.out; have e2 := HF.out; have e3 := HS.out; have e4 := HE.out; omega)
 have q4 := HC.out w3 b3 3 _ rfl
 go_wp2_with (go_at_call 57; (first | with_reducible refine hC4.mono ?_); rintro e w4 ⟨v4, rfl, h4, g4⟩; refine Hid.out ?_)
 refine hid ?_
 have b4 : Below W0.heap.size W0 w4 := b3.trans (g4.below h3 b3.size)
 clear hC4 q4 g4
 obtain ⟨va, vc, hv⟩ := Bs.form h4
 have hbs2 : Bs W0.heap.size w4 v4 (recB (pr ⟨2, id, at_, na, nc, nodes, fa, fc, facts, epoch, sa, sc, spans, frm, til, ea, ec, ents⟩)) := by
  rw [E.out]
  simpa [apQ] using h4
 obtain ⟨va, vc, hv⟩ := Bs.form hbs2
 subst hv
 have HO : Aside (Bs W0.heap.size w4 (.slice va (recB (pr ⟨2, id, at_, na, nc, nodes, fa, fc, facts, epoch, sa, sc, spans, frm, til, ea, ec, ents⟩)).length vc) (recB (pr ⟨2, id, at_, na, nc, nodes, fa, fc, facts, epoch, sa, sc, spans, frm, til, ea, ec, ents⟩)) ∧ Below W0.heap.size W0 w4) := ⟨hbs2, b4⟩
 have e60 : (recB (pr ⟨2, id, at_, na, nc, nodes, fa, fc, facts, epoch, sa, sc, spans, frm, til, ea, ec, ents⟩)).length ≤ 100000000 := by rw [E.out]; simp only [laQ, List.length_nil, putI_len, nodesB_len, spansB_len]; omega
 clear h4 hbs2 b4
 obtain ⟨R, hRR⟩ : ∃ R, recB (pr ⟨2, id, at_, na, nc, nodes, fa, fc, facts, epoch, sa, sc, spans, frm, til, ea, ec, ents⟩) = R := ⟨_, rfl⟩
 have HRR : Hid (recB (pr ⟨2, id, at_, na, nc, nodes, fa, fc, facts, epoch, sa, sc, spans, frm, til, ea, ec, ents⟩) = R) := hRR
 rw [hRR] at HO e60 ⊢
 obtain ⟨m, hm⟩ : ∃ m, R.length = m := ⟨_, rfl⟩
 have HMM : Hid (R.length = m) := hm
 rw [hm] at e60 HO ⊢
 clear hm hRR
 by_cases hb6 : m ≤ 60000
 ·have hb6z : ¬ (60000 : Int) < (m : Int) := by omega
  have HEQ : Hid (∀ v, encE v m = .returned (.tuple #[v, .int .i64 0])) := fun v => if_pos hb6
  clear hb6
  go_wp2
  go_ret2
  refine ⟨.slice va m vc, ?_, ?_, H0.out.trans (HO.out.2.mono H0.out.size)⟩
  ·rw [show _ = R from HRR.out, show _ = m from HMM.out]; exact ((show ∀ v, _ from HEQ.out) _).symm
  ·rw [show _ = R from HRR.out]; unfold Bs; rw [show _ = m from HMM.out]; have h9 := HO.out.1; unfold Bs at h9; rw [show _ = m from HMM.out] at h9; exact own_mono h9 H0.out.size
 ·have hb6z : (60000 : Int) < (m : Int) := by omega
  have HEQ : Hid (∀ v, encE v m = .returned (.tuple #[.slice none 0 0, .int .i64 3])) := fun v => if_neg hb6
  clear hb6
  go_wp2
  go_ret2
  refine ⟨.slice va m vc, ?_, ?_, H0.out.trans (HO.out.2.mono H0.out.size)⟩
  ·rw [show _ = R from HRR.out, show _ = m from HMM.out]; exact ((show ∀ v, _ from HEQ.out) _).symm
  ·rw [show _ = R from HRR.out]; unfold Bs; rw [show _ = m from HMM.out]; have h9 := HO.out.1; unfold Bs at h9; rw [show _ = m from HMM.out] at h9; exact own_mono h9 H0.out.size

theorem refEnc_6 (w : World) (r : Rc) (hR : RecIn w r) (hk : r.kind = 6) (hs : sndRec (pr r) = true) (hfl : ∀ e ∈ r.ents, e.fs.length ≤ 100000000) (hl : (recB (pr r)).length ≤ 100000000) :
  Calls Tryz.prog 34 #[rcV r] w fun e w' => ∃ v', e = encE v' (recB (pr r)).length ∧ Bs w.heap.size w' v' (recB (pr r)) ∧ Below w.heap.size w w' := by
 obtain ⟨kind, id, at_, na, nc, nodes, fa, fc, facts, epoch, sa, sc, spans, frm, til, ea, ec, ents⟩ := r
 simp only at hk hfl
 subst hk
 have E : Hid (recB (pr ⟨6, id, at_, na, nc, nodes, fa, fc, facts, epoch, sa, sc, spans, frm, til, ea, ec, ents⟩) = putI 6 1 ++ (putI id 4 ++ (putI epoch 4 ++ (putI spans.length 1 ++ spans.flatMap spanB)))) := by
  show _ = _
  simp [recB, bodyB, pr, mapB]
 rw [E.out] at hl
 simp only [laQ, List.length_nil, putI_len, nodesB_len, spansB_len] at hl
 have l2 := factsB_least facts
 have l4 := entsB_least ents
 have hb0 : Below w.heap.size w (w.alloc (.cells #[(.int .u8 6), (.int .u32 id), (.int .u32 at_), (.slice na nodes.length nc), (.slice fa facts.length fc), (.int .u32 epoch), (.slice sa spans.length sc), (.int .i64 frm), (.int .i64 til), (.slice ea ents.length ec)] 46)) := by (repeat (first | with_reducible exact Below.refl _ _ | (with_reducible refine Below.drew ?_) | (with_reducible refine Below.alloc ?_ (by first | omega | (simp; done) | (simp; omega)) _) | (with_reducible refine Below.setCell ?_ (by first | exact nrQ _ | omega | (simp; done) | (simp; omega)) _)))
 have hR0 := hR.keep hb0
 have hcell : ∀ W, Below (w.heap.size + 1) (w.alloc (.cells #[(.int .u8 6), (.int .u32 id), (.int .u32 at_), (.slice na nodes.length nc), (.slice fa facts.length fc), (.int .u32 epoch), (.slice sa spans.length sc), (.int .i64 frm), (.int .i64 til), (.slice ea ents.length ec)] 46)) W → ∀ j x, #[(.int .u8 6), (.int .u32 id), (.int .u32 at_), (.slice na nodes.length nc), (.slice fa facts.length fc), (.int .u32 epoch), (.slice sa spans.length sc), (.int .i64 frm), (.int .i64 til), (.slice ea ents.length ec)][j]? = some x → W.cell? ⟨w.heap.size, j, none⟩ = some x := by
  intro W hW j x hx
  rw [hW.cell (p := ⟨w.heap.size, j, none⟩) (by simp)]
  simpa [go_sem] using hx
 have hsz : (w.alloc (.cells #[(.int .u8 6), (.int .u32 id), (.int .u32 at_), (.slice na nodes.length nc), (.slice fa facts.length fc), (.int .u32 epoch), (.slice sa spans.length sc), (.int .i64 frm), (.int .i64 til), (.slice ea ents.length ec)] 46)).heap.size = w.heap.size + 1 := by simp
 have hS := refSound_any _ _ hR0
 rw [hs] at hS
 generalize hW0 : w.alloc (.cells #[(.int .u8 6), (.int .u32 id), (.int .u32 at_), (.slice na nodes.length nc), (.slice fa facts.length fc), (.int .u32 epoch), (.slice sa spans.length sc), (.int .i64 frm), (.int .i64 til), (.slice ea ents.length ec)] 46) = W0 at hb0 hR0 hcell hsz hS
 rw [← hsz] at hcell
 have HR : Aside (RecIn W0 _) := hR0
 have HU : Aside ((0 ≤ id ∧ id ≤ 4294967295) ∧ (0 ≤ at_ ∧ at_ ≤ 4294967295) ∧ (0 ≤ epoch ∧ epoch ≤ 4294967295)) := ⟨hR.id, hR.at_, hR.epoch⟩
 have HFL : Aside (∀ e ∈ ents, e.fs.length ≤ 100000000) := hfl
 have H0 : Aside (Below w.heap.size w W0) := hb0
 have hS2 : Calls Tryz.prog 55 #[.agg #[(.int .u8 6), (.int .u32 id), (.int .u32 at_), (.slice na nodes.length nc), (.slice fa facts.length fc), (.int .u32 epoch), (.slice sa spans.length sc), (.int .i64 frm), (.int .i64 til), (.slice ea ents.length ec)]] W0 fun e w' => e = .returned (.bool true) ∧ Below W0.heap.size W0 w' := hS
 obtain ⟨nn, hnn⟩ : ∃ nn, nodes.length = nn := ⟨_, rfl⟩
 have HN : Hid (nodes.length = nn) := hnn
 obtain ⟨fn, hfn⟩ : ∃ fn, facts.length = fn := ⟨_, rfl⟩
 have HF : Hid (facts.length = fn) := hfn
 obtain ⟨sn, hsn⟩ : ∃ sn, spans.length = sn := ⟨_, rfl⟩
 have HS : Hid (spans.length = sn) := hsn
 obtain ⟨en, hen⟩ : ∃ en, ents.length = en := ⟨_, rfl⟩
 have HE : Hid (ents.length = en) := hen
 show Calls _ _ #[.agg #[(.int .u8 6), (.int .u32 id), (.int .u32 at_), (.slice na nodes.length nc), (.slice fa facts.length fc), (.int .u32 epoch), (.slice sa spans.length sc), (.int .i64 frm), (.int .i64 til), (.slice ea ents.length ec)]] _ _
 rw [hnn, hfn, hsn, hen] at hW0 hcell hS2 ⊢
 have hsn8 : sn ≤ 100000000 := by omega
 have HC : Aside (∀ W, Below W0.heap.size W0 W → _) := hcell
 have HW : Hid (_ = W0) := hW0
 have b0 := Below.refl W0.heap.size W0
 have s0 : w.heap.size < W0.heap.size := by omega
 clear hR hR0 hb0 hcell hsz hW0 hnn hfn hsn hen hS hs hfl
 go_enter Tryz.func34, Tryz.ntmps34
 go_wp2_with fail
 rw [HW.out]
 refine hS2.mono ?_
 rintro e w0 ⟨rfl, g0⟩
 have bs := b0.trans g0
 have q0 := HC.out w0 bs 0 _ rfl
 have h1 := first_byte W0.heap.size w0 6 HR.out.kind bs.size
 have b1 : Below W0.heap.size W0 (w0.alloc (.cells #[.int .u8 6] 5)) := bs.alloc bs.size _
 clear hS2 g0
 go_upto_region 4 with fail
 generalize (w0.alloc (.cells #[.int .u8 6] 5)) = w1 at h1 b1 ⊢
 generalize (.slice (some ⟨w0.heap.size, 0, none⟩) 1 1 : Value) = v1 at h1 ⊢
 clear q0
 have hC2 : Calls Tryz.prog 56 #[v1, .int .u64 id, .int .i64 4] w1 _ := putW_any W0.heap.size 4 id id (by have := HU.out.1; omega) (by omega) v1 _ w1 h1 b1.size (by (try simp only [laQ, List.length_nil, putI_len, nodesB_len]); have e1 := HN.out; have e2 := HF.out; have e3 := HS.out; have e4 := HE.out; omega)
 have hC2z : Calls Tryz.prog 56 #[v1, .int .u64 (IntKind.u64.wrap id), .int .i64 4] w1 _ := putW_any W0.heap.size 4 id (IntKind.u64.wrap id) (wrap_mod _) (by omega) v1 _ w1 h1 b1.size (by (try simp only [laQ, List.length_nil, putI_len, nodesB_len]); have e1 := HN.out; have e2 := HF.out; have e3 := HS.out; have e4 := HE.out; omega)
 have q2 := HC.out w1 b1 1 _ rfl
 go_wp2_with (go_at_call 56; (first | with_reducible refine hC2.mono ?_ | with_reducible refine hC2z.mono ?_); rintro e w2 ⟨v2, rfl, h2, g2⟩; refine Hid.out ?_)
 refine hid ?_
 have b2 : Below W0.heap.size W0 w2 := b1.trans (g2.below h1 b1.size)
 clear hC2 hC2z q2 g2
 have hC3 : Calls Tryz.prog 56 #[v2, .int .u64 epoch, .int .i64 4] w2 _ := putW_any W0.heap.size 4 epoch epoch (by have := HU.out.2.2; omega) (by omega) v2 _ w2 h2 b2.size (by (try simp only [laQ, List.length_nil, putI_len, nodesB_len]); have e1 := HN.out; have e2 := HF.out; have e3 := HS.out; have e4 := HE.out; omega)
 have hC3z : Calls Tryz.prog 56 #[v2, .int .u64 (IntKind.u64.wrap epoch), .int .i64 4] w2 _ := putW_any W0.heap.size 4 epoch (IntKind.u64.wrap epoch) (wrap_mod _) (by omega) v2 _ w2 h2 b2.size (by (try simp only [laQ, List.length_nil, putI_len, nodesB_len]); have e1 := HN.out; have e2 := HF.out; have e3 := HS.out; have e4 := HE.out; omega)
 have q3 := HC.out w2 b2 5 _ rfl
 have qk := HC.out w2 b2 0 _ rfl
 go_wp2_with (go_at_call 56; (first | with_reducible refine hC3.mono ?_ | with_reducible refine hC3z.mono ?_); rintro e w3 ⟨v3, rfl, h3, g3⟩; refine Hid.out ?_)
 refine hid ?_
 have b3 : Below W0.heap.size W0 w3 := b2.trans (g3.below h2 b2.size)
 clear hC3 hC3z q3 g3
 have hC4 : Calls Tryz.prog 56 #[v3, .int .u64 (sn : Int), .int .i64 1] w3 _ := putW_any W0.heap.size 1 sn sn (by omega) (by omega) v3 _ w3 h3 b3.size (by (try simp only [laQ, List.length_nil, putI_len, nodesB_len]); have e1 := HN.out; have e2 := HF.out; have e3 := HS.out; have e4 := HE.out; omega)
 have hC4z : Calls Tryz.prog 56 #[v3, .int .u64 (IntKind.u64.wrap sn), .int .i64 1] w3 _ := putW_any W0.heap.size 1 sn (IntKind.u64.wrap sn) (wrap_mod _) (by omega) v3 _ w3 h3 b3.size (by (try simp only [laQ, List.length_nil, putI_len, nodesB_len]); have e1 := HN.out; have e2 := HF.out; have e3 := HS.out; have e4 := HE.out; omega)
 have q4 := HC.out w3 b3 6 _ rfl
 go_wp2_with (go_at_call 56; (first | with_reducible refine hC4.mono ?_ | with_reducible refine hC4z.mono ?_); rintro e w4 ⟨v4, rfl, h4, g4⟩; refine Hid.out ?_)
 refine hid ?_
 have b4 : Below W0.heap.size W0 w4 := b3.trans (g4.below h3 b3.size)
 clear hC4 hC4z q4 g4
 have S1 : Aside (Bs W0.heap.size w4 v4 (putI 6 1 ++ putI id 4 ++ putI epoch 4 ++ putI sn 1 ++ (spans.take 0).flatMap spanB) ∧ Below W0.heap.size W0 w4) := ⟨by simpa using h4, b4⟩
 clear h4 b4 qk
 go_wp2_with fail
 go_loopg [4, 5] sn (fun g1 vv vi wr => ∃ (k : Nat), vi = .int .i64 k ∧ k ≤ sn ∧ sn - k ≤ g1 ∧ Aside (Bs W0.heap.size wr vv (putI 6 1 ++ putI id 4 ++ putI epoch 4 ++ putI sn 1 ++ (spans.take k).flatMap spanB) ∧ Below W0.heap.size W0 wr))
 case atStart => exact ⟨0, rfl, Nat.zero_le _, nrQ _, S1⟩
 case round =>
  clear S1
  obtain ⟨k, rfl, hk, hg1, SK⟩ := hrel
  have q6 := HC.out wr SK.out.2 6 _ rfl
  by_cases hlt : k < sn
  ·have hltz : (k : Int) < (sn : Int) := by omega
   have hkl : k < spans.length := by rw [HS.out]; exact hlt
   obtain ⟨bb, off, ha, hc⟩ := HR.out.spans.get hkl
   have ha2 : sa = some ⟨bb, off, none⟩ := ha
   subst ha2
   obtain ⟨r0, r1, r2, r3⟩ := hc k hkl
   have HT : Hid ((spans.take (k + 1)).flatMap spanB = (spans.take k).flatMap spanB ++ (putI (spn spans k).1 4 ++ putI (spn spans k).2 1)) := by show _ = _; rw [take_spn spans k hkl, List.flatMap_append]; simp [spanB]
   have hq : ∀ W, Below W0.heap.size W0 W → W.cell? ⟨bb, off + k * 2, none⟩ = some (.int .i64 (spn spans k).1) ∧ W.cell? ⟨bb, off + k * 2 + 1, none⟩ = some (.int .i64 (spn spans k).2) := fun W hW => ⟨(hW.cell (p := ⟨bb, off + k * 2, none⟩) (cell_lt r0)).trans r0, (hW.cell (p := ⟨bb, off + k * 2 + 1, none⟩) (cell_lt r1)).trans r1⟩
   have hlen : ((spans.take k).flatMap spanB).length ≤ 100000000 := by
    rw [spansB_len]; simp only [List.length_take]; omega
   clear hc r0 r1 r2 r3
   generalize (spn spans k).1 = x0 at hq HT
   generalize (spn spans k).2 = x1 at hq HT
   obtain ⟨r0, r1⟩ := hq wr SK.out.2
   have HQ : Aside (∀ W, Below W0.heap.size W0 W → _) := hq
   have hC := putW_any W0.heap.size 4 x0 (IntKind.u64.wrap x0) (wrap_mod _) (by omega) _ _ wr SK.out.1 SK.out.2.size (by simp only [laQ, putI_len]; omega)
   clear hq
   go_wp2_with (go_at_call 56; refine hC.mono ?_; rintro e w6 ⟨v6, rfl, hown6, hgr6⟩; refine Hid.out ?_)
   refine hid ?_
   have B6 : Aside (Below W0.heap.size W0 w6) := SK.out.2.trans (hgr6.below SK.out.1 SK.out.2.size)
   have hC7 := putW_any W0.heap.size 1 x1 (IntKind.u64.wrap x1) (wrap_mod _) (by omega) _ _ w6 hown6 B6.out.size (by simp only [laQ, putI_len]; omega)
   obtain ⟨r3, r4⟩ := HQ.out w6 B6.out
   have q6' := HC.out w6 B6.out 6 _ rfl
   clear hC r0 r1 q6 hgr6
   go_wp2_with (go_at_call 56; refine hC7.mono ?_; rintro e w7 ⟨v7, rfl, hown7, hgr7⟩; refine Hid.out ?_)
   refine hid ?_
   have S2 : Aside (Bs W0.heap.size w7 v7 (putI 6 1 ++ putI id 4 ++ putI epoch 4 ++ putI sn 1 ++ (spans.take (k + 1)).flatMap spanB) ∧ Below W0.heap.size W0 w7) := by
    refine ⟨?_, B6.out.trans (hgr7.below hown6 B6.out.size)⟩
    rw [HT.out]
    simpa [apQ] using hown7
   clear hC7 hown6 hown7 hgr7 r3 r4 q6'
   go_wp2
   go_roundg (sn - (k + 1))
   case measure => omega
   case rel => exact ⟨k + 1, by go_num, by omega, by omega, S2⟩
  ·have hltz : ¬ (k : Int) < (sn : Int) := by omega
   have S2 : Aside (Bs W0.heap.size wr u4 (putI 6 1 ++ putI id 4 ++ putI epoch 4 ++ putI sn 1 ++ spans.flatMap spanB) ∧ Below W0.heap.size W0 wr) := by
    have h := SK.out
    rw [List.take_of_length_le (by rw [HS.out]; omega)] at h
    exact h
   clear SK
   have hbs := S2.out.1
   obtain ⟨va, vc, hv⟩ := Bs.form hbs
   have hbs2 : Bs W0.heap.size wr u4 (recB (pr ⟨6, id, at_, na, nc, nodes, fa, fc, facts, epoch, sa, sc, spans, frm, til, ea, ec, ents⟩)) := by
    rw [E.out, HS.out]
    simpa [apQ] using hbs
   obtain ⟨va, vc, hv⟩ := Bs.form hbs2
   subst hv
   have HO : Aside (Bs W0.heap.size wr (.slice va (recB (pr ⟨6, id, at_, na, nc, nodes, fa, fc, facts, epoch, sa, sc, spans, frm, til, ea, ec, ents⟩)).length vc) (recB (pr ⟨6, id, at_, na, nc, nodes, fa, fc, facts, epoch, sa, sc, spans, frm, til, ea, ec, ents⟩)) ∧ Below W0.heap.size W0 wr) := ⟨hbs2, S2.out.2⟩
   have e60 : (recB (pr ⟨6, id, at_, na, nc, nodes, fa, fc, facts, epoch, sa, sc, spans, frm, til, ea, ec, ents⟩)).length ≤ 100000000 := by rw [E.out]; simp only [laQ, List.length_nil, putI_len, nodesB_len, spansB_len]; omega
   clear hbs hbs2
   obtain ⟨R, hRR⟩ : ∃ R, recB (pr ⟨6, id, at_, na, nc, nodes, fa, fc, facts, epoch, sa, sc, spans, frm, til, ea, ec, ents⟩) = R := ⟨_, rfl⟩
   have HRR : Hid (recB (pr ⟨6, id, at_, na, nc, nodes, fa, fc, facts, epoch, sa, sc, spans, frm, til, ea, ec, ents⟩) = R) := hRR
   rw [hRR] at HO e60 ⊢
   obtain ⟨m, hm⟩ : ∃ m, R.length = m := ⟨_, rfl⟩
   have HMM : Hid (R.length = m) := hm
   rw [hm] at e60 HO ⊢
   clear hm hRR
   by_cases hb6 : m ≤ 60000
   ·have hb6z : ¬ (60000 : Int) < (m : Int) := by omega
    have HEQ : Hid (∀ v, encE v m = .returned (.tuple #[v, .int .i64 0])) := fun v => if_pos hb6
    clear hb6
    go_wp2
    go_ret2
    refine ⟨.slice va m vc, ?_, ?_, H0.out.trans (HO.out.2.mono H0.out.size)⟩
    ·rw [show _ = R from HRR.out, show _ = m from HMM.out]; exact ((show ∀ v, _ from HEQ.out) _).symm
    ·rw [show _ = R from HRR.out]; unfold Bs; rw [show _ = m from HMM.out]; have h9 := HO.out.1; unfold Bs at h9; rw [show _ = m from HMM.out] at h9; exact own_mono h9 H0.out.size
   ·have hb6z : (60000 : Int) < (m : Int) := by omega
    have HEQ : Hid (∀ v, encE v m = .returned (.tuple #[.slice none 0 0, .int .i64 3])) := fun v => if_neg hb6
    clear hb6
    go_wp2
    go_ret2
    refine ⟨.slice va m vc, ?_, ?_, H0.out.trans (HO.out.2.mono H0.out.size)⟩
    ·rw [show _ = R from HRR.out, show _ = m from HMM.out]; exact ((show ∀ v, _ from HEQ.out) _).symm
    ·rw [show _ = R from HRR.out]; unfold Bs; rw [show _ = m from HMM.out]; have h9 := HO.out.1; unfold Bs at h9; rw [show _ = m from HMM.out] at h9; exact own_mono h9 H0.out.size

theorem refEnc_7 (w : World) (r : Rc) (hR : RecIn w r) (hk : r.kind = 7) (hs : sndRec (pr r) = true) (hfl : ∀ e ∈ r.ents, e.fs.length ≤ 100000000) (hl : (recB (pr r)).length ≤ 100000000) :
  Calls Tryz.prog 34 #[rcV r] w fun e w' => ∃ v', e = encE v' (recB (pr r)).length ∧ Bs w.heap.size w' v' (recB (pr r)) ∧ Below w.heap.size w w' := by
 obtain ⟨kind, id, at_, na, nc, nodes, fa, fc, facts, epoch, sa, sc, spans, frm, til, ea, ec, ents⟩ := r
 simp only at hk hfl
 subst hk
 have E : Hid (recB (pr ⟨7, id, at_, na, nc, nodes, fa, fc, facts, epoch, sa, sc, spans, frm, til, ea, ec, ents⟩) = putI 7 1 ++ (putI id 4 ++ (putI frm 4 ++ (putI til 4 ++ entsB (ents.map pe))))) := by
  show _ = _
  simp [recB, bodyB, pr, mapB]
 rw [E.out] at hl
 simp only [laQ, List.length_nil, putI_len, nodesB_len, spansB_len] at hl
 have l2 := factsB_least facts
 have l4 := entsB_least ents
 have hb0 : Below w.heap.size w (w.alloc (.cells #[(.int .u8 7), (.int .u32 id), (.int .u32 at_), (.slice na nodes.length nc), (.slice fa facts.length fc), (.int .u32 epoch), (.slice sa spans.length sc), (.int .i64 frm), (.int .i64 til), (.slice ea ents.length ec)] 46)) := by (repeat (first | with_reducible exact Below.refl _ _ | (with_reducible refine Below.drew ?_) | (with_reducible refine Below.alloc ?_ (by first | omega | (simp; done) | (simp; omega)) _) | (with_reducible refine Below.setCell ?_ (by first | exact nrQ _ | omega | (simp; done) | (simp; omega)) _)))
 have hR0 := hR.keep hb0
 have hcell : ∀ W, Below (w.heap.size + 1) (w.alloc (.cells #[(.int .u8 7), (.int .u32 id), (.int .u32 at_), (.slice na nodes.length nc), (.slice fa facts.length fc), (.int .u32 epoch), (.slice sa spans.length sc), (.int .i64 frm), (.int .i64 til), (.slice ea ents.length ec)] 46)) W → ∀ j x, #[(.int .u8 7), (.int .u32 id), (.int .u32 at_), (.slice na nodes.length nc), (.slice fa facts.length fc), (.int .u32 epoch), (.slice sa spans.length sc), (.int .i64 frm), (.int .i64 til), (.slice ea ents.length ec)][j]? = some x → W.cell? ⟨w.heap.size, j, none⟩ = some x := by
  intro W hW j x hx
  rw [hW.cell (p := ⟨w.heap.size, j, none⟩) (by simp)]
  simpa [go_sem] using hx
 have hsz : (w.alloc (.cells #[(.int .u8 7), (.int .u32 id), (.int .u32 at_), (.slice na nodes.length nc), (.slice fa facts.length fc), (.int .u32 epoch), (.slice sa spans.length sc), (.int .i64 frm), (.int .i64 til), (.slice ea ents.length ec)] 46)).heap.size = w.heap.size + 1 := by simp
 have hS := refSound_any _ _ hR0
 rw [hs] at hS
 generalize hW0 : w.alloc (.cells #[(.int .u8 7), (.int .u32 id), (.int .u32 at_), (.slice na nodes.length nc), (.slice fa facts.length fc), (.int .u32 epoch), (.slice sa spans.length sc), (.int .i64 frm), (.int .i64 til), (.slice ea ents.length ec)] 46) = W0 at hb0 hR0 hcell hsz hS
 rw [← hsz] at hcell
 have HR : Aside (RecIn W0 _) := hR0
 have HU : Aside ((0 ≤ id ∧ id ≤ 4294967295) ∧ (0 ≤ at_ ∧ at_ ≤ 4294967295) ∧ (0 ≤ epoch ∧ epoch ≤ 4294967295)) := ⟨hR.id, hR.at_, hR.epoch⟩
 have HFL : Aside (∀ e ∈ ents, e.fs.length ≤ 100000000) := hfl
 have H0 : Aside (Below w.heap.size w W0) := hb0
 have hS2 : Calls Tryz.prog 55 #[.agg #[(.int .u8 7), (.int .u32 id), (.int .u32 at_), (.slice na nodes.length nc), (.slice fa facts.length fc), (.int .u32 epoch), (.slice sa spans.length sc), (.int .i64 frm), (.int .i64 til), (.slice ea ents.length ec)]] W0 fun e w' => e = .returned (.bool true) ∧ Below W0.heap.size W0 w' := hS
 obtain ⟨nn, hnn⟩ : ∃ nn, nodes.length = nn := ⟨_, rfl⟩
 have HN : Hid (nodes.length = nn) := hnn
 obtain ⟨fn, hfn⟩ : ∃ fn, facts.length = fn := ⟨_, rfl⟩
 have HF : Hid (facts.length = fn) := hfn
 obtain ⟨sn, hsn⟩ : ∃ sn, spans.length = sn := ⟨_, rfl⟩
 have HS : Hid (spans.length = sn) := hsn
 obtain ⟨en, hen⟩ : ∃ en, ents.length = en := ⟨_, rfl⟩
 have HE : Hid (ents.length = en) := hen
 show Calls _ _ #[.agg #[(.int .u8 7), (.int .u32 id), (.int .u32 at_), (.slice na nodes.length nc), (.slice fa facts.length fc), (.int .u32 epoch), (.slice sa spans.length sc), (.int .i64 frm), (.int .i64 til), (.slice ea ents.length ec)]] _ _
 rw [hnn, hfn, hsn, hen] at hW0 hcell hS2 ⊢
 have HC : Aside (∀ W, Below W0.heap.size W0 W → _) := hcell
 have HW : Hid (_ = W0) := hW0
 have b0 := Below.refl W0.heap.size W0
 have s0 : w.heap.size < W0.heap.size := by omega
 clear hR hR0 hb0 hcell hsz hW0 hnn hfn hsn hen hS hs hfl
 go_enter Tryz.func34, Tryz.ntmps34
 go_wp2_with fail
 rw [HW.out]
 refine hS2.mono ?_
 rintro e w0 ⟨rfl, g0⟩
 have bs := b0.trans g0
 have q0 := HC.out w0 bs 0 _ rfl
 have h1 := first_byte W0.heap.size w0 7 HR.out.kind bs.size
 have b1 : Below W0.heap.size W0 (w0.alloc (.cells #[.int .u8 7] 5)) := bs.alloc bs.size _
 clear hS2 g0
 go_upto_region 4 with fail
 generalize (w0.alloc (.cells #[.int .u8 7] 5)) = w1 at h1 b1 ⊢
 generalize (.slice (some ⟨w0.heap.size, 0, none⟩) 1 1 : Value) = v1 at h1 ⊢
 clear q0
 have hC2 : Calls Tryz.prog 56 #[v1, .int .u64 id, .int .i64 4] w1 _ := putW_any W0.heap.size 4 id id (by have := HU.out.1; omega) (by omega) v1 _ w1 h1 b1.size (by (try simp only [laQ, List.length_nil, putI_len, nodesB_len]); have e1 := HN.out; have e2 := HF.out; have e3 := HS.out; have e4 := HE.out; omega)
 have hC2z : Calls Tryz.prog 56 #[v1, .int .u64 (IntKind.u64.wrap id), .int .i64 4] w1 _ := putW_any W0.heap.size 4 id (IntKind.u64.wrap id) (wrap_mod _) (by omega) v1 _ w1 h1 b1.size (by (try simp only [laQ, List.length_nil, putI_len, nodesB_len]); have e1 := HN.out; have e2 := HF.out; have e3 := HS.out; have e4 := HE.out; omega)
 have q2 := HC.out w1 b1 1 _ rfl
 go_wp2_with (go_at_call 56; (first | with_reducible refine hC2.mono ?_ | with_reducible refine hC2z.mono ?_); rintro e w2 ⟨v2, rfl, h2, g2⟩; refine Hid.out ?_)
 refine hid ?_
 have b2 : Below W0.heap.size W0 w2 := b1.trans (g2.below h1 b1.size)
 clear hC2 hC2z q2 g2
 have hC3 : Calls Tryz.prog 56 #[v2, .int .u64 (IntKind.u64.wrap frm), .int .i64 4] w2 _ := putW_any W0.heap.size 4 frm (IntKind.u64.wrap frm) (wrap_mod _) (by omega) v2 _ w2 h2 b2.size (by (try simp only [laQ, List.length_nil, putI_len, nodesB_len]); have e1 := HN.out; have e2 := HF.out; have e3 := HS.out; have e4 := HE.out; omega)
 have q3 := HC.out w2 b2 7 _ rfl
 have qk := HC.out w2 b2 0 _ rfl
 go_wp2_with (go_at_call 56; (first | with_reducible refine hC3.mono ?_); rintro e w3 ⟨v3, rfl, h3, g3⟩; refine Hid.out ?_)
 refine hid ?_
 have b3 : Below W0.heap.size W0 w3 := b2.trans (g3.below h2 b2.size)
 clear hC3 q3 g3
 have hC4 : Calls Tryz.prog 56 #[v3, .int .u64 (IntKind.u64.wrap til), .int .i64 4] w3 _ := putW_any W0.heap.size 4 til (IntKind.u64.wrap til) (wrap_mod _) (by omega) v3 _ w3 h3 b3.size (by (try simp only [laQ, List.length_nil, putI_len, nodesB_len]); have e1 := HN.out; have e2 := HF.out; have e3 := HS.out; have e4 := HE.out; omega)
 have q4 := HC.out w3 b3 8 _ rfl
 go_wp2_with (go_at_call 56; (first | with_reducible refine hC4.mono ?_); rintro e w4 ⟨v4, rfl, h4, g4⟩; refine Hid.out ?_)
 refine hid ?_
 have b4 : Below W0.heap.size W0 w4 := b3.trans (g4.below h3 b3.size)
 clear hC4 q4 g4
 have hC5 := refEntries_any W0 ea ents en ec HR.out.ents HE.out w4 v4 _ b4 h4 (by (try simp only [laQ, List.length_nil, putI_len, nodesB_len]); have e1 := HN.out; have e2 := HF.out; have e3 := HS.out; have e4 := HE.out; omega) HFL.out (by (try simp only [laQ, List.length_nil, putI_len, nodesB_len]); have e1 := HN.out; have e2 := HF.out; have e3 := HS.out; have e4 := HE.out; omega)
 have q5 := HC.out w4 b4 9 _ rfl
 go_wp2_with (go_at_call 59; (first | with_reducible refine hC5.mono ?_); rintro e w5 ⟨v5, rfl, h5, g5⟩; refine Hid.out ?_)
 refine hid ?_
 have b5 : Below W0.heap.size W0 w5 := b4.trans (g5.below h4 b4.size)
 clear hC5 q5 g5
 obtain ⟨va, vc, hv⟩ := Bs.form h5
 have hbs2 : Bs W0.heap.size w5 v5 (recB (pr ⟨7, id, at_, na, nc, nodes, fa, fc, facts, epoch, sa, sc, spans, frm, til, ea, ec, ents⟩)) := by
  rw [E.out]
  simpa [apQ] using h5
 obtain ⟨va, vc, hv⟩ := Bs.form hbs2
 subst hv
 have HO : Aside (Bs W0.heap.size w5 (.slice va (recB (pr ⟨7, id, at_, na, nc, nodes, fa, fc, facts, epoch, sa, sc, spans, frm, til, ea, ec, ents⟩)).length vc) (recB (pr ⟨7, id, at_, na, nc, nodes, fa, fc, facts, epoch, sa, sc, spans, frm, til, ea, ec, ents⟩)) ∧ Below W0.heap.size W0 w5) := ⟨hbs2, b5⟩
 have e60 : (recB (pr ⟨7, id, at_, na, nc, nodes, fa, fc, facts, epoch, sa, sc, spans, frm, til, ea, ec, ents⟩)).length ≤ 100000000 := by rw [E.out]; simp only [laQ, List.length_nil, putI_len, nodesB_len, spansB_len]; omega
 clear h5 hbs2 b5
 obtain ⟨R, hRR⟩ : ∃ R, recB (pr ⟨7, id, at_, na, nc, nodes, fa, fc, facts, epoch, sa, sc, spans, frm, til, ea, ec, ents⟩) = R := ⟨_, rfl⟩
 have HRR : Hid (recB (pr ⟨7, id, at_, na, nc, nodes, fa, fc, facts, epoch, sa, sc, spans, frm, til, ea, ec, ents⟩) = R) := hRR
 rw [hRR] at HO e60 ⊢
 obtain ⟨m, hm⟩ : ∃ m, R.length = m := ⟨_, rfl⟩
 have HMM : Hid (R.length = m) := hm
 rw [hm] at e60 HO ⊢
 clear hm hRR
 by_cases hb6 : m ≤ 60000
 ·have hb6z : ¬ (60000 : Int) < (m : Int) := by omega
  have HEQ : Hid (∀ v, encE v m = .returned (.tuple #[v, .int .i64 0])) := fun v => if_pos hb6
  clear hb6
  go_wp2
  go_ret2
  refine ⟨.slice va m vc, ?_, ?_, H0.out.trans (HO.out.2.mono H0.out.size)⟩
  ·rw [show _ = R from HRR.out, show _ = m from HMM.out]; exact ((show ∀ v, _ from HEQ.out) _).symm
  ·rw [show _ = R from HRR.out]; unfold Bs; rw [show _ = m from HMM.out]; have h9 := HO.out.1; unfold Bs at h9; rw [show _ = m from HMM.out] at h9; exact own_mono h9 H0.out.size
 ·have hb6z : (60000 : Int) < (m : Int) := by omega
  have HEQ : Hid (∀ v, encE v m = .returned (.tuple #[.slice none 0 0, .int .i64 3])) := fun v => if_neg hb6
  clear hb6
  go_wp2
  go_ret2
  refine ⟨.slice va m vc, ?_, ?_, H0.out.trans (HO.out.2.mono H0.out.size)⟩
  ·rw [show _ = R from HRR.out, show _ = m from HMM.out]; exact ((show ∀ v, _ from HEQ.out) _).symm
  ·rw [show _ = R from HRR.out]; unfold Bs; rw [show _ = m from HMM.out]; have h9 := HO.out.1; unfold Bs at h9; rw [show _ = m from HMM.out] at h9; exact own_mono h9 H0.out.size

theorem refEnc_no (w : World) (r : Rc) (hR : RecIn w r) (k1 : (r.kind == 1) = false) (k2 : (r.kind == 2) = false) (k6 : (r.kind == 6) = false) (k7 : (r.kind == 7) = false) (hs : sndRec (pr r) = true) (hfl : ∀ e ∈ r.ents, e.fs.length ≤ 100000000) (hl : (recB (pr r)).length ≤ 100000000) :
  Calls Tryz.prog 34 #[rcV r] w fun e w' => ∃ v', e = encE v' (recB (pr r)).length ∧ Bs w.heap.size w' v' (recB (pr r)) ∧ Below w.heap.size w w' := by
 obtain ⟨kind, id, at_, na, nc, nodes, fa, fc, facts, epoch, sa, sc, spans, frm, til, ea, ec, ents⟩ := r
 simp only at k1 k2 k6 k7 hfl
 have E : Hid (recB (pr ⟨kind, id, at_, na, nc, nodes, fa, fc, facts, epoch, sa, sc, spans, frm, til, ea, ec, ents⟩) = putI kind 1 ++ (putI id 4 ++ ([]))) := by
  have e1 : ¬ kind = 1 := by simpa using k1
  have e2 : ¬ kind = 2 := by simpa using k2
  have e6 : ¬ kind = 6 := by simpa using k6
  have e7 : ¬ kind = 7 := by simpa using k7
  show _ = _
  simp [recB, bodyB, pr, e1, e2, e6, e7]
 rw [E.out] at hl
 simp only [laQ, List.length_nil, putI_len, nodesB_len, spansB_len] at hl
 have l2 := factsB_least facts
 have l4 := entsB_least ents
 have hb0 : Below w.heap.size w (w.alloc (.cells #[(.int .u8 kind), (.int .u32 id), (.int .u32 at_), (.slice na nodes.length nc), (.slice fa facts.length fc), (.int .u32 epoch), (.slice sa spans.length sc), (.int .i64 frm), (.int .i64 til), (.slice ea ents.length ec)] 46)) := by (repeat (first | with_reducible exact Below.refl _ _ | (with_reducible refine Below.drew ?_) | (with_reducible refine Below.alloc ?_ (by first | omega | (simp; done) | (simp; omega)) _) | (with_reducible refine Below.setCell ?_ (by first | exact nrQ _ | omega | (simp; done) | (simp; omega)) _)))
 have hR0 := hR.keep hb0
 have hcell : ∀ W, Below (w.heap.size + 1) (w.alloc (.cells #[(.int .u8 kind), (.int .u32 id), (.int .u32 at_), (.slice na nodes.length nc), (.slice fa facts.length fc), (.int .u32 epoch), (.slice sa spans.length sc), (.int .i64 frm), (.int .i64 til), (.slice ea ents.length ec)] 46)) W → ∀ j x, #[(.int .u8 kind), (.int .u32 id), (.int .u32 at_), (.slice na nodes.length nc), (.slice fa facts.length fc), (.int .u32 epoch), (.slice sa spans.length sc), (.int .i64 frm), (.int .i64 til), (.slice ea ents.length ec)][j]? = some x → W.cell? ⟨w.heap.size, j, none⟩ = some x := by
  intro W hW j x hx
  rw [hW.cell (p := ⟨w.heap.size, j, none⟩) (by simp)]
  simpa [go_sem] using hx
 have hsz : (w.alloc (.cells #[(.int .u8 kind), (.int .u32 id), (.int .u32 at_), (.slice na nodes.length nc), (.slice fa facts.length fc), (.int .u32 epoch), (.slice sa spans.length sc), (.int .i64 frm), (.int .i64 til), (.slice ea ents.length ec)] 46)).heap.size = w.heap.size + 1 := by simp
 have hS := refSound_any _ _ hR0
 rw [hs] at hS
 generalize hW0 : w.alloc (.cells #[(.int .u8 kind), (.int .u32 id), (.int .u32 at_), (.slice na nodes.length nc), (.slice fa facts.length fc), (.int .u32 epoch), (.slice sa spans.length sc), (.int .i64 frm), (.int .i64 til), (.slice ea ents.length ec)] 46) = W0 at hb0 hR0 hcell hsz hS
 rw [← hsz] at hcell
 have HR : Aside (RecIn W0 _) := hR0
 have HU : Aside ((0 ≤ id ∧ id ≤ 4294967295) ∧ (0 ≤ at_ ∧ at_ ≤ 4294967295) ∧ (0 ≤ epoch ∧ epoch ≤ 4294967295)) := ⟨hR.id, hR.at_, hR.epoch⟩
 have HFL : Aside (∀ e ∈ ents, e.fs.length ≤ 100000000) := hfl
 have H0 : Aside (Below w.heap.size w W0) := hb0
 have hS2 : Calls Tryz.prog 55 #[.agg #[(.int .u8 kind), (.int .u32 id), (.int .u32 at_), (.slice na nodes.length nc), (.slice fa facts.length fc), (.int .u32 epoch), (.slice sa spans.length sc), (.int .i64 frm), (.int .i64 til), (.slice ea ents.length ec)]] W0 fun e w' => e = .returned (.bool true) ∧ Below W0.heap.size W0 w' := hS
 obtain ⟨nn, hnn⟩ : ∃ nn, nodes.length = nn := ⟨_, rfl⟩
 have HN : Hid (nodes.length = nn) := hnn
 obtain ⟨fn, hfn⟩ : ∃ fn, facts.length = fn := ⟨_, rfl⟩
 have HF : Hid (facts.length = fn) := hfn
 obtain ⟨sn, hsn⟩ : ∃ sn, spans.length = sn := ⟨_, rfl⟩
 have HS : Hid (spans.length = sn) := hsn
 obtain ⟨en, hen⟩ : ∃ en, ents.length = en := ⟨_, rfl⟩
 have HE : Hid (ents.length = en) := hen
 show Calls _ _ #[.agg #[(.int .u8 kind), (.int .u32 id), (.int .u32 at_), (.slice na nodes.length nc), (.slice fa facts.length fc), (.int .u32 epoch), (.slice sa spans.length sc), (.int .i64 frm), (.int .i64 til), (.slice ea ents.length ec)]] _ _
 rw [hnn, hfn, hsn, hen] at hW0 hcell hS2 ⊢
 have HC : Aside (∀ W, Below W0.heap.size W0 W → _) := hcell
 have HW : Hid (_ = W0) := hW0
 have b0 := Below.refl W0.heap.size W0
 have s0 : w.heap.size < W0.heap.size := by omega
 clear hR hR0 hb0 hcell hsz hW0 hnn hfn hsn hen hS hs hfl
 go_enter Tryz.func34, Tryz.ntmps34
 go_wp2_with fail
 rw [HW.out]
 refine hS2.mono ?_
 rintro e w0 ⟨rfl, g0⟩
 have bs := b0.trans g0
 have q0 := HC.out w0 bs 0 _ rfl
 have h1 := first_byte W0.heap.size w0 kind HR.out.kind bs.size
 have b1 : Below W0.heap.size W0 (w0.alloc (.cells #[.int .u8 kind] 5)) := bs.alloc bs.size _
 clear hS2 g0
 go_upto_region 4 with fail
 generalize (w0.alloc (.cells #[.int .u8 kind] 5)) = w1 at h1 b1 ⊢
 generalize (.slice (some ⟨w0.heap.size, 0, none⟩) 1 1 : Value) = v1 at h1 ⊢
 clear q0
 have hC2 : Calls Tryz.prog 56 #[v1, .int .u64 id, .int .i64 4] w1 _ := putW_any W0.heap.size 4 id id (by have := HU.out.1; omega) (by omega) v1 _ w1 h1 b1.size (by (try simp only [laQ, List.length_nil, putI_len, nodesB_len]); have e1 := HN.out; have e2 := HF.out; have e3 := HS.out; have e4 := HE.out; omega)
 have hC2z : Calls Tryz.prog 56 #[v1, .int .u64 (IntKind.u64.wrap id), .int .i64 4] w1 _ := putW_any W0.heap.size 4 id (IntKind.u64.wrap id) (wrap_mod _) (by omega) v1 _ w1 h1 b1.size (by (try simp only [laQ, List.length_nil, putI_len, nodesB_len]); have e1 := HN.out; have e2 := HF.out; have e3 := HS.out; have e4 := HE.out; omega)
 have q2 := HC.out w1 b1 1 _ rfl
 go_wp2_with (go_at_call 56; (first | with_reducible refine hC2.mono ?_ | with_reducible refine hC2z.mono ?_); rintro e w2 ⟨v2, rfl, h2, g2⟩; refine Hid.out ?_)
 refine hid ?_
 have b2 : Below W0.heap.size W0 w2 := b1.trans (g2.below h1 b1.size)
 clear hC2 hC2z q2 g2
 have qk := HC.out w2 b2 0 _ rfl
 obtain ⟨va, vc, hv⟩ := Bs.form h2
 have hbs2 : Bs W0.heap.size w2 v2 (recB (pr ⟨kind, id, at_, na, nc, nodes, fa, fc, facts, epoch, sa, sc, spans, frm, til, ea, ec, ents⟩)) := by
  rw [E.out]
  simpa [apQ] using h2
 obtain ⟨va, vc, hv⟩ := Bs.form hbs2
 subst hv
 have HO : Aside (Bs W0.heap.size w2 (.slice va (recB (pr ⟨kind, id, at_, na, nc, nodes, fa, fc, facts, epoch, sa, sc, spans, frm, til, ea, ec, ents⟩)).length vc) (recB (pr ⟨kind, id, at_, na, nc, nodes, fa, fc, facts, epoch, sa, sc, spans, frm, til, ea, ec, ents⟩)) ∧ Below W0.heap.size W0 w2) := ⟨hbs2, b2⟩
 have e60 : (recB (pr ⟨kind, id, at_, na, nc, nodes, fa, fc, facts, epoch, sa, sc, spans, frm, til, ea, ec, ents⟩)).length ≤ 100000000 := by rw [E.out]; simp only [laQ, List.length_nil, putI_len, nodesB_len, spansB_len]; omega
 clear h2 hbs2 b2
 obtain ⟨R, hRR⟩ : ∃ R, recB (pr ⟨kind, id, at_, na, nc, nodes, fa, fc, facts, epoch, sa, sc, spans, frm, til, ea, ec, ents⟩) = R := ⟨_, rfl⟩
 have HRR : Hid (recB (pr ⟨kind, id, at_, na, nc, nodes, fa, fc, facts, epoch, sa, sc, spans, frm, til, ea, ec, ents⟩) = R) := hRR
 rw [hRR] at HO e60 ⊢
 obtain ⟨m, hm⟩ : ∃ m, R.length = m := ⟨_, rfl⟩
 have HMM : Hid (R.length = m) := hm
 rw [hm] at e60 HO ⊢
 clear hm hRR
 by_cases hb6 : m ≤ 60000
 ·have hb6z : ¬ (60000 : Int) < (m : Int) := by omega
  have HEQ : Hid (∀ v, encE v m = .returned (.tuple #[v, .int .i64 0])) := fun v => if_pos hb6
  clear hb6
  go_wp2
  go_ret2
  refine ⟨.slice va m vc, ?_, ?_, H0.out.trans (HO.out.2.mono H0.out.size)⟩
  ·rw [show _ = R from HRR.out, show _ = m from HMM.out]; exact ((show ∀ v, _ from HEQ.out) _).symm
  ·rw [show _ = R from HRR.out]; unfold Bs; rw [show _ = m from HMM.out]; have h9 := HO.out.1; unfold Bs at h9; rw [show _ = m from HMM.out] at h9; exact own_mono h9 H0.out.size
 ·have hb6z : (60000 : Int) < (m : Int) := by omega
  have HEQ : Hid (∀ v, encE v m = .returned (.tuple #[.slice none 0 0, .int .i64 3])) := fun v => if_neg hb6
  clear hb6
  go_wp2
  go_ret2
  refine ⟨.slice va m vc, ?_, ?_, H0.out.trans (HO.out.2.mono H0.out.size)⟩
  ·rw [show _ = R from HRR.out, show _ = m from HMM.out]; exact ((show ∀ v, _ from HEQ.out) _).symm
  ·rw [show _ = R from HRR.out]; unfold Bs; rw [show _ = m from HMM.out]; have h9 := HO.out.1; unfold Bs at h9; rw [show _ = m from HMM.out] at h9; exact own_mono h9 H0.out.size

theorem refEncode_snd (w : World) (r : Rc) (hR : RecIn w r) (hs : sndRec (pr r) = true) (hfl : ∀ e ∈ r.ents, e.fs.length ≤ 100000000) (hl : (recB (pr r)).length ≤ 100000000) :
  Calls Tryz.prog 34 #[rcV r] w fun e w' => ∃ v', e = encE v' (recB (pr r)).length ∧ Bs w.heap.size w' v' (recB (pr r)) ∧ Below w.heap.size w w' := by
 by_cases k1 : r.kind = 1
 ·exact refEnc_1 w r hR k1 hs hfl hl
 by_cases k2 : r.kind = 2
 ·exact refEnc_2 w r hR k2 hs hfl hl
 by_cases k6 : r.kind = 6
 ·exact refEnc_6 w r hR k6 hs hfl hl
 by_cases k7 : r.kind = 7
 ·exact refEnc_7 w r hR k7 hs hfl hl
 exact refEnc_no w r hR (by simpa using k1) (by simpa using k2) (by simpa using k6) (by simpa using k7) hs hfl hl

theorem refEncode_no (w : World) (r : Rc) (hR : RecIn w r) (hs : sndRec (pr r) = false) :
  Calls Tryz.prog 34 #[rcV r] w fun e w' => e = .returned (.tuple #[.slice none 0 0, .int .i64 1]) ∧ Below w.heap.size w w' := by
 have hB : Below w.heap.size w (w.alloc (.cells (rcC r) 46)) := (Below.refl _ _).alloc (nrQ _) _
 have hC1 := refSound_any _ r (hR.keep hB)
 rw [hs] at hC1
 generalize hW0 : w.alloc (.cells (rcC r) 46) = W0 at hB hC1
 have HW := hid_rc r hW0
 have HB : Aside (Below w.heap.size w W0) := hB
 clear hW0 hR hB hs
 refine calls_rc r ?_
 go_enter Tryz.func34, Tryz.ntmps34
 go_wp2_with fail
 rw [HW.out]
 refine hC1.mono ?_
 rintro e w1 ⟨rfl, g1⟩
 clear hC1
 go_wp2
 go_ret2
 exact ⟨rfl, HB.out.trans (g1.mono HB.out.size)⟩
def fw : List Ft → Int
 | [] => 0
 | f :: l => 1 + (f.k.length : Int) + fw l
theorem fw_app (a b : List Ft) : fw (a ++ b) = fw a + fw b := by
 induction a with
 | nil => simp [fw]
 | cons x a ih => simp only [List.cons_append, fw, ih]; omega
theorem fw_take (fs : List Ft) (k : Nat) (h : k < fs.length) : fw (fs.take (k + 1)) = fw (fs.take k) + (1 + ((ftn fs k).k.length : Int)) := by
 rw [take_ftn fs k h, fw_app]; simp only [fw]; omega
def ew : List Et → Int
 | [] => 0
 | e :: l => 1 + fw e.fs + ew l
theorem ew_app (a b : List Et) : ew (a ++ b) = ew a + ew b := by
 induction a with
 | nil => simp [ew]
 | cons x a ih => simp only [List.cons_append, ew, ih]; omega
theorem ew_take (es : List Et) (k : Nat) (h : k < es.length) : ew (es.take (k + 1)) = ew (es.take k) + (1 + fw (etn es k).fs) := by
 rw [take_etn es k h, ew_app]; simp only [ew]; omega
def rw_ (r : Rc) : Int := (r.nodes.length : Int) + r.spans.length + fw r.facts + ew r.ents

theorem w_r (a b : Int) : wrap64 (a + wrap64 b) = wrap64 (a + b) := by unfold wrap64; omega
theorem w_l (a b : Int) : wrap64 (wrap64 a + b) = wrap64 (a + b) := by unfold wrap64; omega

theorem heavy_any (a : Option Addr) (n c : Nat) (fs : List Ft) (w : World) (hI : FactsIn w a fs) (hn : fs.length = n) (hm : n ≤ 9223372036854775807) :
  Calls Tryz.prog 47 #[.slice a n c] w fun e w' => e = .returned (.int .i64 (wrap64 (fw fs))) ∧ w' = w := by
 have HI : Aside (FactsIn w a fs ∧ fs.length = n) := ⟨hI, hn⟩
 clear hI hn
 go_enter Tryz.func47, Tryz.ntmps47
 go_wp2_with fail
 go_loopg [3, 4] n (fun g1 vx vi wr => ∃ (k : Nat) (x : Int), vx = .int .i64 x ∧ vi = .int .i64 k ∧ k ≤ n ∧ n - k ≤ g1 ∧ wr = w ∧ Aside (x = wrap64 (fw (fs.take k))))
 case atStart => exact ⟨0, 0, rfl, rfl, Nat.zero_le _, nrQ _, rfl, (by simp only [List.take_zero, fw]; unfold wrap64; omega : (0 : Int) = wrap64 (fw (fs.take 0)))⟩
 case round =>
  obtain ⟨k, x, rfl, rfl, hk, hg1, hwr, SK⟩ := hrel
  have hwr2 := hwr.symm
  clear hwr
  subst hwr2
  by_cases hlt : k < n
  ·have hltz : (k : Int) < (n : Int) := by omega
   have hkl : k < fs.length := by rw [HI.out.2]; exact hlt
   obtain ⟨b, off, ha, hc⟩ := HI.out.1.get hkl
   subst ha
   obtain ⟨r0, r1, r2⟩ := hc k hkl
   have hml := r2.len
   have HT : Aside (fw (fs.take (k + 1)) = fw (fs.take k) + (1 + ((ftn fs k).k.length : Int))) := fw_take fs k hkl
   clear hc r1 r2
   generalize (ftn fs k).k.length = t1 at r0 hml HT
   go_wp2
   go_roundg (n - (k + 1))
   case measure => omega
   case rel =>
    refine ⟨k + 1, _, rfl, by go_num, by omega, by omega, rfl, ?_⟩
    show _ = _
    rw [HT.out]
    have e := SK.out
    generalize fw (fs.take k) = y at e ⊢
    rw [e]
    unfold wrap64
    omega
  ·have hltz : ¬ (k : Int) < (n : Int) := by omega
   have S2 : Aside (x = wrap64 (fw fs)) := by
    have h := SK.out
    rwa [List.take_of_length_le (by rw [HI.out.2]; omega)] at h
   clear SK
   go_wp2
   go_ret
   exact ⟨by rw [S2.out]; rfl, rfl⟩

theorem Heavy_any (w : World) (r : Rc) (hR : RecIn w r) :
  Calls Tryz.prog 24 #[rcV r] w fun e w' => e = .returned (.int .i64 (wrap64 (rw_ r))) ∧ Below w.heap.size w w' := by
 have hB : Below w.heap.size w (w.alloc (.cells (rcC r) 46)) := (Below.refl _ _).alloc (nrQ _) _
 have hx := Boxed.new w (rcC r) 46
 have hR0 := hR.keep hB
 have hlt0 : w.heap.size < (w.alloc (.cells (rcC r) 46)).heap.size := by simp
 generalize hW0 : w.alloc (.cells (rcC r) 46) = W0 at hB hR0 hx hlt0
 have hW1 : w.alloc (.cells #[.int .u8 r.kind, .int .u32 r.id, .int .u32 r.at_, .slice r.na r.nodes.length r.nc, .slice r.fa r.facts.length r.fc, .int .u32 r.epoch, .slice r.sa r.spans.length r.sc, .int .i64 r.frm, .int .i64 r.til, .slice r.ea r.ents.length r.ec] 46) = W0 := hW0
 have HR : Aside (RecIn W0 r ∧ Below w.heap.size w W0) := ⟨hR0, hB⟩
 have q3 : W0.cell? ⟨w.heap.size, 3, none⟩ = some (.slice r.na r.nodes.length r.nc) := hx.cell (j := 3) rfl
 have q4 : W0.cell? ⟨w.heap.size, 4, none⟩ = some (.slice r.fa r.facts.length r.fc) := hx.cell (j := 4) rfl
 have q6 : W0.cell? ⟨w.heap.size, 6, none⟩ = some (.slice r.sa r.spans.length r.sc) := hx.cell (j := 6) rfl
 have q9 : W0.cell? ⟨w.heap.size, 9, none⟩ = some (.slice r.ea r.ents.length r.ec) := hx.cell (j := 9) rfl
 have m1 := hR.nlen
 have m2 := hR.slen
 have m3 := hR.elen
 have hV : ∀ q, Calls Tryz.prog 47 #[.slice r.fa r.facts.length r.fc] (W0.drewN q) fun e w' => e = .returned (.int .i64 (wrap64 (fw r.facts))) ∧ w' = W0.drewN q := fun q =>
  heavy_any r.fa r.facts.length r.fc r.facts (W0.drewN q) (hR0.facts.keep (below_drewN (Below.refl _ _) q)) rfl hR.flen
 have HX : Aside (Boxed W0 w.heap.size (rcC r) 46) := hx
 obtain ⟨F, hF⟩ : ∃ F, fw r.facts = F := ⟨_, rfl⟩
 rw [hF] at hV
 obtain ⟨nn, hnn⟩ : ∃ nn, r.nodes.length = nn := ⟨_, rfl⟩
 obtain ⟨sn, hsn⟩ : ∃ sn, r.spans.length = sn := ⟨_, rfl⟩
 obtain ⟨en, hen⟩ : ∃ en, r.ents.length = en := ⟨_, rfl⟩
 have HF : Aside (rw_ r = (nn : Int) + sn + F + ew r.ents) := by show _ = _; unfold rw_; rw [hF, hnn, hsn]
 have HE : Aside (r.ents.length = en) := hen
 rw [hnn] at q3 m1
 rw [hsn] at q6 m2
 rw [hen] at q9 m3
 rw [hnn, hsn, hen] at hW1
 have HW : Hid (_ = W0) := hW1
 refine calls_rc r ?_
 rw [hnn, hsn, hen]
 clear hW0 hW1 hR hR0 hB hx hF hnn hsn hen
 go_enter Tryz.func24, Tryz.ntmps24
 go_upto_region 1 with fail
 rw [HW.out]
 go_quiet ((go_at_call 47; refine Calls.quiet_of_same (hV _)))
 have SB : Aside (Below W0.heap.size W0 (W0.drewN nq)) := below_drewN (Below.refl _ _) nq
 generalize hW2 : W0.drewN nq = W2 at SB
 clear hV q3 q4 q6 q9
 have S0 : Aside (∀ x : Int, x = wrap64 (wrap64 ((nn : Int) + sn) + wrap64 F) → x = wrap64 ((nn : Int) + sn + F + ew (r.ents.take 0))) := fun x hx => by
  rw [hx, w_l, w_r]; simp only [List.take_zero, ew, Int.add_zero]
 go_wp2_with fail
 go_loopg [3, 4] en (fun g1 vx vi wr => ∃ (k : Nat) (x : Int), vx = .int .i64 x ∧ vi = .int .i64 k ∧ k ≤ en ∧ en - k ≤ g1 ∧ Aside (Below W0.heap.size W0 wr ∧ x = wrap64 ((nn : Int) + sn + F + ew (r.ents.take k))))
 case atStart => exact ⟨0, _, rfl, rfl, Nat.zero_le _, nrQ _, SB.out, S0.out _ rfl⟩
 case round =>
  clear S0 SB
  obtain ⟨k, x, rfl, rfl, hk, hg1, SK⟩ := hrel
  have q9 : wr.cell? ⟨w.heap.size, 9, none⟩ = some (.slice r.ea r.ents.length r.ec) := (HX.out.below SK.out.1).cell (j := 9) rfl
  rw [HE.out] at q9
  by_cases hlt : k < en
  ·have hltz : (k : Int) < (en : Int) := by omega
   have hkl : k < r.ents.length := by rw [HE.out]; exact hlt
   obtain ⟨b, off, ha, hc⟩ := (HR.out.1.ents.keep SK.out.1).get hkl
   rw [ha] at q9
   clear ha
   obtain ⟨r0, r1, r2⟩ := hc k hkl
   have HT : Aside (ew (r.ents.take (k + 1)) = ew (r.ents.take k) + (1 + fw (etn r.ents k).fs)) := ew_take r.ents k hkl
   have hV := heavy_any (etn r.ents k).a (etn r.ents k).fs.length (etn r.ents k).cap (etn r.ents k).fs wr r2.mem rfl r2.len
   obtain ⟨z, hz⟩ : ∃ z, fw (etn r.ents k).fs = z := ⟨_, rfl⟩
   rw [hz] at hV HT
   clear hc r2 hz
   generalize (etn r.ents k).fs.length = t1 at r1 hV
   generalize (etn r.ents k).cap = t2 at r1 hV
   generalize (etn r.ents k).a = t3 at r1 hV
   generalize (etn r.ents k).t = t4 at r0
   go_wp2_with (go_at_call 47; refine hV.mono ?_; rintro e w3 ⟨rfl, hww⟩; have hww2 := hww.symm; clear hww; subst hww2)
   go_roundg (en - (k + 1))
   case measure => omega
   case rel =>
    refine ⟨k + 1, _, rfl, by go_num, by omega, by omega, SK.out.1, ?_⟩
    rw [HT.out]
    have e := SK.out.2
    generalize ew (r.ents.take k) = y at e ⊢
    rw [e, w_r, ← Int.add_assoc, w_r, Int.add_assoc, w_l]
    congr 1
    omega
  ·have hltz : ¬ (k : Int) < (en : Int) := by omega
   have S2 : Aside (x = wrap64 (rw_ r)) := by
    have h := SK.out.2
    rw [List.take_of_length_le (by rw [HE.out]; omega)] at h
    rw [HF.out]; exact h
   go_wp2
   go_ret
   exact ⟨by rw [S2.out]; rfl, HR.out.2.trans (SK.out.1.mono HR.out.2.size)⟩
end code
namespace code

theorem fw_pos (l : List Ft) : 0 ≤ fw l := by
 induction l with
 | nil => simp [fw]
 | cons x l ih => simp only [fw]; omega
theorem ew_pos (l : List Et) : 0 ≤ ew l := by
 induction l with
 | nil => simp [ew]
 | cons x l ih => have := fw_pos x.fs; simp only [ew]; omega
theorem flatF_weight (l : List Ft) : ((l.flatMap (fun f => factB (pf f))).length : Int) ≤ 9 * fw l := by
 induction l with
 | nil => simp [fw]
 | cons x l ih =>
  rw [List.flatMap_cons, laQ, factB_len]
  have e : (pf x).1.length = x.k.length := rfl
  simp only [fw]
  omega
theorem factsB_weight (l : List Ft) : ((factsB (l.map pf)).length : Int) ≤ 4 + 9 * fw l := by
 unfold factsB
 rw [flatF_map, laQ, putI_len]
 have := flatF_weight l
 omega
theorem entsB_weight (l : List Et) : ((entsB (l.map pe)).length : Int) ≤ 4 + 9 * ew l := by
 unfold entsB
 rw [flatE_map, laQ, putI_len]
 suffices h : ((l.flatMap (fun e => entB (pe e))).length : Int) ≤ 9 * ew l by omega
 induction l with
 | nil => simp [ew]
 | cons x l ih =>
  rw [List.flatMap_cons, laQ]
  have e2 : (entB (pe x)).length = 4 + (factsB (x.fs.map pf)).length := by unfold entB; rw [laQ, putI_len]; rfl
  have := factsB_weight x.fs
  simp only [ew]
  omega
theorem fw_few {l : List Ft} (h : factsOk (l.map pf) = true) : fw l ≤ 5 * (l.length : Int) := by
 have h2 : ∀ f ∈ l, f.k.length ≤ 4 := fun f hf => (keyOk_iff.1 ((factsOk_iff.1 h).1 (pf f) (List.mem_map.2 ⟨f, hf, rfl⟩))).2
 clear h
 induction l with
 | nil => simp [fw]
 | cons x l ih =>
  have h3 := h2 x (by simp)
  have h4 := ih fun f hf => h2 f (by simp [hf])
  simp only [fw, List.length_cons]
  omega
theorem fw_ok {l : List Ft} (h : factsOk (l.map pf) = true) : fw l ≤ 1000 := by
 have h1 := fw_few h
 have h2 := (factsOk_iff.1 h).2
 rw [List.length_map] at h2
 omega
theorem ew_ok {l : List Et} (h : entsOk (l.map pe) = true) : ew l ≤ 5005000 := by
 have h2 : ∀ e ∈ l, fw e.fs ≤ 1000 := fun e he => fw_ok ((entsOk_iff h).1 (pe e) (List.mem_map.2 ⟨e, he, rfl⟩))
 have h3 : ew l ≤ 1001 * (l.length : Int) := by
  clear h
  induction l with
  | nil => simp [ew]
  | cons x l ih =>
   have h3 := h2 x (by simp)
   have h4 := ih fun f hf => h2 f (by simp [hf])
   simp only [ew, List.length_cons]
   omega
 have h4 := (entsOk_iff h).2
 rw [List.length_map] at h4
 omega
theorem snd_parts (r : Rc) (h : sndRec (pr r) = true) : r.nodes.length ≤ 6 ∧ r.spans.length ≤ 40 ∧ factsOk (r.facts.map pf) = true ∧ entsOk (r.ents.map pe) = true := by
 by_cases hk : 1 ≤ r.kind ∧ r.kind ≤ 7
 rotate_left
 ·have : sndRec (pr r) = false := by
   dsimp only [sndRec, pr]
   rw [if_neg (by omega), if_neg (by omega), if_neg (by omega), if_neg (by omega), if_neg (by omega)]
  rw [this] at h; cases h
 rw [snd_code r hk] at h
 simp only [Bool.and_eq_true] at h
 exact ⟨nodesOk_few h.2.1, (spansOk_iff.1 h.2.2.2.1).2, h.2.2.1, h.2.2.2.2.1⟩
theorem snd_weight (r : Rc) (h : sndRec (pr r) = true) : 0 ≤ rw_ r ∧ rw_ r ≤ 6000000 := by
 obtain ⟨h1, h2, h3, h4⟩ := snd_parts r h
 have a1 := fw_ok h3
 have a2 := ew_ok h4
 have a3 := fw_pos r.facts
 have a4 := ew_pos r.ents
 unfold rw_
 omega
theorem rec_weight (r : Rc) : ((recB (pr r)).length : Int) ≤ 40 + 9 * rw_ r := by
 have a1 := factsB_weight r.facts
 have a2 := entsB_weight r.ents
 have a3 := fw_pos r.facts
 have a4 := ew_pos r.ents
 have a5 := nodesB_len r.nodes
 have a6 := spansB_len r.spans
 have e1 : (pr r).nodes = r.nodes := rfl
 have e2 : (pr r).facts = r.facts.map pf := rfl
 have e3 : (pr r).spans = r.spans := rfl
 have e4 : (pr r).ents = r.ents.map pe := rfl
 unfold recB bodyB rw_
 rw [laQ, laQ, putI_len, putI_len, e1, e2, e3, e4]
 split
 ·rw [laQ]; omega
 split
 ·rw [laQ, putI_len]; omega
 split
 ·unfold mapB
  rw [laQ, laQ, putI_len, putI_len]; omega
 split
 ·rw [laQ, laQ, putI_len, putI_len]; omega
 ·simp only [List.length_nil]; omega
theorem snd_small (r : Rc) (h : sndRec (pr r) = true) : (recB (pr r)).length ≤ 100000000 := by
 have h1 := snd_weight r h
 have h2 := rec_weight r
 omega
theorem snd_ents (r : Rc) (h : sndRec (pr r) = true) : ∀ e ∈ r.ents, e.fs.length ≤ 100000000 := fun e he => by
 have h1 := (factsOk_iff.1 ((entsOk_iff (snd_parts r h).2.2.2).1 (pe e) (List.mem_map.2 ⟨e, he, rfl⟩))).2
 have e2 : (pe e).2 = e.fs.map pf := rfl
 rw [e2, List.length_map] at h1
 omega
end code
end Go.Proofs.YtlcjllgfpfldlaaGreat
