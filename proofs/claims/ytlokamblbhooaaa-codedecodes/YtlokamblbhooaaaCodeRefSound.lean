/-
  The chapter's Sound.
-/
import Derived.Test.YtlokamblbhooaaaCodeRefSnd
import Derived.Test.YtlokamblbhooaaaCodeRefBare
import Derived.Test.YtlokamblbhooaaaCodeEnc
namespace Go.Proofs.Ytlokamblbhooaaa.code
open Go.ChangeShapes Go.WideShapes Go.ChangeAt Go.RowKit Go.Deep
open Go.Proofs.Ytlokamblbhooaaa.dims (nth Ints cell_lt vals vals_len vals_get vals_one vals_app own_below own_mono own_out own_apart RowOut ret_bool ret_int)
set_option linter.unusedVariables false
set_option maxRecDepth 100000
set_option linter.unusedSimpArgs false

def bareR_ (r : Rc) (l : List UInt8) : Bool := bareB r.id r.at_ r.nodes.length r.facts.length r.epoch r.spans.length r.frm r.til r.ents.length l

theorem snd_ref1 (r : Rc) (hk : r.kind = 1) : sndRec (pr r) = (bareR_ r [73, 78, 70] && (nodesOk r.nodes && (factsOk (r.facts.map pf)))) := by
  unfold bareR_ bareB
  rw [show hasT [73, 78, 70] ([73, 78, 70] : List UInt8).length 73 = true from rfl]
  rw [show hasT [73, 78, 70] ([73, 78, 70] : List UInt8).length 65 = false from rfl]
  rw [show hasT [73, 78, 70] ([73, 78, 70] : List UInt8).length 78 = true from rfl]
  rw [show hasT [73, 78, 70] ([73, 78, 70] : List UInt8).length 70 = true from rfl]
  rw [show hasT [73, 78, 70] ([73, 78, 70] : List UInt8).length 77 = false from rfl]
  rw [show hasT [73, 78, 70] ([73, 78, 70] : List UInt8).length 82 = false from rfl]
  rw [Bool.eq_iff_iff]
  simp only [sndRec, pr, hk, bareI, bareA, bareN, bareF, bareM, bareR, Bool.and_eq_true, Bool.or_eq_true, decide_eq_true_eq, List.length_map, reduceCtorEq, if_true, if_false, true_or, or_true, or_false, false_or, Int.reduceEq, or_self, true_and, and_true, Bool.false_eq_true]
  try (constructor <;> intro hh <;> simp_all)

theorem snd_ref2 (r : Rc) (hk : r.kind = 2) : sndRec (pr r) = (bareR_ r [73, 65, 78] && (nodesOk r.nodes)) := by
  unfold bareR_ bareB
  rw [show hasT [73, 65, 78] ([73, 65, 78] : List UInt8).length 73 = true from rfl]
  rw [show hasT [73, 65, 78] ([73, 65, 78] : List UInt8).length 65 = true from rfl]
  rw [show hasT [73, 65, 78] ([73, 65, 78] : List UInt8).length 78 = true from rfl]
  rw [show hasT [73, 65, 78] ([73, 65, 78] : List UInt8).length 70 = false from rfl]
  rw [show hasT [73, 65, 78] ([73, 65, 78] : List UInt8).length 77 = false from rfl]
  rw [show hasT [73, 65, 78] ([73, 65, 78] : List UInt8).length 82 = false from rfl]
  rw [Bool.eq_iff_iff]
  simp only [sndRec, pr, hk, bareI, bareA, bareN, bareF, bareM, bareR, Bool.and_eq_true, Bool.or_eq_true, decide_eq_true_eq, List.length_map, reduceCtorEq, if_true, if_false, true_or, or_true, or_false, false_or, Int.reduceEq, or_self, true_and, and_true, Bool.false_eq_true]
  try (constructor <;> intro hh <;> simp_all)

theorem snd_ref3 (r : Rc) (hk : r.kind = 3) : sndRec (pr r) = (bareR_ r [73]) := by
  unfold bareR_ bareB
  rw [show hasT [73] ([73] : List UInt8).length 73 = true from rfl]
  rw [show hasT [73] ([73] : List UInt8).length 65 = false from rfl]
  rw [show hasT [73] ([73] : List UInt8).length 78 = false from rfl]
  rw [show hasT [73] ([73] : List UInt8).length 70 = false from rfl]
  rw [show hasT [73] ([73] : List UInt8).length 77 = false from rfl]
  rw [show hasT [73] ([73] : List UInt8).length 82 = false from rfl]
  rw [Bool.eq_iff_iff]
  simp only [sndRec, pr, hk, bareI, bareA, bareN, bareF, bareM, bareR, Bool.and_eq_true, Bool.or_eq_true, decide_eq_true_eq, List.length_map, reduceCtorEq, if_true, if_false, true_or, or_true, or_false, false_or, Int.reduceEq, or_self, true_and, and_true, Bool.false_eq_true]
  try (constructor <;> intro hh <;> simp_all)

theorem snd_ref4 (r : Rc) (hk : r.kind = 4) : sndRec (pr r) = (bareR_ r [73]) := by
  unfold bareR_ bareB
  rw [show hasT [73] ([73] : List UInt8).length 73 = true from rfl]
  rw [show hasT [73] ([73] : List UInt8).length 65 = false from rfl]
  rw [show hasT [73] ([73] : List UInt8).length 78 = false from rfl]
  rw [show hasT [73] ([73] : List UInt8).length 70 = false from rfl]
  rw [show hasT [73] ([73] : List UInt8).length 77 = false from rfl]
  rw [show hasT [73] ([73] : List UInt8).length 82 = false from rfl]
  rw [Bool.eq_iff_iff]
  simp only [sndRec, pr, hk, bareI, bareA, bareN, bareF, bareM, bareR, Bool.and_eq_true, Bool.or_eq_true, decide_eq_true_eq, List.length_map, reduceCtorEq, if_true, if_false, true_or, or_true, or_false, false_or, Int.reduceEq, or_self, true_and, and_true, Bool.false_eq_true]
  try (constructor <;> intro hh <;> simp_all)

theorem snd_ref5 (r : Rc) (hk : r.kind = 5) : sndRec (pr r) = (bareR_ r [73]) := by
  unfold bareR_ bareB
  rw [show hasT [73] ([73] : List UInt8).length 73 = true from rfl]
  rw [show hasT [73] ([73] : List UInt8).length 65 = false from rfl]
  rw [show hasT [73] ([73] : List UInt8).length 78 = false from rfl]
  rw [show hasT [73] ([73] : List UInt8).length 70 = false from rfl]
  rw [show hasT [73] ([73] : List UInt8).length 77 = false from rfl]
  rw [show hasT [73] ([73] : List UInt8).length 82 = false from rfl]
  rw [Bool.eq_iff_iff]
  simp only [sndRec, pr, hk, bareI, bareA, bareN, bareF, bareM, bareR, Bool.and_eq_true, Bool.or_eq_true, decide_eq_true_eq, List.length_map, reduceCtorEq, if_true, if_false, true_or, or_true, or_false, false_or, Int.reduceEq, or_self, true_and, and_true, Bool.false_eq_true]
  try (constructor <;> intro hh <;> simp_all)

theorem snd_ref6 (r : Rc) (hk : r.kind = 6) : sndRec (pr r) = (bareR_ r [77] && (spansOk r.spans)) := by
  unfold bareR_ bareB
  rw [show hasT [77] ([77] : List UInt8).length 73 = false from rfl]
  rw [show hasT [77] ([77] : List UInt8).length 65 = false from rfl]
  rw [show hasT [77] ([77] : List UInt8).length 78 = false from rfl]
  rw [show hasT [77] ([77] : List UInt8).length 70 = false from rfl]
  rw [show hasT [77] ([77] : List UInt8).length 77 = true from rfl]
  rw [show hasT [77] ([77] : List UInt8).length 82 = false from rfl]
  rw [Bool.eq_iff_iff]
  simp only [sndRec, pr, hk, bareI, bareA, bareN, bareF, bareM, bareR, Bool.and_eq_true, Bool.or_eq_true, decide_eq_true_eq, List.length_map, reduceCtorEq, if_true, if_false, true_or, or_true, or_false, false_or, Int.reduceEq, or_self, true_and, and_true, Bool.false_eq_true]
  try (constructor <;> intro hh <;> simp_all)

theorem snd_ref7 (r : Rc) (hk : r.kind = 7) : sndRec (pr r) = (bareR_ r [73, 82] && (entsOk (r.ents.map pe) && (decide (0 ≤ r.frm ∧ r.frm ≤ 10000) && (decide (0 ≤ r.til ∧ r.til ≤ 10000))))) := by
  unfold bareR_ bareB
  rw [show hasT [73, 82] ([73, 82] : List UInt8).length 73 = true from rfl]
  rw [show hasT [73, 82] ([73, 82] : List UInt8).length 65 = false from rfl]
  rw [show hasT [73, 82] ([73, 82] : List UInt8).length 78 = false from rfl]
  rw [show hasT [73, 82] ([73, 82] : List UInt8).length 70 = false from rfl]
  rw [show hasT [73, 82] ([73, 82] : List UInt8).length 77 = false from rfl]
  rw [show hasT [73, 82] ([73, 82] : List UInt8).length 82 = true from rfl]
  rw [Bool.eq_iff_iff]
  simp only [sndRec, pr, hk, bareI, bareA, bareN, bareF, bareM, bareR, Bool.and_eq_true, Bool.or_eq_true, decide_eq_true_eq, List.length_map, reduceCtorEq, if_true, if_false, true_or, or_true, or_false, false_or, Int.reduceEq, or_self, true_and, and_true, Bool.false_eq_true]
  try (constructor <;> intro hh <;> simp_all)

set_option maxHeartbeats 16000000 in
theorem refSound_1 (w : World) (r : Rc) (hR : RecIn w r) (hk : r.kind = 1) : Calls Try.prog 14 #[rcV r] w fun e w' => e = .returned (.bool (sndRec (pr r))) ∧ Below w.heap.size w w' := by
  obtain ⟨t0, ht0⟩ : ∃ t, (bareR_ r [73, 78, 70]) = t := ⟨_, rfl⟩
  obtain ⟨t1, ht1⟩ : ∃ t, (nodesOk r.nodes) = t := ⟨_, rfl⟩
  obtain ⟨t2, ht2⟩ : ∃ t, (factsOk (r.facts.map pf)) = t := ⟨_, rfl⟩
  have E : Hid (sndRec (pr r) = (t0 && (t1 && (t2)))) := by show _ = _; rw [snd_ref1 r hk, ht0, ht1, ht2]
  have hB : Below w.heap.size w (w.alloc (.cells #[.int .u8 1, .int .u32 r.id, .int .u32 r.at_, .slice r.na r.nodes.length r.nc, .slice r.fa r.facts.length r.fc, .int .u32 r.epoch, .slice r.sa r.spans.length r.sc, .int .i64 r.frm, .int .i64 r.til, .slice r.ea r.ents.length r.ec] 30)) := (Below.refl _ _).alloc (Nat.le_refl _) _
  have hx := Boxed.new w #[.int .u8 1, .int .u32 r.id, .int .u32 r.at_, .slice r.na r.nodes.length r.nc, .slice r.fa r.facts.length r.fc, .int .u32 r.epoch, .slice r.sa r.spans.length r.sc, .int .i64 r.frm, .int .i64 r.til, .slice r.ea r.ents.length r.ec] 30
  have hR0 := hR.keep hB
  have hC1 := bare_val 1 r.id r.at_ r.epoch r.frm r.til r.na r.fa r.sa r.ea r.nodes.length r.nc r.facts.length r.fc r.spans.length r.sc r.ents.length r.ec [73, 78, 70] 3 rfl (by omega) (w.alloc (.cells #[.int .u8 1, .int .u32 r.id, .int .u32 r.at_, .slice r.na r.nodes.length r.nc, .slice r.fa r.facts.length r.fc, .int .u32 r.epoch, .slice r.sa r.spans.length r.sc, .int .i64 r.frm, .int .i64 r.til, .slice r.ea r.ents.length r.ec] 30))
  have e0 : bareB r.id r.at_ r.nodes.length r.facts.length r.epoch r.spans.length r.frm r.til r.ents.length [73, 78, 70] = t0 := ht0
  rw [e0] at hC1
  generalize hW0 : w.alloc (.cells #[.int .u8 1, .int .u32 r.id, .int .u32 r.at_, .slice r.na r.nodes.length r.nc, .slice r.fa r.facts.length r.fc, .int .u32 r.epoch, .slice r.sa r.spans.length r.sc, .int .i64 r.frm, .int .i64 r.til, .slice r.ea r.ents.length r.ec] 30) = W0 at hB hR0 hC1 hx
  have HW : Hid (w.alloc (.cells #[.int .u8 1, .int .u32 r.id, .int .u32 r.at_, .slice r.na r.nodes.length r.nc, .slice r.fa r.facts.length r.fc, .int .u32 r.epoch, .slice r.sa r.spans.length r.sc, .int .i64 r.frm, .int .i64 r.til, .slice r.ea r.ents.length r.ec] 30) = W0) := hW0
  have HR : Aside (RecIn W0 r) := hR0
  have H0 : Aside (Below w.heap.size w W0 ∧ Boxed W0 w.heap.size #[.int .u8 1, .int .u32 r.id, .int .u32 r.at_, .slice r.na r.nodes.length r.nc, .slice r.fa r.facts.length r.fc, .int .u32 r.epoch, .slice r.sa r.spans.length r.sc, .int .i64 r.frm, .int .i64 r.til, .slice r.ea r.ents.length r.ec] 30) := ⟨hB, hx⟩
  show Calls _ _ #[.agg #[.int .u8 r.kind, .int .u32 r.id, .int .u32 r.at_, .slice r.na r.nodes.length r.nc, .slice r.fa r.facts.length r.fc, .int .u32 r.epoch, .slice r.sa r.spans.length r.sc, .int .i64 r.frm, .int .i64 r.til, .slice r.ea r.ents.length r.ec]] _ _
  rw [hk]
  clear hR hR0 hB hx hW0 hk e0
  go_enter Try.func14, Try.ntmps14
  go_wp2_with fail
  rw [HW.out]
  refine hC1.mono ?_
  rintro e w1 ⟨rfl, b1⟩
  clear hC1
  cases t0 with
  | false =>
    go_wp2
    go_ret
    exact ⟨ret_bool (by rw [show _ = _ from E.out]; simp), H0.out.1.trans (b1.mono H0.out.1.size)⟩
  | true =>
    have q1 := (H0.out.2.below b1).cell (j := 3) rfl
    have hC2 := refSoundNodes_any r.na r.nodes.length r.nc r.nodes w1 (HR.out.nodes.keep b1) rfl HR.out.nlen
    rw [ht1] at hC2
    go_wp2_with (go_at_call 33; refine hC2.mono ?_; rintro e w2 ⟨rfl, g2⟩; refine Hid.out ?_)
    refine hid ?_
    have b2 := b1.trans (g2.mono b1.size)
    clear hC2 g2 q1
    cases t1 with
    | false =>
      go_wp2
      go_ret
      exact ⟨ret_bool (by rw [show _ = _ from E.out]; simp), H0.out.1.trans (b2.mono H0.out.1.size)⟩
    | true =>
      have q2 := (H0.out.2.below b2).cell (j := 4) rfl
      have hC3 := refSoundFacts_any r.fa r.facts.length r.fc r.facts w2 (HR.out.facts.keep b2) rfl HR.out.flen
      rw [ht2] at hC3
      go_wp2_with (go_at_call 34; refine hC3.mono ?_; rintro e w3 ⟨rfl, hww⟩; have hww2 := hww.symm; clear hww; subst hww2; refine Hid.out ?_)
      refine hid ?_
      clear hC3 q2
      cases t2 with
      | false =>
        go_wp2
        go_ret
        exact ⟨ret_bool (by rw [show _ = _ from E.out]; simp), H0.out.1.trans (b2.mono H0.out.1.size)⟩
      | true =>
        go_wp2
        go_ret
        exact ⟨ret_bool (by rw [show _ = _ from E.out]; simp), H0.out.1.trans (b2.mono H0.out.1.size)⟩

set_option maxHeartbeats 16000000 in
theorem refSound_2 (w : World) (r : Rc) (hR : RecIn w r) (hk : r.kind = 2) : Calls Try.prog 14 #[rcV r] w fun e w' => e = .returned (.bool (sndRec (pr r))) ∧ Below w.heap.size w w' := by
  obtain ⟨t0, ht0⟩ : ∃ t, (bareR_ r [73, 65, 78]) = t := ⟨_, rfl⟩
  obtain ⟨t1, ht1⟩ : ∃ t, (nodesOk r.nodes) = t := ⟨_, rfl⟩
  have E : Hid (sndRec (pr r) = (t0 && (t1))) := by show _ = _; rw [snd_ref2 r hk, ht0, ht1]
  have hB : Below w.heap.size w (w.alloc (.cells #[.int .u8 2, .int .u32 r.id, .int .u32 r.at_, .slice r.na r.nodes.length r.nc, .slice r.fa r.facts.length r.fc, .int .u32 r.epoch, .slice r.sa r.spans.length r.sc, .int .i64 r.frm, .int .i64 r.til, .slice r.ea r.ents.length r.ec] 30)) := (Below.refl _ _).alloc (Nat.le_refl _) _
  have hx := Boxed.new w #[.int .u8 2, .int .u32 r.id, .int .u32 r.at_, .slice r.na r.nodes.length r.nc, .slice r.fa r.facts.length r.fc, .int .u32 r.epoch, .slice r.sa r.spans.length r.sc, .int .i64 r.frm, .int .i64 r.til, .slice r.ea r.ents.length r.ec] 30
  have hR0 := hR.keep hB
  have hC1 := bare_val 2 r.id r.at_ r.epoch r.frm r.til r.na r.fa r.sa r.ea r.nodes.length r.nc r.facts.length r.fc r.spans.length r.sc r.ents.length r.ec [73, 65, 78] 3 rfl (by omega) (w.alloc (.cells #[.int .u8 2, .int .u32 r.id, .int .u32 r.at_, .slice r.na r.nodes.length r.nc, .slice r.fa r.facts.length r.fc, .int .u32 r.epoch, .slice r.sa r.spans.length r.sc, .int .i64 r.frm, .int .i64 r.til, .slice r.ea r.ents.length r.ec] 30))
  have e0 : bareB r.id r.at_ r.nodes.length r.facts.length r.epoch r.spans.length r.frm r.til r.ents.length [73, 65, 78] = t0 := ht0
  rw [e0] at hC1
  generalize hW0 : w.alloc (.cells #[.int .u8 2, .int .u32 r.id, .int .u32 r.at_, .slice r.na r.nodes.length r.nc, .slice r.fa r.facts.length r.fc, .int .u32 r.epoch, .slice r.sa r.spans.length r.sc, .int .i64 r.frm, .int .i64 r.til, .slice r.ea r.ents.length r.ec] 30) = W0 at hB hR0 hC1 hx
  have HW : Hid (w.alloc (.cells #[.int .u8 2, .int .u32 r.id, .int .u32 r.at_, .slice r.na r.nodes.length r.nc, .slice r.fa r.facts.length r.fc, .int .u32 r.epoch, .slice r.sa r.spans.length r.sc, .int .i64 r.frm, .int .i64 r.til, .slice r.ea r.ents.length r.ec] 30) = W0) := hW0
  have HR : Aside (RecIn W0 r) := hR0
  have H0 : Aside (Below w.heap.size w W0 ∧ Boxed W0 w.heap.size #[.int .u8 2, .int .u32 r.id, .int .u32 r.at_, .slice r.na r.nodes.length r.nc, .slice r.fa r.facts.length r.fc, .int .u32 r.epoch, .slice r.sa r.spans.length r.sc, .int .i64 r.frm, .int .i64 r.til, .slice r.ea r.ents.length r.ec] 30) := ⟨hB, hx⟩
  show Calls _ _ #[.agg #[.int .u8 r.kind, .int .u32 r.id, .int .u32 r.at_, .slice r.na r.nodes.length r.nc, .slice r.fa r.facts.length r.fc, .int .u32 r.epoch, .slice r.sa r.spans.length r.sc, .int .i64 r.frm, .int .i64 r.til, .slice r.ea r.ents.length r.ec]] _ _
  rw [hk]
  clear hR hR0 hB hx hW0 hk e0
  go_enter Try.func14, Try.ntmps14
  go_wp2_with fail
  rw [HW.out]
  refine hC1.mono ?_
  rintro e w1 ⟨rfl, b1⟩
  clear hC1
  cases t0 with
  | false =>
    go_wp2
    go_ret
    exact ⟨ret_bool (by rw [show _ = _ from E.out]; simp), H0.out.1.trans (b1.mono H0.out.1.size)⟩
  | true =>
    have q1 := (H0.out.2.below b1).cell (j := 3) rfl
    have hC2 := refSoundNodes_any r.na r.nodes.length r.nc r.nodes w1 (HR.out.nodes.keep b1) rfl HR.out.nlen
    rw [ht1] at hC2
    go_wp2_with (go_at_call 33; refine hC2.mono ?_; rintro e w2 ⟨rfl, g2⟩; refine Hid.out ?_)
    refine hid ?_
    have b2 := b1.trans (g2.mono b1.size)
    clear hC2 g2 q1
    cases t1 with
    | false =>
      go_wp2
      go_ret
      exact ⟨ret_bool (by rw [show _ = _ from E.out]; simp), H0.out.1.trans (b2.mono H0.out.1.size)⟩
    | true =>
      go_wp2
      go_ret
      exact ⟨ret_bool (by rw [show _ = _ from E.out]; simp), H0.out.1.trans (b2.mono H0.out.1.size)⟩

set_option maxHeartbeats 16000000 in
theorem refSound_3 (w : World) (r : Rc) (hR : RecIn w r) (hk : r.kind = 3) : Calls Try.prog 14 #[rcV r] w fun e w' => e = .returned (.bool (sndRec (pr r))) ∧ Below w.heap.size w w' := by
  obtain ⟨t0, ht0⟩ : ∃ t, (bareR_ r [73]) = t := ⟨_, rfl⟩
  have E : Hid (sndRec (pr r) = (t0)) := by show _ = _; rw [snd_ref3 r hk, ht0]
  have hB : Below w.heap.size w (w.alloc (.cells #[.int .u8 3, .int .u32 r.id, .int .u32 r.at_, .slice r.na r.nodes.length r.nc, .slice r.fa r.facts.length r.fc, .int .u32 r.epoch, .slice r.sa r.spans.length r.sc, .int .i64 r.frm, .int .i64 r.til, .slice r.ea r.ents.length r.ec] 30)) := (Below.refl _ _).alloc (Nat.le_refl _) _
  have hx := Boxed.new w #[.int .u8 3, .int .u32 r.id, .int .u32 r.at_, .slice r.na r.nodes.length r.nc, .slice r.fa r.facts.length r.fc, .int .u32 r.epoch, .slice r.sa r.spans.length r.sc, .int .i64 r.frm, .int .i64 r.til, .slice r.ea r.ents.length r.ec] 30
  have hR0 := hR.keep hB
  have hC1 := bare_val 3 r.id r.at_ r.epoch r.frm r.til r.na r.fa r.sa r.ea r.nodes.length r.nc r.facts.length r.fc r.spans.length r.sc r.ents.length r.ec [73] 1 rfl (by omega) (w.alloc (.cells #[.int .u8 3, .int .u32 r.id, .int .u32 r.at_, .slice r.na r.nodes.length r.nc, .slice r.fa r.facts.length r.fc, .int .u32 r.epoch, .slice r.sa r.spans.length r.sc, .int .i64 r.frm, .int .i64 r.til, .slice r.ea r.ents.length r.ec] 30))
  have e0 : bareB r.id r.at_ r.nodes.length r.facts.length r.epoch r.spans.length r.frm r.til r.ents.length [73] = t0 := ht0
  rw [e0] at hC1
  generalize hW0 : w.alloc (.cells #[.int .u8 3, .int .u32 r.id, .int .u32 r.at_, .slice r.na r.nodes.length r.nc, .slice r.fa r.facts.length r.fc, .int .u32 r.epoch, .slice r.sa r.spans.length r.sc, .int .i64 r.frm, .int .i64 r.til, .slice r.ea r.ents.length r.ec] 30) = W0 at hB hR0 hC1 hx
  have HW : Hid (w.alloc (.cells #[.int .u8 3, .int .u32 r.id, .int .u32 r.at_, .slice r.na r.nodes.length r.nc, .slice r.fa r.facts.length r.fc, .int .u32 r.epoch, .slice r.sa r.spans.length r.sc, .int .i64 r.frm, .int .i64 r.til, .slice r.ea r.ents.length r.ec] 30) = W0) := hW0
  have HR : Aside (RecIn W0 r) := hR0
  have H0 : Aside (Below w.heap.size w W0 ∧ Boxed W0 w.heap.size #[.int .u8 3, .int .u32 r.id, .int .u32 r.at_, .slice r.na r.nodes.length r.nc, .slice r.fa r.facts.length r.fc, .int .u32 r.epoch, .slice r.sa r.spans.length r.sc, .int .i64 r.frm, .int .i64 r.til, .slice r.ea r.ents.length r.ec] 30) := ⟨hB, hx⟩
  show Calls _ _ #[.agg #[.int .u8 r.kind, .int .u32 r.id, .int .u32 r.at_, .slice r.na r.nodes.length r.nc, .slice r.fa r.facts.length r.fc, .int .u32 r.epoch, .slice r.sa r.spans.length r.sc, .int .i64 r.frm, .int .i64 r.til, .slice r.ea r.ents.length r.ec]] _ _
  rw [hk]
  clear hR hR0 hB hx hW0 hk e0
  go_enter Try.func14, Try.ntmps14
  go_wp2_with fail
  rw [HW.out]
  refine hC1.mono ?_
  rintro e w1 ⟨rfl, b1⟩
  clear hC1
  go_wp2
  go_ret
  exact ⟨ret_bool (by rw [show _ = _ from E.out]), H0.out.1.trans (b1.mono H0.out.1.size)⟩

set_option maxHeartbeats 16000000 in
theorem refSound_4 (w : World) (r : Rc) (hR : RecIn w r) (hk : r.kind = 4) : Calls Try.prog 14 #[rcV r] w fun e w' => e = .returned (.bool (sndRec (pr r))) ∧ Below w.heap.size w w' := by
  obtain ⟨t0, ht0⟩ : ∃ t, (bareR_ r [73]) = t := ⟨_, rfl⟩
  have E : Hid (sndRec (pr r) = (t0)) := by show _ = _; rw [snd_ref4 r hk, ht0]
  have hB : Below w.heap.size w (w.alloc (.cells #[.int .u8 4, .int .u32 r.id, .int .u32 r.at_, .slice r.na r.nodes.length r.nc, .slice r.fa r.facts.length r.fc, .int .u32 r.epoch, .slice r.sa r.spans.length r.sc, .int .i64 r.frm, .int .i64 r.til, .slice r.ea r.ents.length r.ec] 30)) := (Below.refl _ _).alloc (Nat.le_refl _) _
  have hx := Boxed.new w #[.int .u8 4, .int .u32 r.id, .int .u32 r.at_, .slice r.na r.nodes.length r.nc, .slice r.fa r.facts.length r.fc, .int .u32 r.epoch, .slice r.sa r.spans.length r.sc, .int .i64 r.frm, .int .i64 r.til, .slice r.ea r.ents.length r.ec] 30
  have hR0 := hR.keep hB
  have hC1 := bare_val 4 r.id r.at_ r.epoch r.frm r.til r.na r.fa r.sa r.ea r.nodes.length r.nc r.facts.length r.fc r.spans.length r.sc r.ents.length r.ec [73] 1 rfl (by omega) (w.alloc (.cells #[.int .u8 4, .int .u32 r.id, .int .u32 r.at_, .slice r.na r.nodes.length r.nc, .slice r.fa r.facts.length r.fc, .int .u32 r.epoch, .slice r.sa r.spans.length r.sc, .int .i64 r.frm, .int .i64 r.til, .slice r.ea r.ents.length r.ec] 30))
  have e0 : bareB r.id r.at_ r.nodes.length r.facts.length r.epoch r.spans.length r.frm r.til r.ents.length [73] = t0 := ht0
  rw [e0] at hC1
  generalize hW0 : w.alloc (.cells #[.int .u8 4, .int .u32 r.id, .int .u32 r.at_, .slice r.na r.nodes.length r.nc, .slice r.fa r.facts.length r.fc, .int .u32 r.epoch, .slice r.sa r.spans.length r.sc, .int .i64 r.frm, .int .i64 r.til, .slice r.ea r.ents.length r.ec] 30) = W0 at hB hR0 hC1 hx
  have HW : Hid (w.alloc (.cells #[.int .u8 4, .int .u32 r.id, .int .u32 r.at_, .slice r.na r.nodes.length r.nc, .slice r.fa r.facts.length r.fc, .int .u32 r.epoch, .slice r.sa r.spans.length r.sc, .int .i64 r.frm, .int .i64 r.til, .slice r.ea r.ents.length r.ec] 30) = W0) := hW0
  have HR : Aside (RecIn W0 r) := hR0
  have H0 : Aside (Below w.heap.size w W0 ∧ Boxed W0 w.heap.size #[.int .u8 4, .int .u32 r.id, .int .u32 r.at_, .slice r.na r.nodes.length r.nc, .slice r.fa r.facts.length r.fc, .int .u32 r.epoch, .slice r.sa r.spans.length r.sc, .int .i64 r.frm, .int .i64 r.til, .slice r.ea r.ents.length r.ec] 30) := ⟨hB, hx⟩
  show Calls _ _ #[.agg #[.int .u8 r.kind, .int .u32 r.id, .int .u32 r.at_, .slice r.na r.nodes.length r.nc, .slice r.fa r.facts.length r.fc, .int .u32 r.epoch, .slice r.sa r.spans.length r.sc, .int .i64 r.frm, .int .i64 r.til, .slice r.ea r.ents.length r.ec]] _ _
  rw [hk]
  clear hR hR0 hB hx hW0 hk e0
  go_enter Try.func14, Try.ntmps14
  go_wp2_with fail
  rw [HW.out]
  refine hC1.mono ?_
  rintro e w1 ⟨rfl, b1⟩
  clear hC1
  go_wp2
  go_ret
  exact ⟨ret_bool (by rw [show _ = _ from E.out]), H0.out.1.trans (b1.mono H0.out.1.size)⟩

set_option maxHeartbeats 16000000 in
theorem refSound_5 (w : World) (r : Rc) (hR : RecIn w r) (hk : r.kind = 5) : Calls Try.prog 14 #[rcV r] w fun e w' => e = .returned (.bool (sndRec (pr r))) ∧ Below w.heap.size w w' := by
  obtain ⟨t0, ht0⟩ : ∃ t, (bareR_ r [73]) = t := ⟨_, rfl⟩
  have E : Hid (sndRec (pr r) = (t0)) := by show _ = _; rw [snd_ref5 r hk, ht0]
  have hB : Below w.heap.size w (w.alloc (.cells #[.int .u8 5, .int .u32 r.id, .int .u32 r.at_, .slice r.na r.nodes.length r.nc, .slice r.fa r.facts.length r.fc, .int .u32 r.epoch, .slice r.sa r.spans.length r.sc, .int .i64 r.frm, .int .i64 r.til, .slice r.ea r.ents.length r.ec] 30)) := (Below.refl _ _).alloc (Nat.le_refl _) _
  have hx := Boxed.new w #[.int .u8 5, .int .u32 r.id, .int .u32 r.at_, .slice r.na r.nodes.length r.nc, .slice r.fa r.facts.length r.fc, .int .u32 r.epoch, .slice r.sa r.spans.length r.sc, .int .i64 r.frm, .int .i64 r.til, .slice r.ea r.ents.length r.ec] 30
  have hR0 := hR.keep hB
  have hC1 := bare_val 5 r.id r.at_ r.epoch r.frm r.til r.na r.fa r.sa r.ea r.nodes.length r.nc r.facts.length r.fc r.spans.length r.sc r.ents.length r.ec [73] 1 rfl (by omega) (w.alloc (.cells #[.int .u8 5, .int .u32 r.id, .int .u32 r.at_, .slice r.na r.nodes.length r.nc, .slice r.fa r.facts.length r.fc, .int .u32 r.epoch, .slice r.sa r.spans.length r.sc, .int .i64 r.frm, .int .i64 r.til, .slice r.ea r.ents.length r.ec] 30))
  have e0 : bareB r.id r.at_ r.nodes.length r.facts.length r.epoch r.spans.length r.frm r.til r.ents.length [73] = t0 := ht0
  rw [e0] at hC1
  generalize hW0 : w.alloc (.cells #[.int .u8 5, .int .u32 r.id, .int .u32 r.at_, .slice r.na r.nodes.length r.nc, .slice r.fa r.facts.length r.fc, .int .u32 r.epoch, .slice r.sa r.spans.length r.sc, .int .i64 r.frm, .int .i64 r.til, .slice r.ea r.ents.length r.ec] 30) = W0 at hB hR0 hC1 hx
  have HW : Hid (w.alloc (.cells #[.int .u8 5, .int .u32 r.id, .int .u32 r.at_, .slice r.na r.nodes.length r.nc, .slice r.fa r.facts.length r.fc, .int .u32 r.epoch, .slice r.sa r.spans.length r.sc, .int .i64 r.frm, .int .i64 r.til, .slice r.ea r.ents.length r.ec] 30) = W0) := hW0
  have HR : Aside (RecIn W0 r) := hR0
  have H0 : Aside (Below w.heap.size w W0 ∧ Boxed W0 w.heap.size #[.int .u8 5, .int .u32 r.id, .int .u32 r.at_, .slice r.na r.nodes.length r.nc, .slice r.fa r.facts.length r.fc, .int .u32 r.epoch, .slice r.sa r.spans.length r.sc, .int .i64 r.frm, .int .i64 r.til, .slice r.ea r.ents.length r.ec] 30) := ⟨hB, hx⟩
  show Calls _ _ #[.agg #[.int .u8 r.kind, .int .u32 r.id, .int .u32 r.at_, .slice r.na r.nodes.length r.nc, .slice r.fa r.facts.length r.fc, .int .u32 r.epoch, .slice r.sa r.spans.length r.sc, .int .i64 r.frm, .int .i64 r.til, .slice r.ea r.ents.length r.ec]] _ _
  rw [hk]
  clear hR hR0 hB hx hW0 hk e0
  go_enter Try.func14, Try.ntmps14
  go_wp2_with fail
  rw [HW.out]
  refine hC1.mono ?_
  rintro e w1 ⟨rfl, b1⟩
  clear hC1
  go_wp2
  go_ret
  exact ⟨ret_bool (by rw [show _ = _ from E.out]), H0.out.1.trans (b1.mono H0.out.1.size)⟩

set_option maxHeartbeats 16000000 in
theorem refSound_6 (w : World) (r : Rc) (hR : RecIn w r) (hk : r.kind = 6) : Calls Try.prog 14 #[rcV r] w fun e w' => e = .returned (.bool (sndRec (pr r))) ∧ Below w.heap.size w w' := by
  obtain ⟨t0, ht0⟩ : ∃ t, (bareR_ r [77]) = t := ⟨_, rfl⟩
  obtain ⟨t1, ht1⟩ : ∃ t, (spansOk r.spans) = t := ⟨_, rfl⟩
  have E : Hid (sndRec (pr r) = (t0 && (t1))) := by show _ = _; rw [snd_ref6 r hk, ht0, ht1]
  have hB : Below w.heap.size w (w.alloc (.cells #[.int .u8 6, .int .u32 r.id, .int .u32 r.at_, .slice r.na r.nodes.length r.nc, .slice r.fa r.facts.length r.fc, .int .u32 r.epoch, .slice r.sa r.spans.length r.sc, .int .i64 r.frm, .int .i64 r.til, .slice r.ea r.ents.length r.ec] 30)) := (Below.refl _ _).alloc (Nat.le_refl _) _
  have hx := Boxed.new w #[.int .u8 6, .int .u32 r.id, .int .u32 r.at_, .slice r.na r.nodes.length r.nc, .slice r.fa r.facts.length r.fc, .int .u32 r.epoch, .slice r.sa r.spans.length r.sc, .int .i64 r.frm, .int .i64 r.til, .slice r.ea r.ents.length r.ec] 30
  have hR0 := hR.keep hB
  have hC1 := bare_val 6 r.id r.at_ r.epoch r.frm r.til r.na r.fa r.sa r.ea r.nodes.length r.nc r.facts.length r.fc r.spans.length r.sc r.ents.length r.ec [77] 1 rfl (by omega) (w.alloc (.cells #[.int .u8 6, .int .u32 r.id, .int .u32 r.at_, .slice r.na r.nodes.length r.nc, .slice r.fa r.facts.length r.fc, .int .u32 r.epoch, .slice r.sa r.spans.length r.sc, .int .i64 r.frm, .int .i64 r.til, .slice r.ea r.ents.length r.ec] 30))
  have e0 : bareB r.id r.at_ r.nodes.length r.facts.length r.epoch r.spans.length r.frm r.til r.ents.length [77] = t0 := ht0
  rw [e0] at hC1
  generalize hW0 : w.alloc (.cells #[.int .u8 6, .int .u32 r.id, .int .u32 r.at_, .slice r.na r.nodes.length r.nc, .slice r.fa r.facts.length r.fc, .int .u32 r.epoch, .slice r.sa r.spans.length r.sc, .int .i64 r.frm, .int .i64 r.til, .slice r.ea r.ents.length r.ec] 30) = W0 at hB hR0 hC1 hx
  have HW : Hid (w.alloc (.cells #[.int .u8 6, .int .u32 r.id, .int .u32 r.at_, .slice r.na r.nodes.length r.nc, .slice r.fa r.facts.length r.fc, .int .u32 r.epoch, .slice r.sa r.spans.length r.sc, .int .i64 r.frm, .int .i64 r.til, .slice r.ea r.ents.length r.ec] 30) = W0) := hW0
  have HR : Aside (RecIn W0 r) := hR0
  have H0 : Aside (Below w.heap.size w W0 ∧ Boxed W0 w.heap.size #[.int .u8 6, .int .u32 r.id, .int .u32 r.at_, .slice r.na r.nodes.length r.nc, .slice r.fa r.facts.length r.fc, .int .u32 r.epoch, .slice r.sa r.spans.length r.sc, .int .i64 r.frm, .int .i64 r.til, .slice r.ea r.ents.length r.ec] 30) := ⟨hB, hx⟩
  show Calls _ _ #[.agg #[.int .u8 r.kind, .int .u32 r.id, .int .u32 r.at_, .slice r.na r.nodes.length r.nc, .slice r.fa r.facts.length r.fc, .int .u32 r.epoch, .slice r.sa r.spans.length r.sc, .int .i64 r.frm, .int .i64 r.til, .slice r.ea r.ents.length r.ec]] _ _
  rw [hk]
  clear hR hR0 hB hx hW0 hk e0
  go_enter Try.func14, Try.ntmps14
  go_wp2_with fail
  rw [HW.out]
  refine hC1.mono ?_
  rintro e w1 ⟨rfl, b1⟩
  clear hC1
  cases t0 with
  | false =>
    go_wp2
    go_ret
    exact ⟨ret_bool (by rw [show _ = _ from E.out]; simp), H0.out.1.trans (b1.mono H0.out.1.size)⟩
  | true =>
    have q1 := (H0.out.2.below b1).cell (j := 6) rfl
    have hC2 := refSpans_any r.sa r.spans.length r.sc r.spans w1 (HR.out.spans.keep b1) rfl HR.out.slen
    rw [ht1] at hC2
    go_wp2_with (go_at_call 35; refine hC2.mono ?_; rintro e w2 ⟨rfl, hww⟩; have hww2 := hww.symm; clear hww; subst hww2; refine Hid.out ?_)
    refine hid ?_
    clear hC2 q1
    cases t1 with
    | false =>
      go_wp2
      go_ret
      exact ⟨ret_bool (by rw [show _ = _ from E.out]; simp), H0.out.1.trans (b1.mono H0.out.1.size)⟩
    | true =>
      go_wp2
      go_ret
      exact ⟨ret_bool (by rw [show _ = _ from E.out]; simp), H0.out.1.trans (b1.mono H0.out.1.size)⟩

set_option maxHeartbeats 16000000 in
theorem refSound_7 (w : World) (r : Rc) (hR : RecIn w r) (hk : r.kind = 7) : Calls Try.prog 14 #[rcV r] w fun e w' => e = .returned (.bool (sndRec (pr r))) ∧ Below w.heap.size w w' := by
  obtain ⟨t0, ht0⟩ : ∃ t, (bareR_ r [73, 82]) = t := ⟨_, rfl⟩
  obtain ⟨t1, ht1⟩ : ∃ t, (entsOk (r.ents.map pe)) = t := ⟨_, rfl⟩
  obtain ⟨t2, ht2⟩ : ∃ t, (decide (0 ≤ r.frm ∧ r.frm ≤ 10000)) = t := ⟨_, rfl⟩
  obtain ⟨t3, ht3⟩ : ∃ t, (decide (0 ≤ r.til ∧ r.til ≤ 10000)) = t := ⟨_, rfl⟩
  have E : Hid (sndRec (pr r) = (t0 && (t1 && (t2 && (t3))))) := by show _ = _; rw [snd_ref7 r hk, ht0, ht1, ht2, ht3]
  have hB : Below w.heap.size w (w.alloc (.cells #[.int .u8 7, .int .u32 r.id, .int .u32 r.at_, .slice r.na r.nodes.length r.nc, .slice r.fa r.facts.length r.fc, .int .u32 r.epoch, .slice r.sa r.spans.length r.sc, .int .i64 r.frm, .int .i64 r.til, .slice r.ea r.ents.length r.ec] 30)) := (Below.refl _ _).alloc (Nat.le_refl _) _
  have hx := Boxed.new w #[.int .u8 7, .int .u32 r.id, .int .u32 r.at_, .slice r.na r.nodes.length r.nc, .slice r.fa r.facts.length r.fc, .int .u32 r.epoch, .slice r.sa r.spans.length r.sc, .int .i64 r.frm, .int .i64 r.til, .slice r.ea r.ents.length r.ec] 30
  have hR0 := hR.keep hB
  have hC1 := bare_val 7 r.id r.at_ r.epoch r.frm r.til r.na r.fa r.sa r.ea r.nodes.length r.nc r.facts.length r.fc r.spans.length r.sc r.ents.length r.ec [73, 82] 2 rfl (by omega) (w.alloc (.cells #[.int .u8 7, .int .u32 r.id, .int .u32 r.at_, .slice r.na r.nodes.length r.nc, .slice r.fa r.facts.length r.fc, .int .u32 r.epoch, .slice r.sa r.spans.length r.sc, .int .i64 r.frm, .int .i64 r.til, .slice r.ea r.ents.length r.ec] 30))
  have e0 : bareB r.id r.at_ r.nodes.length r.facts.length r.epoch r.spans.length r.frm r.til r.ents.length [73, 82] = t0 := ht0
  rw [e0] at hC1
  generalize hW0 : w.alloc (.cells #[.int .u8 7, .int .u32 r.id, .int .u32 r.at_, .slice r.na r.nodes.length r.nc, .slice r.fa r.facts.length r.fc, .int .u32 r.epoch, .slice r.sa r.spans.length r.sc, .int .i64 r.frm, .int .i64 r.til, .slice r.ea r.ents.length r.ec] 30) = W0 at hB hR0 hC1 hx
  have HW : Hid (w.alloc (.cells #[.int .u8 7, .int .u32 r.id, .int .u32 r.at_, .slice r.na r.nodes.length r.nc, .slice r.fa r.facts.length r.fc, .int .u32 r.epoch, .slice r.sa r.spans.length r.sc, .int .i64 r.frm, .int .i64 r.til, .slice r.ea r.ents.length r.ec] 30) = W0) := hW0
  have HR : Aside (RecIn W0 r) := hR0
  have H0 : Aside (Below w.heap.size w W0 ∧ Boxed W0 w.heap.size #[.int .u8 7, .int .u32 r.id, .int .u32 r.at_, .slice r.na r.nodes.length r.nc, .slice r.fa r.facts.length r.fc, .int .u32 r.epoch, .slice r.sa r.spans.length r.sc, .int .i64 r.frm, .int .i64 r.til, .slice r.ea r.ents.length r.ec] 30) := ⟨hB, hx⟩
  show Calls _ _ #[.agg #[.int .u8 r.kind, .int .u32 r.id, .int .u32 r.at_, .slice r.na r.nodes.length r.nc, .slice r.fa r.facts.length r.fc, .int .u32 r.epoch, .slice r.sa r.spans.length r.sc, .int .i64 r.frm, .int .i64 r.til, .slice r.ea r.ents.length r.ec]] _ _
  rw [hk]
  clear hR hR0 hB hx hW0 hk e0
  go_enter Try.func14, Try.ntmps14
  go_wp2_with fail
  rw [HW.out]
  refine hC1.mono ?_
  rintro e w1 ⟨rfl, b1⟩
  clear hC1
  cases t0 with
  | false =>
    go_wp2
    go_ret
    exact ⟨ret_bool (by rw [show _ = _ from E.out]; simp), H0.out.1.trans (b1.mono H0.out.1.size)⟩
  | true =>
    have q1 := (H0.out.2.below b1).cell (j := 9) rfl
    have hC2 := refSoundEntries_any r.ea r.ents.length r.ec r.ents w1 (HR.out.ents.keep b1) rfl HR.out.elen
    rw [ht1] at hC2
    go_wp2_with (go_at_call 36; refine hC2.mono ?_; rintro e w2 ⟨rfl, g2⟩; refine Hid.out ?_)
    refine hid ?_
    have b2 := b1.trans (g2.mono b1.size)
    clear hC2 g2 q1
    cases t1 with
    | false =>
      go_wp2
      go_ret
      exact ⟨ret_bool (by rw [show _ = _ from E.out]; simp), H0.out.1.trans (b2.mono H0.out.1.size)⟩
    | true =>
      have qfrm := (H0.out.2.below b2).cell (j := 7) rfl
      have qtil := (H0.out.2.below b2).cell (j := 8) rfl
      by_cases hzfrm : 0 ≤ r.frm
      rotate_left
      · obtain rfl : t2 = false := by rw [← ht2]; exact decide_eq_false fun h => hzfrm h.1
        go_wp2
        go_ret
        exact ⟨ret_bool (by rw [show _ = _ from E.out]; simp), H0.out.1.trans (b2.mono H0.out.1.size)⟩
      by_cases hyfrm : r.frm ≤ 10000
      rotate_left
      · obtain rfl : t2 = false := by rw [← ht2]; exact decide_eq_false fun h => hyfrm h.2
        go_wp2
        go_ret
        exact ⟨ret_bool (by rw [show _ = _ from E.out]; simp), H0.out.1.trans (b2.mono H0.out.1.size)⟩
      obtain rfl : t2 = true := by rw [← ht2]; exact decide_eq_true ⟨hzfrm, hyfrm⟩
      by_cases hztil : 0 ≤ r.til
      rotate_left
      · obtain rfl : t3 = false := by rw [← ht3]; exact decide_eq_false fun h => hztil h.1
        go_wp2
        go_ret
        exact ⟨ret_bool (by rw [show _ = _ from E.out]; simp), H0.out.1.trans (b2.mono H0.out.1.size)⟩
      by_cases hytil : r.til ≤ 10000
      rotate_left
      · obtain rfl : t3 = false := by rw [← ht3]; exact decide_eq_false fun h => hytil h.2
        go_wp2
        go_ret
        exact ⟨ret_bool (by rw [show _ = _ from E.out]; simp), H0.out.1.trans (b2.mono H0.out.1.size)⟩
      obtain rfl : t3 = true := by rw [← ht3]; exact decide_eq_true ⟨hztil, hytil⟩
      go_wp2
      go_ret
      exact ⟨ret_bool (by rw [show _ = _ from E.out]; simp), H0.out.1.trans (b2.mono H0.out.1.size)⟩

set_option maxHeartbeats 16000000 in
theorem refSound_none (w : World) (r : Rc) (hR : RecIn w r) (h : ¬ (1 ≤ r.kind ∧ r.kind ≤ 7)) : Calls Try.prog 14 #[rcV r] w fun e w' => e = .returned (.bool (sndRec (pr r))) ∧ Below w.heap.size w w' := by
  have E : Hid (sndRec (pr r) = false) := by
    show _ = _
    dsimp only [sndRec, pr]
    rw [if_neg (by omega), if_neg (by omega), if_neg (by omega), if_neg (by omega), if_neg (by omega)]
  have hB : ∀ o, Below w.heap.size w (w.alloc o) := fun o => (Below.refl _ _).alloc (Nat.le_refl _) _
  show Calls _ _ #[.agg (rcC r)] _ _
  unfold rcC
  generalize r.kind = kind at h
  have k1 : (kind == 1) = false := by simp; omega
  have k2 : (kind == 2) = false := by simp; omega
  have k3 : (kind == 3) = false := by simp; omega
  have k4 : (kind == 4) = false := by simp; omega
  have k5 : (kind == 5) = false := by simp; omega
  have k6 : (kind == 6) = false := by simp; omega
  have k7 : (kind == 7) = false := by simp; omega
  clear h
  go_enter Try.func14, Try.ntmps14
  go_wp2
  go_ret
  exact ⟨ret_bool E.out.symm, hB _⟩

theorem refSound_any (w : World) (r : Rc) (hR : RecIn w r) : Calls Try.prog 14 #[rcV r] w fun e w' => e = .returned (.bool (sndRec (pr r))) ∧ Below w.heap.size w w' := by
  by_cases h : 1 ≤ r.kind ∧ r.kind ≤ 7
  rotate_left
  · exact refSound_none w r hR h
  have hk : r.kind = 1 ∨ r.kind = 2 ∨ r.kind = 3 ∨ r.kind = 4 ∨ r.kind = 5 ∨ r.kind = 6 ∨ r.kind = 7 := by omega
  rcases hk with h1 | h1 | h1 | h1 | h1 | h1 | h1
  · exact refSound_1 w r hR h1
  · exact refSound_2 w r hR h1
  · exact refSound_3 w r hR h1
  · exact refSound_4 w r hR h1
  · exact refSound_5 w r hR h1
  · exact refSound_6 w r hR h1
  · exact refSound_7 w r hR h1
end Go.Proofs.Ytlokamblbhooaaa.code
