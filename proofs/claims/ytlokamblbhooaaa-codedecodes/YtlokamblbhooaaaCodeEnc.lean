/-
  The program's Encode.
-/
import Derived.Test.YtlokamblbhooaaaCodeSound
import Derived.Test.YtlokamblbhooaaaCodeLayR
namespace Go.Proofs.Ytlokamblbhooaaa.code
open Go.ChangeShapes Go.WideShapes Go.ChangeAt Go.RowKit Go.Deep
open Go.Proofs.Ytlokamblbhooaaa.dims (nth Ints cell_lt vals vals_len vals_get vals_one vals_app own_below own_mono own_out own_apart RowOut ret_bool ret_int)
set_option linter.unusedVariables false
set_option maxRecDepth 100000

theorem rec_box (w : World) (r : Rc) (t : TypeId) : ∀ j x, (rcC r)[j]? = some x → (w.alloc (.cells (rcC r) t)).cell? ⟨w.heap.size, j, none⟩ = some x := by
  intro j x hx
  simpa [go_sem] using hx

set_option maxHeartbeats 8000000 in
theorem encode_ok (w : World) (r : Rc) (hR : RecIn w r) (hs : sndRec (pr r) = true) (hl : (recB (pr r)).length ≤ 60000) :
    Calls Try.prog 11 #[rcV r] w fun e w' => ∃ v, e = .returned (.tuple #[v, .int .u16 0]) ∧ Bs w.heap.size w' v (recB (pr r)) ∧ Below w.heap.size w w' := by
  have hB : Below w.heap.size w (w.alloc (.cells (rcC r) 30)) := (Below.refl _ _).alloc (Nat.le_refl _) _
  have hR0 := hR.keep hB
  have hsz : (w.alloc (.cells (rcC r) 30)).heap.size = w.heap.size + 1 := by simp
  have hC1 := sound_any _ r hR0
  rw [hs] at hC1
  have hq0 := rec_box w r 30
  generalize hW0 : w.alloc (.cells (rcC r) 30) = W0 at hB hR0 hsz hC1 hq0
  have hW1 : w.alloc (.cells #[.int .u8 r.kind, .int .u32 r.id, .int .u32 r.at_, .slice r.na r.nodes.length r.nc, .slice r.fa r.facts.length r.fc, .int .u32 r.epoch, .slice r.sa r.spans.length r.sc, .int .i64 r.frm, .int .i64 r.til, .slice r.ea r.ents.length r.ec] 30) = W0 := hW0
  have HW : Hid (_ = W0) := hW1
  have HR : Aside (RecIn W0 r ∧ (recB (pr r)).length ≤ 60000 ∧ Below w.heap.size w W0) := ⟨hR0, hl, hB⟩
  clear hW0 hW1 hR hR0 hB hs
  show Calls _ _ #[.agg #[.int .u8 r.kind, .int .u32 r.id, .int .u32 r.at_, .slice r.na r.nodes.length r.nc, .slice r.fa r.facts.length r.fc, .int .u32 r.epoch, .slice r.sa r.spans.length r.sc, .int .i64 r.frm, .int .i64 r.til, .slice r.ea r.ents.length r.ec]] _ _
  go_enter Try.func11, Try.ntmps11
  go_wp2_with fail
  rw [HW.out]
  refine hC1.mono ?_
  rintro e w1 ⟨rfl, g1⟩
  have q : ∀ j x, (rcC r)[j]? = some x → w1.cell? ⟨w.heap.size, j, none⟩ = some x := fun j x hx => (g1.cell (p := ⟨w.heap.size, j, none⟩) (by simp; omega)).trans (hq0 j x hx)
  have q0 := q 0 _ rfl
  have q1 := q 1 _ rfl
  have q2 := q 2 _ rfl
  have q3 := q 3 _ rfl
  have q4 := q 4 _ rfl
  have q5 := q 5 _ rfl
  have q6 := q 6 _ rfl
  have q7 := q 7 _ rfl
  have q8 := q 8 _ rfl
  have q9 := q 9 _ rfl
  have hC2 := layRec_any w1 r (HR.out.1.keep g1) HR.out.2.1
  have HB : Aside (Below w.heap.size w w1) := HR.out.2.2.trans (g1.mono HR.out.2.2.size)
  clear q hq0 g1 hC1
  go_wp2_with (go_at_call 20; refine hC2.mono ?_; rintro e w2 ⟨v, rfl, hown, g2⟩; refine Hid.out ?_)
  refine hid ?_
  obtain ⟨va, vc, rfl⟩ := Bs.form hown
  have HO : Aside (Bs w.heap.size w2 (.slice va (recB (pr r)).length vc) (recB (pr r)) ∧ Below w.heap.size w w2) := ⟨own_mono hown HB.out.size, HB.out.trans (g2.mono HB.out.size)⟩
  clear hC2 hown g2 q0 q1 q2 q3 q4 q5 q6 q7 q8 q9
  have hlz : ¬ (60000 : Int) < ((recB (pr r)).length : Int) := by have := HR.out.2.1; omega
  go_wp2
  go_ret2
  exact ⟨_, rfl, HO.out.1, HO.out.2⟩

set_option maxHeartbeats 8000000 in
theorem encode_no (w : World) (r : Rc) (hR : RecIn w r) (hs : sndRec (pr r) = false) :
    Calls Try.prog 11 #[rcV r] w fun e w' => e = .returned (.tuple #[.slice none 0 0, .int .u16 1]) ∧ Below w.heap.size w w' := by
  have hB : Below w.heap.size w (w.alloc (.cells (rcC r) 30)) := (Below.refl _ _).alloc (Nat.le_refl _) _
  have hC1 := sound_any _ r (hR.keep hB)
  rw [hs] at hC1
  generalize hW0 : w.alloc (.cells (rcC r) 30) = W0 at hB hC1
  have hW1 : w.alloc (.cells #[.int .u8 r.kind, .int .u32 r.id, .int .u32 r.at_, .slice r.na r.nodes.length r.nc, .slice r.fa r.facts.length r.fc, .int .u32 r.epoch, .slice r.sa r.spans.length r.sc, .int .i64 r.frm, .int .i64 r.til, .slice r.ea r.ents.length r.ec] 30) = W0 := hW0
  have HW : Hid (_ = W0) := hW1
  have HB : Aside (Below w.heap.size w W0) := hB
  clear hW0 hW1 hR hB hs
  show Calls _ _ #[.agg #[.int .u8 r.kind, .int .u32 r.id, .int .u32 r.at_, .slice r.na r.nodes.length r.nc, .slice r.fa r.facts.length r.fc, .int .u32 r.epoch, .slice r.sa r.spans.length r.sc, .int .i64 r.frm, .int .i64 r.til, .slice r.ea r.ents.length r.ec]] _ _
  go_enter Try.func11, Try.ntmps11
  go_wp2_with fail
  rw [HW.out]
  refine hC1.mono ?_
  rintro e w1 ⟨rfl, g1⟩
  clear hC1
  go_wp2
  go_ret2
  exact ⟨rfl, HB.out.trans (g1.mono HB.out.size)⟩
end Go.Proofs.Ytlokamblbhooaaa.code
