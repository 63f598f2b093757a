/-
 The program's log: a record as a frame, what Lazy and Force lay; over any disk that keeps its contract.
 The program's records: of bytes, the records in front, and how many bytes they take.
 The program's Open.
 One disk: it does what it should, and leaves what else there is.
 The chapter's own log: Lazy, Force; over any disk of the chapter's that keeps its contract.
-/
import Derived.Test.YtlcjllgfpfldlaaGreatWalRows
import Derived.Test.YtlcjllgfpfldlaaGreatWalZ11K
import Derived.Test.YtlcjllgfpfldlaaGreatFrameScan
import Derived.Test.YtlcjllgfpfldlaaGreatWalZ42K
import Derived.Test.YtlcjllgfpfldlaaGreatWalZ41K
import Derived.Test.YtlcjllgfpfldlaaGreatWalZ17K
import Derived.Test.YtlcjllgfpfldlaaGreatDiskTwo
set_option maxHeartbeats 8000000
open Go.ChangeShapes Go.WideShapes Go.ChangeAt Go.RowKit Go.Deep
set_option linter.unusedVariables false
set_option maxRecDepth 100000
set_option linter.unusedSimpArgs false
namespace Go.Proofs.YtlcjllgfpfldlaaGreat
namespace wal
open code (hid_rc calls_rc Rc PRec pr rcC rcV RecIn OwnIn Far own_far far_row sndRec recB recZ dec encode_ok encode_no encode_big decode_none decode_own)
open bytes
open disk
open frame (scanB rowsB wrapB wrapB_len wrap_any scan_any)
structure Dsk (B k : Nat) (P : World → Dk → Prop) : Prop where
 base : ∀ w d, P w d → B ≤ w.heap.size
 fit : ∀ w d, P w d → Fit d
 keep : ∀ w w' d, P w d → Below w.heap.size w w' → P w' d
 hApp : ∀ w d a n c y, P w d → Sl w a n c y → n ≤ 1000000 → Calls Tryz.prog 22 #[.pointer (some ⟨k, 0, none⟩), .slice a n c] w fun e w' => e = .returned (.int .u16 ((app y d).2 : Nat)) ∧ P w' (app y d).1 ∧ Stay B w w'
 hSync : ∀ w d, P w d → Calls Tryz.prog 36 #[.pointer (some ⟨k, 0, none⟩)] w fun e w' => e = .returned (.int .u16 ((sync d).2 : Nat)) ∧ P w' (sync d).1 ∧ Stay B w w'
 hCut : ∀ w d (n : Int), P w d → Calls Tryz.prog 37 #[.pointer (some ⟨k, 0, none⟩), .int .i64 n] w fun e w' => e = .returned (.int .u16 ((cut n d).2 : Nat)) ∧ P w' (cut n d).1 ∧ Stay B w w'
 hRead : ∀ w d, P w d → Calls Tryz.prog 21 #[.pointer (some ⟨k, 0, none⟩)] w fun e w' => ∃ a c, e = .returned (.slice a d.b.length c) ∧ Sl w' a d.b.length c d.b ∧ Below w.heap.size w w'

/-! ### a record as a frame -/
def encN (x : PRec) : Nat := if sndRec x = true then (if (recB x).length ≤ 60000 then 0 else 3) else 1
theorem encN_ok {x : PRec} (h : encN x = 0) : sndRec x = true ∧ (recB x).length ≤ 60000 := by
 unfold encN at h
 split at h
 ·rename_i hs
  split at h
  ·exact ⟨hs, by assumption⟩
  ·cases h
 ·cases h
theorem encN_three (x : PRec) : encN x = 0 ∨ encN x = 1 ∨ encN x = 3 := by
 unfold encN
 split
 ·split <;> omega
 ·omega
def frameB (x : PRec) : List UInt8 := if encN x = 0 then wrapB (recB x) else []
def lazyR (x : PRec) (d : Dk) : Dk × Nat := if encN x = 0 then app (wrapB (recB x)) d else (d, encN x)
def forceR (x : PRec) (d : Dk) : Dk × Nat :=
 if (lazyR x d).2 ≠ 0 then lazyR x d
 else if (sync (lazyR x d).1).2 ≠ 0 then ((cut (d.b.length : Nat) (sync (lazyR x d).1).1).1, (sync (lazyR x d).1).2)
 else sync (lazyR x d).1
theorem lazyR_ok {x : PRec} (h : encN x = 0) (d : Dk) : lazyR x d = lazyD recB x d := by unfold lazyR lazyD; rw [if_pos h]
theorem lazyR_no {x : PRec} (h : encN x ≠ 0) (d : Dk) : lazyR x d = (d, encN x) := by unfold lazyR; rw [if_neg h]
theorem forceR_ok {x : PRec} (h : encN x = 0) (d : Dk) : forceR x d = forceD recB x d := by
 unfold forceR forceD
 rw [lazyR_ok h]
 rfl
theorem encode_all (w : World) (r : Rc) (hR : RecIn w r) : Calls Tryz.prog 80 #[.agg #[.int .u8 r.kind, .int .u32 r.id, .int .u32 r.at_, .slice r.na r.nodes.length r.nc, .slice r.fa r.facts.length r.fc, .int .u32 r.epoch, .slice r.sa r.spans.length r.sc, .int .i64 r.frm, .int .i64 r.til, .slice r.ea r.ents.length r.ec]] w fun e w' => ∃ v, e = .returned (.tuple #[v, .int .u16 (encN (pr r) : Nat)]) ∧ (encN (pr r) = 0 → Bs w.heap.size w' v (recB (pr r))) ∧ (encN (pr r) ≠ 0 → v = .slice none 0 0) ∧ Below w.heap.size w w' := by
 by_cases hs : sndRec (pr r) = true
 ·by_cases hl : (recB (pr r)).length ≤ 60000
  ·have e : encN (pr r) = 0 := by unfold encN; rw [if_pos hs, if_pos hl]
   rw [e]; exact (encode_ok w r hR hs hl).mono fun e w' ⟨v, h1, h2, h3⟩ => ⟨v, h1, fun _ => h2, fun h => absurd rfl h, h3⟩
  ·have e : encN (pr r) = 3 := by unfold encN; rw [if_pos hs, if_neg hl]
   rw [e]; exact (encode_big w r hR hs (by omega)).mono fun e w' ⟨h1, h3⟩ => ⟨_, h1, fun h => by omega, fun _ => rfl, h3⟩
 ·have e : encN (pr r) = 1 := by unfold encN; rw [if_neg hs]
  rw [e]; exact (encode_no w r hR (by simpa using hs)).mono fun e w' ⟨h1, h3⟩ => ⟨_, h1, fun h => by omega, fun _ => rfl, h3⟩

theorem framed_any (w : World) (r : Rc) (hR : RecIn w r) :
  Calls Tryz.prog 53 #[rcV r] w fun e w' => ∃ v, e = .returned (.tuple #[v, .int .u16 (encN (pr r) : Nat)]) ∧ (encN (pr r) = 0 → Bs w.heap.size w' v (wrapB (recB (pr r)))) ∧ Below w.heap.size w w' := by
 have hB : Below w.heap.size w (w.alloc (.cells (rcC r) 46)) := (Below.refl _ _).alloc (nrQ _) _
 have hC1 := encode_all _ r (hR.keep hB)
 generalize hW0 : w.alloc (.cells (rcC r) 46) = W0 at hB hC1
 have HW := hid_rc r hW0
 have HB : Aside (Below w.heap.size w W0) := hB
 have HL : Aside (encN (pr r) = 0 → (recB (pr r)).length ≤ 60000) := fun h => (encN_ok h).2
 clear hW0 hR hB
 refine calls_rc r ?_
 rcases encN_three (pr r) with hz | hz | hz
 rotate_left
 ·rw [hz] at hC1 ⊢
  clear HL
  go_enter Tryz.func53, Tryz.ntmps53
  go_wp2_with fail
  rw [HW.out]
  refine hC1.mono ?_
  rintro e w1 ⟨v, rfl, -, hv, g1⟩
  have hv := hv (by omega)
  subst hv
  clear hC1
  go_wp2
  go_ret2
  exact ⟨_, rfl, fun h => by omega, HB.out.trans (g1.mono HB.out.size)⟩
 ·rw [hz] at hC1 ⊢
  clear HL
  go_enter Tryz.func53, Tryz.ntmps53
  go_wp2_with fail
  rw [HW.out]
  refine hC1.mono ?_
  rintro e w1 ⟨v, rfl, -, hv, g1⟩
  have hv := hv (by omega)
  subst hv
  clear hC1
  go_wp2
  go_ret2
  exact ⟨_, rfl, fun h => by omega, HB.out.trans (g1.mono HB.out.size)⟩
 ·have hl := HL.out hz
  rw [hz] at hC1 ⊢
  clear HL
  go_enter Tryz.func53, Tryz.ntmps53
  go_wp2_with fail
  rw [HW.out]
  refine hC1.mono ?_
  rintro e w1 ⟨v, rfl, hown, -, g1⟩
  obtain ⟨va, vc, hv, hS⟩ := Bs.sl (hown (by simp)) (by omega)
  subst hv
  have hC2 := wrap_any _ _ _ _ w1 hS hl
  have HG : Aside (Below w.heap.size w w1) := HB.out.trans (g1.mono HB.out.size)
  clear hC1 hown hS g1 hl
  go_wp2_with (go_at_call 74; refine hC2.mono ?_; rintro e w2 ⟨v2, rfl, hown2, g2⟩)
  go_ret2
  exact ⟨_, rfl, fun _ => own_mono hown2 HG.out.size, HG.out.trans (g2.mono HG.out.size)⟩

section
variable {B k : Nat} {P : World → Dk → Prop}
theorem lay_any (hD : Dsk B k P) (w : World) (d : Dk) (h : Nat) (r : Rc) (hp : P w d) (hx : bytes.Boxed w h #[.pointer (some ⟨k, 0, none⟩)] 67) (hR : RecIn w r) :
  Calls Tryz.prog 32 #[.pointer (some ⟨h, 0, none⟩), rcV r] w fun e w' => e = .returned (.tuple #[.int .i64 ((frameB (pr r)).length : Nat), .int .u16 ((lazyR (pr r) d).2 : Nat)]) ∧ P w' (lazyR (pr r) d).1 ∧ Stay B w w' := by
 have hB : Below w.heap.size w (w.alloc (.cells (rcC r) 46)) := (Below.refl _ _).alloc (nrQ _) _
 have hC1 := framed_any _ r (hR.keep hB)
 have hx0 := hx.below hB
 have hp0 := hD.keep _ _ _ hp hB
 generalize hW0 : w.alloc (.cells (rcC r) 46) = W0 at hB hC1 hx0 hp0
 have HW := hid_rc r hW0
 have HB : Aside (Stay B w W0 ∧ P W0 d ∧ B ≤ w.heap.size) := ⟨Stay.of_below hB (hD.base _ _ hp), hp0, hD.base _ _ hp⟩
 have HD : Aside (Dsk B k P) := hD
 have HX : Aside (bytes.Boxed W0 h #[.pointer (some ⟨k, 0, none⟩)] 67) := hx0
 clear hW0 hR hB hp hp0 hx hx0 hD
 show Calls _ _ #[.pointer (some ⟨h, 0, none⟩), .agg #[.int .u8 r.kind, .int .u32 r.id, .int .u32 r.at_, .slice r.na r.nodes.length r.nc, .slice r.fa r.facts.length r.fc, .int .u32 r.epoch, .slice r.sa r.spans.length r.sc, .int .i64 r.frm, .int .i64 r.til, .slice r.ea r.ents.length r.ec]] _ _
 rcases encN_three (pr r) with hz | hz | hz
 rotate_left
 ·have hE : Aside (lazyR (pr r) d = (d, 1) ∧ frameB (pr r) = []) := ⟨by rw [lazyR_no (by omega), hz], by unfold frameB; rw [if_neg (by omega)]⟩
  rw [hz] at hC1
  go_enter Tryz.func32, Tryz.ntmps32
  go_wp2_with fail
  rw [HW.out]
  refine hC1.mono ?_
  rintro e w1 ⟨v, rfl, -, g1⟩
  clear hC1
  go_wp2
  go_ret2
  rw [hE.out.1, hE.out.2]
  exact ⟨rfl, HD.out.keep _ _ _ HB.out.2.1 g1, HB.out.1.trans (Stay.of_below g1 (ntQ HB.out.2.2 HB.out.1.below.size))⟩
 ·have hE : Aside (lazyR (pr r) d = (d, 3) ∧ frameB (pr r) = []) := ⟨by rw [lazyR_no (by omega), hz], by unfold frameB; rw [if_neg (by omega)]⟩
  rw [hz] at hC1
  go_enter Tryz.func32, Tryz.ntmps32
  go_wp2_with fail
  rw [HW.out]
  refine hC1.mono ?_
  rintro e w1 ⟨v, rfl, -, g1⟩
  clear hC1
  go_wp2
  go_ret2
  rw [hE.out.1, hE.out.2]
  exact ⟨rfl, HD.out.keep _ _ _ HB.out.2.1 g1, HB.out.1.trans (Stay.of_below g1 (ntQ HB.out.2.2 HB.out.1.below.size))⟩
 ·have hl : (wrapB (recB (pr r))).length ≤ 1000000 := by have := (encN_ok hz).2; rw [wrapB_len]; omega
  have hE : Aside (lazyR (pr r) d = app (wrapB (recB (pr r))) d ∧ frameB (pr r) = wrapB (recB (pr r))) := ⟨by unfold lazyR; rw [if_pos hz], by unfold frameB; rw [if_pos hz]⟩
  rw [hz] at hC1
  rw [hE.out.1, hE.out.2]
  go_enter Tryz.func32, Tryz.ntmps32
  go_wp2_with fail
  rw [HW.out]
  refine hC1.mono ?_
  rintro e w1 ⟨v, rfl, hown, g1⟩
  obtain ⟨va, vc, hv, hS⟩ := Bs.sl (hown (by simp)) (by omega)
  subst hv
  have c1 := (HX.out.below g1).cell (j := 0) rfl
  have hC2 := HD.out.hApp w1 d va _ vc _ (HD.out.keep _ _ _ HB.out.2.1 g1) hS hl
  have HS : Aside (Stay B w w1) := HB.out.1.trans (Stay.of_below g1 (ntQ HB.out.2.2 HB.out.1.below.size))
  clear hC1 hown hS g1 hl
  go_wp2_with (go_at_call 22; refine hC2.mono ?_; rintro e w2 ⟨rfl, hp2, s2⟩)
  go_ret2
  exact ⟨rfl, hp2, HS.out.trans s2⟩
theorem lazy_any (hD : Dsk B k P) (w : World) (d : Dk) (h : Nat) (r : Rc) (hp : P w d) (hx : bytes.Boxed w h #[.pointer (some ⟨k, 0, none⟩)] 67) (hR : RecIn w r) :
  Calls Tryz.prog 11 #[.pointer (some ⟨h, 0, none⟩), rcV r] w fun e w' => e = .returned (.int .u16 ((lazyR (pr r) d).2 : Nat)) ∧ P w' (lazyR (pr r) d).1 ∧ Stay B w w' := by
 have hB : Below w.heap.size w (w.alloc (.cells (rcC r) 46)) := (Below.refl _ _).alloc (nrQ _) _
 have hC1 := lay_any hD _ d h r (hD.keep _ _ _ hp hB) (hx.below hB) (hR.keep hB)
 generalize hW0 : w.alloc (.cells (rcC r) 46) = W0 at hB hC1
 have HW := hid_rc r hW0
 have HB : Aside (Stay B w W0) := Stay.of_below hB (hD.base _ _ hp)
 clear hW0 hR hB hp hx hD
 show Calls _ _ #[.pointer (some ⟨h, 0, none⟩), .agg #[.int .u8 r.kind, .int .u32 r.id, .int .u32 r.at_, .slice r.na r.nodes.length r.nc, .slice r.fa r.facts.length r.fc, .int .u32 r.epoch, .slice r.sa r.spans.length r.sc, .int .i64 r.frm, .int .i64 r.til, .slice r.ea r.ents.length r.ec]] _ _
 go_enter Tryz.func11, Tryz.ntmps11
 go_wp2_with fail
 rw [HW.out]
 refine hC1.mono ?_
 rintro e w1 ⟨rfl, hp1, s1⟩
 clear hC1
 go_wp2
 go_ret
 exact ⟨rfl, hp1, HB.out.trans s1⟩

theorem force_any (hD : Dsk B k P) (w : World) (d : Dk) (h : Nat) (r : Rc) (hp : P w d) (hx : bytes.Boxed w h #[.pointer (some ⟨k, 0, none⟩)] 67) (hR : RecIn w r) :
  Calls Tryz.prog 14 #[.pointer (some ⟨h, 0, none⟩), rcV r] w fun e w' => e = .returned (.int .u16 ((forceR (pr r) d).2 : Nat)) ∧ P w' (forceR (pr r) d).1 ∧ Stay B w w' := by
 have hB : Below w.heap.size w (w.alloc (.cells (rcC r) 46)) := (Below.refl _ _).alloc (nrQ _) _
 have hC1 := lay_any hD _ d h r (hD.keep _ _ _ hp hB) (hx.below hB) (hR.keep hB)
 have hx0 := hx.below hB
 generalize hW0 : w.alloc (.cells (rcC r) 46) = W0 at hB hC1 hx0
 have HW := hid_rc r hW0
 have HB : Aside (Stay B w W0) := Stay.of_below hB (hD.base _ _ hp)
 have HD : Aside (Dsk B k P) := hD
 have HX : Aside (bytes.Boxed W0 h #[.pointer (some ⟨k, 0, none⟩)] 67) := hx0
 have HF : Aside (Fit d) := hD.fit _ _ hp
 clear hW0 hR hB hp hx hx0 hD
 show Calls _ _ #[.pointer (some ⟨h, 0, none⟩), .agg #[.int .u8 r.kind, .int .u32 r.id, .int .u32 r.at_, .slice r.na r.nodes.length r.nc, .slice r.fa r.facts.length r.fc, .int .u32 r.epoch, .slice r.sa r.spans.length r.sc, .int .i64 r.frm, .int .i64 r.til, .slice r.ea r.ents.length r.ec]] _ _
 obtain ⟨E1, hE1⟩ : ∃ E1 : Int, (((lazyR (pr r) d).2 : Nat) : Int) = E1 := ⟨_, rfl⟩
 rw [hE1] at hC1
 by_cases hz : E1 = 0
 rotate_left
 ·have HE : Aside (forceR (pr r) d = lazyR (pr r) d ∧ (((lazyR (pr r) d).2 : Nat) : Int) = E1) := ⟨by unfold forceR; rw [if_pos (by omega)], hE1⟩
  clear hE1
  rw [HE.out.1, HE.out.2]
  go_enter Tryz.func14, Tryz.ntmps14
  go_wp2_with fail
  rw [HW.out]
  refine hC1.mono ?_
  rintro e w1 ⟨rfl, hp1, s1⟩
  clear hC1
  go_wp2
  go_ret
  exact ⟨rfl, hp1, HB.out.trans s1⟩
 subst hz
 have h0 : (lazyR (pr r) d).2 = 0 := by omega
 have he : encN (pr r) = 0 := by
  by_cases he : encN (pr r) = 0
  ·exact he
  ·rw [lazyR_no he] at h0; exact h0
 have hfr : frameB (pr r) = wrapB (recB (pr r)) := by unfold frameB; rw [if_pos he]
 have hd1 : lazyR (pr r) d = app (wrapB (recB (pr r))) d := by unfold lazyR; rw [if_pos he]
 have hb1 : (lazyR (pr r) d).1.b = d.b ++ wrapB (recB (pr r)) := by
  rw [hd1] at h0 ⊢
  exact app_yes h0
 have hfd : forceR (pr r) d = if (sync (lazyR (pr r) d).1).2 ≠ 0 then ((cut (d.b.length : Nat) (sync (lazyR (pr r) d).1).1).1, (sync (lazyR (pr r) d).1).2) else sync (lazyR (pr r) d).1 := by
  unfold forceR; rw [if_neg (by omega)]
 have hlen := congrArg List.length hb1
 rw [laQ] at hlen
 have hbm : d.b.length ≤ 1048576 := ntQ HF.out.len HF.out.room
 have hwl : (wrapB (recB (pr r))).length ≤ 1000000 := by have := (encN_ok he).2; rw [wrapB_len]; omega
 rw [hfr] at hC1
 have HFD : Aside (_ = _) := hfd
 clear hE1 h0 he hfr hd1 hb1 hfd
 generalize (lazyR (pr r) d).1 = d1 at hC1 hlen HFD
 obtain ⟨q, hq⟩ : ∃ q, (wrapB (recB (pr r))).length = q := ⟨_, rfl⟩
 rw [hq] at hC1 hlen hwl
 clear hq
 go_enter Tryz.func14, Tryz.ntmps14
 go_wp2_with fail
 rw [HW.out]
 refine hC1.mono ?_
 rintro e w1 ⟨rfl, hp1, s1⟩
 have hx1 := s1.boxes _ _ _ HX.out kt_log
 have c1 := hx1.cell (j := 0) rfl
 have hC2 := HD.out.hSync w1 d1 hp1
 obtain ⟨E2, hE2⟩ : ∃ E2 : Int, (((sync d1).2 : Nat) : Int) = E2 := ⟨_, rfl⟩
 rw [hE2] at hC2
 have HS1 : Aside (Stay B w w1 ∧ bytes.Boxed w1 h #[.pointer (some ⟨k, 0, none⟩)] 67) := ⟨HB.out.trans s1, hx1⟩
 have HLN : Aside (d1.b.length = d.b.length + q) := hlen
 clear hC1 hp1 s1 hx1 hlen
 go_wp2_with (go_at_call 36; refine hC2.mono ?_; rintro e w2 ⟨rfl, hp2, s2⟩; refine Hid.out ?_)
 refine hid ?_
 clear hC2 c1
 by_cases hz2 : E2 = 0
 ·subst hz2
  have HR : Aside (forceR (pr r) d = sync d1 ∧ (sync d1).2 = 0) := ⟨by rw [HFD.out, if_neg (by omega)], by omega⟩
  go_wp2
  go_ret
  rw [HR.out.1, HR.out.2]
  exact ⟨rfl, hp2, HS1.out.1.trans s2⟩
 ·have hs1 : sync d1 = (d1, 100) := by
   unfold sync at hE2 ⊢
   split
   ·rfl
   ·rename_i h0
    rw [if_neg h0] at hE2
    exact absurd hE2.symm hz2
  have HR : Aside (forceR (pr r) d = ((cut (d.b.length : Nat) d1).1, 100) ∧ E2 = 100) := ⟨by rw [HFD.out, hs1, if_pos (show (100 : Nat) ≠ 0 by decide)], by rw [← hE2, hs1]; rfl⟩
  rw [hs1] at hp2
  have hx2 := s2.boxes _ _ _ HS1.out.2 kt_log
  have HX2 : Aside (Stay B w w2 ∧ bytes.Boxed w2 h #[.pointer (some ⟨k, 0, none⟩)] 67) := ⟨HS1.out.1.trans s2, hx2⟩
  have hC3 := HD.out.hRead w2.drew d1 (HD.out.keep _ _ _ hp2 (Below.refl _ _).drew)
  have hC4 := fun W (hW : Below w2.drew.heap.size w2.drew W) => HD.out.hCut W d1 (d.b.length : Nat) (HD.out.keep _ _ _ hp2 ((Below.refl _ _).drew.trans hW))
  have c2 := hx2.cell (j := 0) rfl
  have hcc : ∀ W, Below w2.drew.heap.size w2.drew W → W.cell? ⟨h, 0, none⟩ = some (.pointer (some ⟨k, 0, none⟩)) := fun W hW => (hx2.below ((Below.refl _ _).drew.trans hW)).cell (j := 0) rfl
  have HST : Aside (∀ W, Below w2.drew.heap.size w2.drew W → Stay B w W) := fun W hW => HX2.out.1.trans (Stay.of_below ((Below.refl _ _).drew.trans hW) (HD.out.base _ _ hp2))
  obtain ⟨m, hm⟩ : ∃ m, d.b.length = m := ⟨_, rfl⟩
  obtain ⟨L, hL⟩ : ∃ L, d1.b.length = L := ⟨_, rfl⟩
  rw [hL] at hC3 HLN
  rw [hm] at hC4 HLN hbm HR
  have hsub : IntKind.i64.wrap ((L : Int) - (q : Int)) = (m : Int) := by have := HLN.out; rw [IntKind.wrap_i64]; omega
  have hsub2 : wrap64 ((L : Int) - (q : Int)) = (m : Int) := by have := HLN.out; unfold wrap64; omega
  have HR2 : Aside (_ = _) := HR.out.1
  obtain rfl := HR.out.2
  clear HR
  clear hs1 hE2 hp2 s2 hx2 hm hL HFD
  go_upto_region 6 with fail
  go_region_with (first | (go_at_call 21; refine hC3.mono ?_; rintro e w3 ⟨ra, rc, rfl, hS3, g3⟩; have c3 := hcc _ g3) | (go_at_call 37; refine (hC4 _ g3).mono ?_; rintro e w4 ⟨rfl, hp4, s4⟩))
  all_goals
   go_wp2
   go_ret
   rw [HR2.out]
   exact ⟨rfl, hp4, (HST.out _ g3).trans s4⟩
end
end wal
namespace wal
open code (Rc PRec pr rcC rcV RecIn OwnIn Far own_far far_row sndRec recB recZ dec decode_none decode_own)
open bytes
open disk
open frame (scanB rowsB wrapB wrapB_len wrap_any scan_any)
theorem sizeOf_any (n c q : Nat) (a : Option Addr) (l : List UInt8) (w : World) (h : Sl w a n c l) (hn : n ≤ 60000) (hq : n + 7 = q) :
  Calls Tryz.prog 50 #[.slice a n c] w fun e w' => e = .returned (.int .i64 (q : Nat)) ∧ Below w.heap.size w w' := by
 have hC1 := wrap_any n c a l w h hn
 have hl : (wrapB l).length = q := by rw [wrapB_len, h.at_.len]; exact hq
 clear h
 go_enter Tryz.func50, Tryz.ntmps50
 go_wp2_with (go_at_call 74; refine hC1.mono ?_; rintro e w1 ⟨v, rfl, hown, g1⟩; refine Hid.out ?_)
 refine hid ?_
 obtain ⟨va, vc, hv⟩ := hown.form
 subst hv
 rw [hl]
 clear hC1 hown
 go_wp2
 go_ret
 exact ⟨rfl, g1⟩
theorem row_farR {B : Nat} {W W' : World} {v : Value} {ls : List Lr} {row : Option Nat} (h : RowOut B W v ls) (hg : W.grownBy W' row) (h1 : Far W row 54) (h2 : Far W row 5) : RowOut B W' v ls :=
 ⟨own_far h.own hg h1, fun x hx => own_far (h.els x hx) hg h2⟩
theorem row_at {B n c : Nat} {W : World} {a : Option Addr} {ls : List Lr} (h : RowOut B W (.slice a n c) ls) {j : Nat} (hj : j < ls.length) : n = ls.length ∧ ∃ b off, a = some ⟨b, off, none⟩ ∧ W.cell? ⟨b, off + j, none⟩ = some (.slice (ln ls j).a (ln ls j).l.length (ln ls j).cap) ∧ ByIn W (ln ls j).a (ln ls j).l ∧ ((ln ls j).l ≠ [] → ∀ p, (ln ls j).a = some p → p.block < W.heap.size) ∧ (ln ls j).l.length ≤ (ln ls j).cap := by
 obtain ⟨a2, c2, e, hL⟩ := h.lists
 injection e with e1 e2 e3
 subst e1 e2
 obtain ⟨b, off, ha, hc⟩ := hL.get hj
 have hb := h.els (ln ls j) (by rw [ln_eq hj]; exact List.getElem_mem _)
 obtain ⟨a3, c3, e, hs⟩ := hb.bytes
 unfold lv at e
 injection e with e1 _ e3
 refine ⟨rfl, b, off, ha, (hc j hj).1, (hc j hj).2, ?_, ?_⟩
 ·rw [e1]; exact hs.low
 ·rw [e3]; exact hs.cap
theorem rows_least : ∀ l : List (List UInt8), l.length ≤ (rowsB l).length
 | [] => Nat.zero_le _
 | x :: l => by
  have := rows_least l
  rw [rows_cons, laQ, wrapB_len, List.length_cons]
  omega
theorem recs_mem {α : Type} {D : List UInt8 → Option α} : ∀ {l : List (List UInt8)} {x : α}, x ∈ recs D l → ∃ y ∈ l, D y = some x
 | [], x, h => by cases h
 | y :: l, x, h => by
  cases hd : D y with
  | none => rw [recs_none D hd] at h; cases h
  | some r =>
   rw [recs_some D hd] at h
   rcases List.mem_cons.1 h with rfl | h
   ·exact ⟨y, by simp, hd⟩
   ·obtain ⟨z, hz, he⟩ := recs_mem h
    exact ⟨z, by simp [hz], he⟩
structure RecsAt (l : List UInt8) (rs : List Rc) (j sz : Nat) : Prop where
 len : rs.length = j
 le : j ≤ (scanB l).length
 told : rs.map pr ++ recs dec ((scanB l).drop j) = recs dec (scanB l)
 bytes : (rowsB ((scanB l).take j)).length = sz
theorem RecsAt.start (l : List UInt8) : RecsAt l [] 0 0 := ⟨rfl, Nat.zero_le _, by simp, by simp [rowsB]⟩
theorem RecsAt.room {l : List UInt8} {rs : List Rc} {j sz : Nat} (h : RecsAt l rs j sz) : sz ≤ l.length := by
 have := congrArg List.length (front_is l j)
 rw [List.length_take, h.bytes] at this
 omega
theorem RecsAt.step {l x : List UInt8} {rs : List Rc} {r : Rc} {j sz : Nat} (h : RecsAt l rs j sz) (hx : (scanB l)[j]? = some x) (hr : dec x = some (pr r)) : RecsAt l (rs ++ [r]) (j + 1) (sz + (x.length + 7)) := by
 obtain ⟨hj, he⟩ := List.getElem?_eq_some_iff.1 hx
 refine ⟨by simp [h.len], hj, ?_, ?_⟩
 ·rw [← h.told, List.drop_eq_getElem_cons hj, he, recs_some dec hr]
  simp
 ·rw [List.take_succ_eq_append_getElem hj, he, rows_append, laQ, h.bytes]
  simp [rowsB, wrapB_len]
theorem RecsAt.done {l : List UInt8} {rs : List Rc} {j sz : Nat} (h : RecsAt l rs j sz) (hx : (scanB l).length ≤ j ∨ ∃ x, (scanB l)[j]? = some x ∧ dec x = none) : rs.map pr = recs dec (scanB l) ∧ size dec l = sz := by
 have ht : rs.map pr = recs dec (scanB l) := by
  rw [← h.told]
  rcases hx with hx | ⟨x, hx, hn⟩
  ·rw [List.drop_of_length_le hx, recs_nil, List.append_nil]
  ·obtain ⟨hj, he⟩ := List.getElem?_eq_some_iff.1 hx
   rw [List.drop_eq_getElem_cons hj, he, recs_none dec hn, List.append_nil]
 refine ⟨ht, ?_⟩
 unfold wal.size
 rw [← ht, List.length_map, h.len, h.bytes]

theorem records_any (n c : Nat) (a : Option Addr) (l : List UInt8) (w : World) (hS : Sl w a n c l) (hn : n ≤ 1048576) :
  Calls Tryz.prog 25 #[.slice a n c] w fun e w' => ∃ v rs, e = .returned (.tuple #[v, .int .i64 (size dec l : Nat)]) ∧ RsOwn w.heap.size w' v rs ∧ rs.map pr = recs dec (scanB l) ∧ Below w.heap.size w w' := by
 obtain ⟨i0, hi, hz0, hz1, hz2⟩ := info_parts info_rec
 have hC1 := scan_any n c a l w hS (by omega)
 have HL : Aside (l.length = n ∧ ∀ x ∈ scanB l, x.length ≤ 60000) := ⟨hS.at_.len, scan_le l⟩
 clear hS
 go_enter Tryz.func25, Tryz.ntmps25
 go_wp2_with (go_at_call 48; refine hC1.mono ?_; rintro e w1 ⟨hv, ls, rfl, hrow, hmap, g1⟩; refine Hid.out ?_)
 refine hid ?_
 obtain ⟨ha, hc, he, -⟩ := hrow.lists
 subst he
 obtain ⟨q, hq⟩ : ∃ q, ls.length = q := ⟨_, rfl⟩
 rw [hq] at hrow ⊢
 have HM : Aside (ls.map (·.l) = scanB l ∧ ls.length = q ∧ q ≤ 1048576) := by
  refine ⟨hmap, hq, ?_⟩
  have h1 := congrArg List.length hmap
  rw [List.length_map, hq] at h1
  have h2 := rows_least (scanB l)
  obtain ⟨-, r, h3⟩ := scan_front l.length l (nrQ _)
  have h4 := congrArg List.length h3
  rw [laQ] at h4
  have := HL.out.1
  omega
 have H0 : Aside (RowOut w.heap.size w1 (.slice ha q hc) ls ∧ Below w.heap.size w w1) := ⟨hrow, g1⟩
 have hqm : q ≤ 1048576 := HM.out.2.2
 clear hC1 hrow hmap g1 hq
 go_wp2_with fail
 go_loopg [4, 5, 19] q (fun g1 vl vs vk wr => ∃ (j sz : Nat) (la : Option Addr) (lc : Nat), vl = .slice la j lc ∧ vs = .int .i64 sz ∧ vk = .int .i64 j ∧ j ≤ q ∧ q - j ≤ g1 ∧ sz ≤ n ∧ Aside (∃ rs, RsOwn w.heap.size wr (.slice la j lc) rs ∧ RecsAt l rs j sz ∧ RowOut w.heap.size wr (.slice ha q hc) ls ∧ Below w.heap.size w wr))
 case atStart => exact ⟨0, 0, none, 0, rfl, rfl, rfl, Nat.zero_le _, nrQ _, Nat.zero_le _, [], RsOwn.nil _ _, RecsAt.start l, H0.out.1, H0.out.2⟩
 case round =>
  clear H0
  obtain ⟨j, sz, la, lc, rfl, rfl, rfl, hj, hg1, hsz, SK⟩ := hrel
  obtain ⟨rs, hrs, hat, hrow, hb⟩ := SK.out
  clear SK
  by_cases hlt : j < q
  ·have hltz : (j : Int) < (q : Int) := by omega
   obtain ⟨-, b, off, hab, r0, hby, hlow, hcap⟩ := row_at hrow (j := j) (by rw [HM.out.2.1]; exact hlt)
   subst hab
   have hx : (scanB l)[j]? = some (ln ls j).l := by
    rw [← HM.out.1, List.getElem?_map, ln_eq (by rw [HM.out.2.1]; exact hlt)]
    simp [HM.out.2.1, hlt]
   have hxl : (ln ls j).l.length ≤ 60000 := HL.out.2 _ (List.mem_of_getElem? hx)
   obtain ⟨x, ex⟩ : ∃ x, (ln ls j).l = x := ⟨_, rfl⟩
   obtain ⟨xa, ea⟩ : ∃ x, (ln ls j).a = x := ⟨_, rfl⟩
   obtain ⟨xc, ec⟩ : ∃ x, (ln ls j).cap = x := ⟨_, rfl⟩
   have HJ : Aside ((ln ls j).l = x ∧ (ln ls j).a = xa ∧ (ln ls j).cap = xc) := ⟨ex, ea, ec⟩
   rw [ex] at r0 hby hlow hx hxl hcap
   rw [ea] at r0 hby hlow
   rw [ec] at r0 hcap
   clear ex ea ec
   have hsx : Sl wr xa x.length xc x := ⟨⟨hby, hlow, rfl, hcap⟩, by omega⟩
   obtain ⟨xl, hxl2⟩ : ∃ xl, x.length = xl := ⟨_, rfl⟩
   cases hd : dec x with
   | none =>
    have hC2 := decode_none wr xa x.length xc x hby hlow rfl hcap hxl hd
    have HE : Aside (RsOwn w.heap.size wr (.slice la j lc) rs ∧ rs.map pr = recs dec (scanB l) ∧ size dec l = sz ∧ Below w.heap.size w wr) := ⟨hrs, (hat.done (.inr ⟨x, hx, hd⟩)).1, (hat.done (.inr ⟨x, hx, hd⟩)).2, hb⟩
    rw [hxl2] at r0 hC2
    clear hrs hat hrow hb hby hlow hx hxl hsx hd hcap
    unfold code.recZ at hC2
    go_wp2_with (go_at_call 49; refine hC2.mono ?_; rintro e w2 ⟨rfl, g2⟩)
    go_ret2
    refine ⟨_, rs, by rw [HE.out.2.2.1]; rfl, HE.out.1.keep (g2.trans ?_), HE.out.2.1, HE.out.2.2.2.trans ((g2.trans ?_).mono HE.out.2.2.2.size)⟩ <;> exact (Below.refl _ _).alloc g2.size _
   | some y =>
    have hC2 := decode_own wr xa x.length xc x hby hlow rfl hcap hxl y hd
    have HE : Aside (RsOwn w.heap.size wr (.slice la j lc) rs ∧ RecsAt l rs j sz ∧ RowOut w.heap.size wr (.slice (some ⟨b, off, none⟩) q hc) ls ∧ Below w.heap.size w wr ∧ (scanB l)[j]? = some x ∧ dec x = some y ∧ Sl wr xa xl xc x) := ⟨hrs, hat, hrow, hb, hx, hd, by rw [← hxl2]; exact hsx⟩
    have hxl3 : xl ≤ 60000 := by omega
    rw [hxl2] at r0 hC2
    have HXL : Aside (x.length = xl) := hxl2
    clear hrs hat hrow hb hby hlow hx hxl hsx hd hcap hxl2
    go_wp2_with (go_at_call 49; refine hC2.mono ?_; rintro e w2 ⟨r, rfl, hpr, hO, g2⟩; refine Hid.out ?_)
    refine hid ?_
    unfold rcV rcC
    go_upto_region 8 with fail
    have b3 : Below w2.heap.size w2 (w2.alloc (.cells #[.int .u8 r.kind, .int .u32 r.id, .int .u32 r.at_, .slice r.na r.nodes.length r.nc, .slice r.fa r.facts.length r.fc, .int .u32 r.epoch, .slice r.sa r.spans.length r.sc, .int .i64 r.frm, .int .i64 r.til, .slice r.ea r.ents.length r.ec] 46)) := (Below.refl _ _).alloc (nrQ _) _
    have x3 := bytes.Boxed.new w2 #[.int .u8 r.kind, .int .u32 r.id, .int .u32 r.at_, .slice r.na r.nodes.length r.nc, .slice r.fa r.facts.length r.fc, .int .u32 r.epoch, .slice r.sa r.spans.length r.sc, .int .i64 r.frm, .int .i64 r.til, .slice r.ea r.ents.length r.ec] 46
    have b23 := g2.trans (b3.mono g2.size)
    have HS : Aside (RsOwn w.heap.size (w2.alloc (.cells #[.int .u8 r.kind, .int .u32 r.id, .int .u32 r.at_, .slice r.na r.nodes.length r.nc, .slice r.fa r.facts.length r.fc, .int .u32 r.epoch, .slice r.sa r.spans.length r.sc, .int .i64 r.frm, .int .i64 r.til, .slice r.ea r.ents.length r.ec] 46)) (.slice la j lc) rs ∧ OwnIn (w2.alloc (.cells #[.int .u8 r.kind, .int .u32 r.id, .int .u32 r.at_, .slice r.na r.nodes.length r.nc, .slice r.fa r.facts.length r.fc, .int .u32 r.epoch, .slice r.sa r.spans.length r.sc, .int .i64 r.frm, .int .i64 r.til, .slice r.ea r.ents.length r.ec] 46)) r ∧ RowOut w.heap.size (w2.alloc (.cells #[.int .u8 r.kind, .int .u32 r.id, .int .u32 r.at_, .slice r.na r.nodes.length r.nc, .slice r.fa r.facts.length r.fc, .int .u32 r.epoch, .slice r.sa r.spans.length r.sc, .int .i64 r.frm, .int .i64 r.til, .slice r.ea r.ents.length r.ec] 46)) (.slice (some ⟨b, off, none⟩) q hc) ls ∧ Below w.heap.size w (w2.alloc (.cells #[.int .u8 r.kind, .int .u32 r.id, .int .u32 r.at_, .slice r.na r.nodes.length r.nc, .slice r.fa r.facts.length r.fc, .int .u32 r.epoch, .slice r.sa r.spans.length r.sc, .int .i64 r.frm, .int .i64 r.til, .slice r.ea r.ents.length r.ec] 46)) ∧ Sl (w2.alloc (.cells #[.int .u8 r.kind, .int .u32 r.id, .int .u32 r.at_, .slice r.na r.nodes.length r.nc, .slice r.fa r.facts.length r.fc, .int .u32 r.epoch, .slice r.sa r.spans.length r.sc, .int .i64 r.frm, .int .i64 r.til, .slice r.ea r.ents.length r.ec] 46)) xa xl xc x ∧ dec x = some (pr r)) :=
     ⟨HE.out.1.keep b23, rc_keep hO b3, HE.out.2.2.1.keep b23, HE.out.2.2.2.1.trans (b23.mono HE.out.2.2.2.1.size), HE.out.2.2.2.2.2.2.keep b23, by rw [hpr]; exact HE.out.2.2.2.2.2.1⟩
    have HA : Aside (RecsAt l rs j sz ∧ (scanB l)[j]? = some x) := ⟨HE.out.2.1, HE.out.2.2.2.2.1⟩
    obtain ⟨X, hX⟩ : ∃ X, w2.heap.size = X := ⟨_, rfl⟩
    rw [hX] at x3 ⊢
    generalize w2.alloc (.cells #[.int .u8 r.kind, .int .u32 r.id, .int .u32 r.at_, .slice r.na r.nodes.length r.nc, .slice r.fa r.facts.length r.fc, .int .u32 r.epoch, .slice r.sa r.spans.length r.sc, .int .i64 r.frm, .int .i64 r.til, .slice r.ea r.ents.length r.ec] 46) = w3 at x3 HS ⊢
    have c0 := x3.cell (j := 0) rfl
    have c1 := x3.cell (j := 1) rfl
    have c2 := x3.cell (j := 2) rfl
    have c3 := x3.cell (j := 3) rfl
    have c4 := x3.cell (j := 4) rfl
    have c5 := x3.cell (j := 5) rfl
    have c6 := x3.cell (j := 6) rfl
    have c7 := x3.cell (j := 7) rfl
    have c8 := x3.cell (j := 8) rfl
    have c9 := x3.cell (j := 9) rfl
    have hown : w3.ownsRow w.heap.size 46 10 (.slice la j lc) j (rs.flatMap rcL) := by have := HS.out.1.own; rwa [HA.out.1.len] at this
    have hbase : w.heap.size ≤ w3.heap.size := HS.out.2.2.2.1.size
    clear HE hC2 hpr hO g2 b3 x3 b23 hX r0
    go_wp2_with (at_builtin; refine wpList_append_lies _ rfl _ _ 31 rfl w.heap.size 46 i0 _ 10 136 Tryz.underlying31 hi hz0 hz1 hz2 rfl (by decide) _ j _ rfl (hown.alloc _) ⟨w3.heap.size, 0, none⟩ 1 1 (rcL r) rfl rfl (cells_rec_new w3 r _) (rcL_cell r) (by omega) (by unfold maxLen; omega) (by omega) (by simp; omega) (w3.heap.size + 1) (by simp) ?_; intro g3 c3' w4 hown4 hgr4 hat4 hlt4; refine Hid.out ?_)
    refine hid ?_
    have hfar : ∀ o e, 46 ≠ e → Far (w3.alloc o) (Value.slice la j lc).ownBlock e := fun o e he => far_row (World.ownsRow.alloc hown o) he
    have g4 : ∀ o, (w3.alloc o).grownBy w4 (Value.slice la j lc).ownBlock → Below w.heap.size w w4 := fun o hg => (HS.out.2.2.2.1.alloc hbase o).grown hg (by simp; omega) fun q hq => (World.ownsRow.lt hown _ hq).1
    have ha3 : ∀ o, Below w3.heap.size w3 (w3.alloc o) := fun o => (Below.refl _ _).alloc (nrQ _) o
    have hrow4 := row_farR (HS.out.2.2.1.keep (ha3 _)) hgr4 (hfar _ _ (by decide)) (hfar _ _ (by decide))
    have hs4 : Sl w4 xa xl xc x := by
     obtain ⟨-, _, _, -, -, p1, p2, p3⟩ := row_at hrow4 (j := j) (by rw [HM.out.2.1]; exact hlt)
     rw [HJ.out.1, HJ.out.2.1] at p1 p2
     rw [HJ.out.1, HJ.out.2.2] at p3
     have := HXL.out
     exact ⟨⟨p1, p2, this, by omega⟩, by omega⟩
    have HS4 : Aside (RsOwn w.heap.size w4 (.slice (some ⟨g3, 0, none⟩) (j + 1) c3') (rs ++ [r]) ∧ RecsAt l (rs ++ [r]) (j + 1) (sz + (xl + 7)) ∧ RowOut w.heap.size w4 (.slice (some ⟨b, off, none⟩) q hc) ls ∧ Below w.heap.size w w4) :=
     ⟨HS.out.1.push HS.out.2.1 HA.out.1.len hown4 hgr4, by have := HA.out.1.step HA.out.2 HS.out.2.2.2.2.2; rwa [HXL.out] at this, hrow4, g4 _ hgr4⟩
    have hC3 := sizeOf_any xl xc (xl + 7) xa x w4 hs4 hxl3 rfl
    have hsz2 : sz + (xl + 7) ≤ n := by have := HS4.out.2.1.room; rw [HL.out.1] at this; exact this
    clear hown hown4 hgr4 hat4 hlt4 hfar g4 ha3 hrow4 hs4 c0 c1 c2 c3 c4 c5 c6 c7 c8 c9 HS HA
    go_wp2_with (go_at_call 50; refine hC3.mono ?_; rintro e w5 ⟨rfl, g5⟩)
    have S5 : Aside (∃ rs, RsOwn w.heap.size w5 (.slice (some ⟨g3, 0, none⟩) (j + 1) c3') rs ∧ RecsAt l rs (j + 1) (sz + (xl + 7)) ∧ RowOut w.heap.size w5 (.slice (some ⟨b, off, none⟩) q hc) ls ∧ Below w.heap.size w w5) :=
     ⟨rs ++ [r], HS4.out.1.keep g5, HS4.out.2.1, HS4.out.2.2.1.keep g5, HS4.out.2.2.2.trans (g5.mono HS4.out.2.2.2.size)⟩
    clear HS4 hC3 g5
    go_roundg (q - (j + 1))
    case measure => omega
    case rel => exact ⟨j + 1, sz + (xl + 7), _, _, rfl, by go_num, by go_num, by omega, by omega, hsz2, S5⟩
  ·have hltz : ¬ (j : Int) < (q : Int) := by omega
   have HE : Aside (RsOwn w.heap.size wr (.slice la j lc) rs ∧ rs.map pr = recs dec (scanB l) ∧ size dec l = sz ∧ Below w.heap.size w wr) := by
    have hd := hat.done (.inl (by have := congrArg List.length HM.out.1; rw [List.length_map, HM.out.2.1] at this; omega))
    exact ⟨hrs, hd.1, hd.2, hb⟩
   clear hrs hat hrow hb
   go_wp2
   go_ret2
   exact ⟨_, by rw [HE.out.2.2.1]; rfl, rs, HE.out.1, HE.out.2.1, HE.out.2.2.2⟩
end wal
namespace wal
open code (Rc PRec pr rcC rcV RecIn OwnIn sndRec recB dec)
open bytes
open disk
open frame (scanB rowsB wrapB wrapB_len)
def keepD (f : Nat) (d : Dk) : Dk × Nat :=
 if f < d.b.length then (if (cut (f : Nat) d).2 ≠ 0 then cut (f : Nat) d else sync (cut (f : Nat) d).1) else sync d
section
variable {B k : Nat} {P : World → Dk → Prop}
theorem keep_any (hD : Dsk B k P) (w : World) (d : Dk) (h f n : Nat) (hp : P w d) (hx : bytes.Boxed w h #[.pointer (some ⟨k, 0, none⟩)] 67) (hn : d.b.length = n) :
  Calls Tryz.prog 26 #[.pointer (some ⟨h, 0, none⟩), .int .i64 (f : Nat), .int .i64 (n : Nat)] w fun e w' => e = .returned (.int .u16 ((keepD f d).2 : Nat)) ∧ P w' (keepD f d).1 ∧ Stay B w w' := by
 have c1 := hx.cell (j := 0) rfl
 have HD : Aside (Dsk B k P) := hD
 have HX : Aside (bytes.Boxed w h #[.pointer (some ⟨k, 0, none⟩)] 67) := hx
 by_cases hlt : f < n
 ·have hltz : (f : Int) < (n : Int) := by omega
  have hC1 := hD.hCut w d (f : Nat) hp
  obtain ⟨E1, hE1⟩ : ∃ E1 : Int, (((cut (f : Nat) d).2 : Nat) : Int) = E1 := ⟨_, rfl⟩
  rw [hE1] at hC1
  by_cases hz : E1 = 0
  ·subst hz
   have HK : Aside (keepD f d = sync (cut (f : Nat) d).1) := by show _ = _; unfold keepD; rw [if_pos (by omega), if_neg (by omega)]
   clear hE1 hp hD hx
   generalize (cut (f : Nat) d).1 = d1 at hC1 HK
   go_enter Tryz.func26, Tryz.ntmps26
   go_wp2_with (go_at_call 37; refine hC1.mono ?_; rintro e w1 ⟨rfl, hp1, s1⟩; refine Hid.out ?_)
   refine hid ?_
   have c2 := (s1.boxes _ _ _ HX.out kt_log).cell (j := 0) rfl
   have hC2 := HD.out.hSync w1 d1 hp1
   have HS : Aside (Stay B w w1) := s1
   clear hC1 hp1 s1 c1
   go_wp2_with (go_at_call 36; refine hC2.mono ?_; rintro e w2 ⟨rfl, hp2, s2⟩)
   go_ret
   rw [HK.out]
   exact ⟨rfl, hp2, HS.out.trans s2⟩
  ·have HK : Aside (keepD f d = cut (f : Nat) d ∧ (((cut (f : Nat) d).2 : Nat) : Int) = E1) := ⟨by unfold keepD; rw [if_pos (by omega), if_pos (by omega)], hE1⟩
   clear hE1 hp hD hx
   go_enter Tryz.func26, Tryz.ntmps26
   go_wp2_with (go_at_call 37; refine hC1.mono ?_; rintro e w1 ⟨rfl, hp1, s1⟩)
   go_ret
   rw [HK.out.1, HK.out.2]
   exact ⟨rfl, hp1, s1⟩
 ·have hltz : ¬ (f : Int) < (n : Int) := by omega
  have hC1 := hD.hSync w d hp
  have HK : Aside (keepD f d = sync d) := by show _ = _; unfold keepD; rw [if_neg (by omega)]
  clear hp hD hx
  go_enter Tryz.func26, Tryz.ntmps26
  go_wp2_with (go_at_call 36; refine hC1.mono ?_; rintro e w1 ⟨rfl, hp1, s1⟩)
  go_ret
  rw [HK.out]
  exact ⟨rfl, hp1, s1⟩

def OpenOut (B0 k : Nat) (d : Dk) (e : Ending) (w' : World) : Prop :=
 ((openD dec d).2 = 0 ∧ ∃ h v rs, e = .returned (.tuple #[.pointer (some ⟨h, 0, none⟩), v, .int .u16 0]) ∧ bytes.Boxed w' h #[.pointer (some ⟨k, 0, none⟩)] 67 ∧ RsOwn B0 w' v rs ∧ rs.map pr = recs dec (scanB d.b)) ∨
 ((openD dec d).2 ≠ 0 ∧ e = .returned (.tuple #[.pointer none, .slice none 0 0, .int .u16 ((openD dec d).2 : Nat)]))
theorem open_any (hD : Dsk B k P) (w : World) (d : Dk) (hp : P w d) :
  Calls Tryz.prog 9 #[.pointer (some ⟨k, 0, none⟩)] w fun e w' => OpenOut w.heap.size k d e w' ∧ P w' (openD dec d).1 ∧ Stay B w w' := by
 have hB : Below w.heap.size w (w.alloc (.cells #[.pointer (some ⟨k, 0, none⟩)] 67)) := (Below.refl _ _).alloc (nrQ _) _
 have hx0 := bytes.Boxed.new w #[.pointer (some ⟨k, 0, none⟩)] 67
 have hp0 := hD.keep _ _ _ hp hB
 have hC1 := hD.hRead _ _ hp0
 have HD : Aside (Dsk B k P) := hD
 have HF : Aside (Fit d) := hD.fit _ _ hp
 have hbm : d.b.length ≤ 1048576 := ntQ HF.out.len HF.out.room
 have hbase := hD.base _ _ hp
 clear hp hD
 go_enter Tryz.func9, Tryz.ntmps9
 go_wp2_with (go_at_call 21; refine hC1.mono ?_; rintro e w1 ⟨a, c, rfl, hS, g1⟩; refine Hid.out ?_)
 refine hid ?_
 have g01 := hB.trans (g1.mono hB.size)
 have HX1 : Aside (bytes.Boxed w1 w.heap.size #[.pointer (some ⟨k, 0, none⟩)] 67 ∧ P w1 d ∧ Below w.heap.size w w1 ∧ B ≤ w.heap.size) := ⟨hx0.below g1, HD.out.keep _ _ _ hp0 g1, g01, hbase⟩
 have hC2 := records_any _ c a d.b w1 hS hbm
 have HSZ : Aside (size dec d.b ≤ d.b.length ∧ openD dec d = keepD (size dec d.b) d) := ⟨size_le dec d.b, rfl⟩
 obtain ⟨n, hn⟩ : ∃ n, d.b.length = n := ⟨_, rfl⟩
 rw [hn] at hC2 ⊢
 clear hB hx0 hp0 hC1 hS g1 g01 hbm hbase
 go_wp2_with (go_at_call 25; refine hC2.mono ?_; rintro e w2 ⟨v, rs, rfl, hrs, hpr, g2⟩; refine Hid.out ?_)
 refine hid ?_
 obtain ⟨va, vc, hv⟩ := hrs.len
 subst hv
 have HX2 : Aside (bytes.Boxed w2 w.heap.size #[.pointer (some ⟨k, 0, none⟩)] 67 ∧ RsOwn w.heap.size w2 (.slice va rs.length vc) rs ∧ rs.map pr = recs dec (scanB d.b) ∧ Stay B w w2) := ⟨HX1.out.1.below g2, ⟨own_mono hrs.own HX1.out.2.2.1.size, hrs.all⟩, hpr, Stay.of_below (HX1.out.2.2.1.trans (g2.mono HX1.out.2.2.1.size)) HX1.out.2.2.2⟩
 have hC3 := keep_any HD.out w2 d w.heap.size (size dec d.b) n (HD.out.keep _ _ _ HX1.out.2.1 g2) HX2.out.1 hn
 rw [← HSZ.out.2] at hC3
 obtain ⟨E, hE⟩ : ∃ E : Int, (((openD dec d).2 : Nat) : Int) = E := ⟨_, rfl⟩
 rw [hE] at hC3
 obtain ⟨rl, hrl⟩ : ∃ rl, rs.length = rl := ⟨_, rfl⟩
 rw [hrl] at HX2 ⊢
 clear hC2 hrs hpr g2 HX1 HSZ hrl
 by_cases hz : E = 0
 ·subst hz
  go_wp2_with (go_at_call 26; refine hC3.mono ?_; rintro e w3 ⟨rfl, hp3, s3⟩)
  go_ret3
  exact ⟨.inl ⟨by omega, w.heap.size, _, rs, rfl, s3.boxes _ _ _ HX2.out.1 kt_log, HX2.out.2.1.stay s3, HX2.out.2.2.1⟩, hp3, HX2.out.2.2.2.trans s3⟩
 ·have HE : Aside ((openD dec d).2 ≠ 0 ∧ (((openD dec d).2 : Nat) : Int) = E) := ⟨by omega, hE⟩
  clear hE
  go_wp2_with (go_at_call 26; refine hC3.mono ?_; rintro e w3 ⟨rfl, hp3, s3⟩)
  go_ret3
  exact ⟨.inr ⟨HE.out.1, by rw [HE.out.2]; rfl⟩, hp3, HX2.out.2.2.2.trans s3⟩
end
end wal
namespace wal
open code (Rc PRec pr rcC rcV RecIn OwnIn sndRec recB dec Far)
open bytes
open disk
open frame (scanB rowsB wrapB wrapB_len)
def One (B k : Nat) (w : World) (d : Dk) : Prop := ∃ v, DkIn 65 B w k v d
section
variable {B k : Nat} {w : World} {d d' : Dk}
theorem one_stay {x : Ending} {F : FuncId} {args : Array Value} (h : One B k w d) (hop : ∀ v, DkIn 65 B w k v d → Calls Tryz.prog F args w fun e w' => e = x ∧ ∃ v', DkIn 65 B w' k v' d' ∧ Gd k w v w' v') :
  Calls Tryz.prog F args w fun e w' => e = x ∧ One B k w' d' ∧ Stay B w w' := by
 obtain ⟨v, h1⟩ := h
 refine (hop v h1).mono ?_
 rintro e w' ⟨he, v', h3, g⟩
 exact ⟨he, ⟨v', h3⟩, Stay.of_gd h1 g⟩
theorem dsk_one (B k : Nat) : Dsk B k (One B k) where
 base := fun w d ⟨v, h⟩ => h.base
 fit := fun w d ⟨v, h⟩ => h.fit
 keep := fun w w' d ⟨v, h⟩ hb => ⟨v, h.keep hb⟩
 hApp := fun w d a n c y h hS _ => one_stay h fun v hv => append_any B k n c a y v d w hv hS
 hSync := fun w d h => one_stay h fun v hv => sync_any B k v d w hv
 hCut := fun w d n h => one_stay h fun v hv => cut_any B k n v d w hv
 hRead := fun w d ⟨v, h⟩ => (read_any B k v d w h).mono fun e w' ⟨v', he, ho, hb⟩ => by
  have hl := h.len_max
  obtain ⟨a, c, hv, hS⟩ := ho.sl (by omega)
  exact ⟨a, c, by rw [he, hv], hS, hb⟩
theorem One.grow {w' : World} {row : Option Nat} (h : One B k w d) (hg : w.grownBy w' row) (h1 : Far w row 65) (h2 : Far w row 5) : One B k w' d := by
 obtain ⟨v, h⟩ := h
 refine ⟨v, ?_, h.low, code.own_far h.own hg h2, h.fit⟩
 have hb : w.heap[k]? = _ := h.box
 have hne : some k ≠ row := fun e => h1 k _ _ _ e.symm hb rfl
 exact (hg.block k h.lt hne).trans hb
theorem crash_one (h : One B k w d) (n : Int) : Calls Tryz.prog 18 #[.pointer (some ⟨k, 0, none⟩), .int .i64 n] w fun e w' => e = .returned (.tuple #[]) ∧ One B k w' (crash n d) ∧ Stay B w w' := one_stay h fun v hv => crash_any B k n v d w hv
theorem new_one (m : Nat) (hm : m ≤ 1048576) (hB : B ≤ w.heap.size) : Calls Tryz.prog 7 #[.int .i64 (m : Nat)] w fun e w' => e = .returned (.pointer (some ⟨w.heap.size, 0, none⟩)) ∧ One B w.heap.size w' (new m) ∧ Below w.heap.size w w' :=
 (new_any B m w hm hB).mono fun e w' ⟨h1, h2, h3⟩ => ⟨h1, ⟨_, h2⟩, h3⟩

end

/-! ### a log, plain: what the statements ask -/
theorem open_yes {B k : Nat} {P : World → Dk → Prop} (hD : Dsk B k P) (w : World) (d : Dk) (hp : P w d) (d' : Dk) (h0 : openD dec d = (d', 0)) :
  Calls Tryz.prog 9 #[.pointer (some ⟨k, 0, none⟩)] w fun e w' => ∃ h va vc rs, e = .returned (.tuple #[.pointer (some ⟨h, 0, none⟩), .slice va rs.length vc, .int .u16 0]) ∧ bytes.Boxed w' h #[.pointer (some ⟨k, 0, none⟩)] 67 ∧ RsOwn w.heap.size w' (.slice va rs.length vc) rs ∧ rs.map pr = recs dec (scanB d.b) ∧ P w' d' ∧ Stay B w w' := by
 refine (open_any hD w d hp).mono fun e w' ⟨ho, h1, h2⟩ => ?_
 unfold OpenOut at ho
 rw [h0] at ho h1
 rcases ho with ⟨-, h, v, rs, he, hx, hrs, hpr⟩ | ⟨hn, -⟩
 ·obtain ⟨va, vc, hv⟩ := hrs.len
  rw [hv] at hrs he
  exact ⟨h, va, vc, rs, he, hx, hrs, hpr, h1, h2⟩
 ·exact absurd rfl hn
theorem force_room {rs : List PRec} {d : Dk} (h : LogIs recB rs d) (hl : d.left = -1) (x : PRec) (hr : d.b.length + (wrapB (recB x)).length ≤ d.room) : forceD recB x d = (⟨logB recB (rs ++ [x]), (logB recB (rs ++ [x])).length, d.room, -1⟩, 0) := by
 have ea : disk.app (wrapB (recB x)) d = (⟨logB recB (rs ++ [x]), d.lasts, d.room, -1⟩, 0) := by rw [app_free hl hr, h.bytes, log_append, log_one]
 unfold forceD
 rw [ea]
 simp only [ne_eq, not_true_eq_false, if_false]
 rw [sync_free rfl]
 simp
theorem lazy_room {rs : List PRec} {d : Dk} (h : d.b = logB recB rs) (hl : d.left = -1) (x : PRec) (hr : d.b.length + (wrapB (recB x)).length ≤ d.room) : lazyD recB x d = (⟨logB recB (rs ++ [x]), d.lasts, d.room, -1⟩, 0) := by
 unfold lazyD
 rw [app_free hl hr, h, log_append, log_one]
theorem open_new (m : Nat) : openD dec (new m) = (⟨[], 0, m, -1⟩, 0) := by
 have := open_free (D := dec) (d := new m) rfl (Nat.zero_le _)
 rw [this]
 simp [new]
theorem log_new (m : Nat) : LogIs recB [] (⟨[], 0, m, -1⟩ : Dk) := ⟨rfl, rfl⟩
end wal
namespace wal
open code (hid_rc calls_rc Rc PRec pr rcC rcV RecIn OwnIn Far own_far far_row sndRec recB recZ dec encE refEncode_snd refEncode_no snd_ents snd_small)
open bytes
open disk
open frame (scanB rowsB wrapB wrapB_len refWrap_any)
theorem kt_rlog : Kt 79 := by unfold Kt; decide
theorem Stay.of_stp {B : Nat} {w w' : World} (h : Stp B w w') : Stay B w w' := ⟨h.below, fun b cs t hb ht => h.boxes b cs t hb ht.2.1 ht.2.2 ht.1⟩
structure RDsk (B k : Nat) (P : World → Dk → Prop) : Prop where
 base : ∀ w d, P w d → B ≤ w.heap.size
 fit : ∀ w d, P w d → Fit d
 keep : ∀ w w' d, P w d → Below w.heap.size w w' → P w' d
 grow : ∀ w w' d row, P w d → w.grownBy w' row → Far w row 65 → Far w row 57 → Far w row 5 → P w' d
 cell : ∀ w d, P w d → ∃ a c, w.cell? ⟨k, 0, none⟩ = some (.slice a d.b.length c) ∧ Sl w a d.b.length c d.b
 hApp : ∀ w d a n c y, P w d → Sl w a n c y → n ≤ 1000000 → Calls Tryz.prog 23 #[.pointer (some ⟨k, 0, none⟩), .slice a n c] w fun e w' => e = .returned (.int .i64 ((app y d).2 : Nat)) ∧ P w' (app y d).1 ∧ Stay B w w'
 hSync : ∀ w d, P w d → Calls Tryz.prog 31 #[.pointer (some ⟨k, 0, none⟩)] w fun e w' => e = .returned (.int .i64 ((sync d).2 : Nat)) ∧ P w' (sync d).1 ∧ Stay B w w'
 hCut : ∀ w d (n : Int), P w d → Calls Tryz.prog 30 #[.pointer (some ⟨k, 0, none⟩), .int .i64 n] w fun e w' => e = .returned (.int .i64 ((cut n d).2 : Nat)) ∧ P w' (cut n d).1 ∧ Stay B w w'
 hRead : ∀ w d, P w d → Calls Tryz.prog 28 #[.pointer (some ⟨k, 0, none⟩)] w fun e w' => ∃ a c, e = .returned (.slice a d.b.length c) ∧ Sl w' a d.b.length c d.b ∧ Below w.heap.size w w'
theorem refRead_any (B k : Nat) (v : Value) (d : Dk) (w : World) (h : DkIn 57 B w k v d) :
  Calls Tryz.prog 28 #[.pointer (some ⟨k, 0, none⟩)] w fun e w' => ∃ a c, e = .returned (.slice a d.b.length c) ∧ Sl w' a d.b.length c d.b ∧ Below w.heap.size w w' := by
 have hl := h.len_max
 obtain ⟨va, vc, hv, hS⟩ := h.own.sl (by omega)
 subst hv
 have c0 := h.c0
 clear h
 obtain ⟨q, hq⟩ : ∃ q, d.b.length = q := ⟨_, rfl⟩
 rw [hq] at hS c0 hl ⊢
 clear hq
 generalize d.b = y at hS ⊢
 go_enter Tryz.func28, Tryz.ntmps28
 go_wp2_with (at_builtin; refine wpList_bytes rfl (.tmp 4) (.tmp 8) rfl w.heap.size (.slice none 0 0) [] rfl (Bs.none _ _) va q vc y rfl hS q (by simp) (by omega) (nrQ _) ?_; intro a' c' w' hb' hg')
 go_ret
 have hb2 : Bs w.heap.size w' (.slice a' q c') y := hb'
 obtain ⟨a2, c2, e, hS2⟩ := hb2.sl (by rw [hS.at_.len]; omega)
 injection e with e1 e2 e3
 subst e1 e3
 rw [hS.at_.len] at hS2
 exact ⟨_, _, rfl, hS2, hg'.below (Bs.none _ _) (nrQ _)⟩
theorem two_grow {B k1 k2 : Nat} {w w' : World} {d r : Dk} {row : Option Nat} (h : Two B w k1 k2 d r) (hg : w.grownBy w' row) (h1 : Far w row 65) (h2 : Far w row 57) (h3 : Far w row 5) : Two B w' k1 k2 d r := by
 obtain ⟨v1, v2, p1, p2, ap⟩ := h
 have b1 : w.heap[k1]? = _ := p1.box
 have b2 : w.heap[k2]? = _ := p2.box
 exact ⟨v1, v2, ⟨(hg.block k1 p1.lt fun e => h1 k1 _ _ _ e.symm b1 rfl).trans b1, p1.low, own_far p1.own hg h3, p1.fit⟩, ⟨(hg.block k2 p2.lt fun e => h2 k2 _ _ _ e.symm b2 rfl).trans b2, p2.low, own_far p2.own hg h3, p2.fit⟩, ap⟩
theorem dsk_two (B k1 k2 : Nat) (r : Dk) : Dsk B k1 (fun w d => Two B w k1 k2 d r) where
 base := fun w d h => h.base
 fit := fun w d h => h.fit
 keep := fun w w' d h hb => h.keep hb
 hApp := fun w d a n c y h hS _ => (app_l h hS).mono fun e w' ⟨h1, h2, h3⟩ => ⟨h1, h2, .of_stp h3⟩
 hSync := fun w d h => (sync_l h).mono fun e w' ⟨h1, h2, h3⟩ => ⟨h1, h2, .of_stp h3⟩
 hCut := fun w d n h => (cut_l h n).mono fun e w' ⟨h1, h2, h3⟩ => ⟨h1, h2, .of_stp h3⟩
 hRead := fun w d h => (read_l h).mono fun e w' ⟨v', he, ho, hb⟩ => by
  have hl := h.len
  obtain ⟨a, c, hv, hS⟩ := ho.sl (by omega)
  exact ⟨a, c, by rw [he, hv], hS, hb⟩
theorem rdsk_two (B k1 k2 : Nat) (d : Dk) : RDsk B k2 (fun w r => Two B w k1 k2 d r) where
 base := fun w r h => h.base
 fit := fun w r ⟨v1, v2, h1, h2, ap⟩ => h2.fit
 keep := fun w w' r h hb => h.keep hb
 grow := fun w w' r row h hg h1 h2 h3 => two_grow h hg h1 h2 h3
 cell := fun w r ⟨v1, v2, h1, h2, ap⟩ => by
  have hl := h2.len_max
  obtain ⟨a, c, hv, hS⟩ := h2.own.sl (by omega)
  exact ⟨a, c, by rw [← hv]; exact h2.c0, hS⟩
 hApp := fun w r a n c y h hS hn => (app_r h hS (by omega)).mono fun e w' ⟨h1, h2, h3⟩ => ⟨h1, h2, .of_stp h3⟩
 hSync := fun w r h => (sync_r h).mono fun e w' ⟨h1, h2, h3⟩ => ⟨h1, h2, .of_stp h3⟩
 hCut := fun w r n h => (cut_r h n).mono fun e w' ⟨h1, h2, h3⟩ => ⟨h1, h2, .of_stp h3⟩
 hRead := fun w r ⟨v1, v2, h1, h2, ap⟩ => refRead_any B k2 v2 r w h2
theorem refEncode_all (w : World) (r : Rc) (hR : RecIn w r) : Calls Tryz.prog 34 #[.agg #[.int .u8 r.kind, .int .u32 r.id, .int .u32 r.at_, .slice r.na r.nodes.length r.nc, .slice r.fa r.facts.length r.fc, .int .u32 r.epoch, .slice r.sa r.spans.length r.sc, .int .i64 r.frm, .int .i64 r.til, .slice r.ea r.ents.length r.ec]] w fun e w' => ∃ v, e = .returned (.tuple #[v, .int .i64 (encN (pr r) : Nat)]) ∧ (encN (pr r) = 0 → Bs w.heap.size w' v (recB (pr r))) ∧ (encN (pr r) ≠ 0 → v = .slice none 0 0) ∧ Below w.heap.size w w' := by
 by_cases hs : sndRec (pr r) = true
 ·refine (refEncode_snd w r hR hs (snd_ents r hs) (snd_small r hs)).mono fun e w' ⟨v, h1, h2, h3⟩ => ?_
  unfold encE at h1
  by_cases hl : (recB (pr r)).length ≤ 60000
  ·have e : encN (pr r) = 0 := by unfold encN; rw [if_pos hs, if_pos hl]
   rw [if_pos hl] at h1
   rw [e]; exact ⟨v, h1, fun _ => h2, fun h => absurd rfl h, h3⟩
  ·have e : encN (pr r) = 3 := by unfold encN; rw [if_pos hs, if_neg hl]
   rw [if_neg hl] at h1
   rw [e]; exact ⟨_, h1, fun h => by omega, fun _ => rfl, h3⟩
 ·have e : encN (pr r) = 1 := by unfold encN; rw [if_neg hs]
  rw [e]; exact (refEncode_no w r hR (by simpa using hs)).mono fun e w' ⟨h1, h3⟩ => ⟨_, h1, fun h => by omega, fun _ => rfl, h3⟩

section
variable {B k : Nat} {P : World → Dk → Prop}
theorem refLazy_any (hD : RDsk B k P) (w : World) (d : Dk) (h : Nat) (r : Rc) (hp : P w d) (hx : bytes.Boxed w h #[.pointer (some ⟨k, 0, none⟩)] 79) (hR : RecIn w r) :
  Calls Tryz.prog 13 #[.pointer (some ⟨h, 0, none⟩), rcV r] w fun e w' => e = .returned (.int .i64 ((lazyR (pr r) d).2 : Nat)) ∧ P w' (lazyR (pr r) d).1 ∧ Stay B w w' := by
 have hB : Below w.heap.size w (w.alloc (.cells (rcC r) 46)) := (Below.refl _ _).alloc (nrQ _) _
 have hC1 := refEncode_all _ r (hR.keep hB)
 have hx0 := hx.below hB
 have hp0 := hD.keep _ _ _ hp hB
 generalize hW0 : w.alloc (.cells (rcC r) 46) = W0 at hB hC1 hx0 hp0
 have HW := hid_rc r hW0
 have HB : Aside (Stay B w W0 ∧ P W0 d ∧ B ≤ w.heap.size) := ⟨Stay.of_below hB (hD.base _ _ hp), hp0, hD.base _ _ hp⟩
 have HD : Aside (RDsk B k P) := hD
 have HX : Aside (bytes.Boxed W0 h #[.pointer (some ⟨k, 0, none⟩)] 79) := hx0
 clear hW0 hR hB hp hp0 hx hx0 hD
 show Calls _ _ #[.pointer (some ⟨h, 0, none⟩), .agg #[.int .u8 r.kind, .int .u32 r.id, .int .u32 r.at_, .slice r.na r.nodes.length r.nc, .slice r.fa r.facts.length r.fc, .int .u32 r.epoch, .slice r.sa r.spans.length r.sc, .int .i64 r.frm, .int .i64 r.til, .slice r.ea r.ents.length r.ec]] _ _
 rcases encN_three (pr r) with hz | hz | hz
 rotate_left
 ·have hE : Aside (lazyR (pr r) d = (d, 1)) := by show _ = _; rw [lazyR_no (by omega), hz]
  rw [hz] at hC1
  go_enter Tryz.func13, Tryz.ntmps13
  go_wp2_with fail
  rw [HW.out]
  refine hC1.mono ?_
  rintro e w1 ⟨v, rfl, -, -, g1⟩
  clear hC1
  go_wp2
  go_ret
  rw [hE.out]
  exact ⟨rfl, HD.out.keep _ _ _ HB.out.2.1 g1, HB.out.1.trans (Stay.of_below g1 (ntQ HB.out.2.2 HB.out.1.below.size))⟩
 ·have hE : Aside (lazyR (pr r) d = (d, 3)) := by show _ = _; rw [lazyR_no (by omega), hz]
  rw [hz] at hC1
  go_enter Tryz.func13, Tryz.ntmps13
  go_wp2_with fail
  rw [HW.out]
  refine hC1.mono ?_
  rintro e w1 ⟨v, rfl, -, -, g1⟩
  clear hC1
  go_wp2
  go_ret
  rw [hE.out]
  exact ⟨rfl, HD.out.keep _ _ _ HB.out.2.1 g1, HB.out.1.trans (Stay.of_below g1 (ntQ HB.out.2.2 HB.out.1.below.size))⟩
 ·have hl0 := (encN_ok hz).2
  have hl : (wrapB (recB (pr r))).length ≤ 1000000 := by rw [wrapB_len]; omega
  have hE : Aside (lazyR (pr r) d = app (wrapB (recB (pr r))) d) := by show _ = _; unfold lazyR; rw [if_pos hz]
  rw [hz] at hC1
  go_enter Tryz.func13, Tryz.ntmps13
  go_wp2_with fail
  rw [HW.out]
  refine hC1.mono ?_
  rintro e w1 ⟨v, rfl, hown, -, g1⟩
  obtain ⟨va, vc, hv, hS⟩ := Bs.sl (hown (by simp)) (by omega)
  subst hv
  have hC2 := refWrap_any _ _ _ _ w1 hS hl0
  have HS : Aside (Stay B w w1 ∧ P w1 d ∧ bytes.Boxed w1 h #[.pointer (some ⟨k, 0, none⟩)] 79) := ⟨HB.out.1.trans (Stay.of_below g1 (ntQ HB.out.2.2 HB.out.1.below.size)), HD.out.keep _ _ _ HB.out.2.1 g1, HX.out.below g1⟩
  clear hC1 hown hS g1
  go_wp2_with (go_at_call 35; refine hC2.mono ?_; rintro e w2 ⟨v2, rfl, hown2, g2⟩; refine Hid.out ?_)
  refine hid ?_
  obtain ⟨wa, wc, hv2, hS2⟩ := hown2.sl (by omega)
  subst hv2
  have c1 := (HS.out.2.2.below g2).cell (j := 0) rfl
  have hC3 := HD.out.hApp w2 d wa _ wc _ (HD.out.keep _ _ _ HS.out.2.1 g2) hS2 hl
  have HS2 : Aside (Stay B w w2) := HS.out.1.trans (Stay.of_below g2 (HD.out.base _ _ HS.out.2.1))
  clear hC2 hown2 hS2 g2 hl hl0
  go_wp2_with (go_at_call 23; refine hC3.mono ?_; rintro e w3 ⟨rfl, hp3, s3⟩)
  go_ret
  rw [hE.out]
  exact ⟨rfl, hp3, HS2.out.trans s3⟩

theorem refForce_any (hD : RDsk B k P) (w : World) (d : Dk) (h : Nat) (r : Rc) (hp : P w d) (hx : bytes.Boxed w h #[.pointer (some ⟨k, 0, none⟩)] 79) (hR : RecIn w r) :
  Calls Tryz.prog 15 #[.pointer (some ⟨h, 0, none⟩), rcV r] w fun e w' => e = .returned (.int .i64 ((forceR (pr r) d).2 : Nat)) ∧ P w' (forceR (pr r) d).1 ∧ Stay B w w' := by
 have hB : Below w.heap.size w (w.alloc (.cells (rcC r) 46)) := (Below.refl _ _).alloc (nrQ _) _
 have hC1 := refLazy_any hD _ d h r (hD.keep _ _ _ hp hB) (hx.below hB) (hR.keep hB)
 have hx0 := hx.below hB
 have hcl := hD.cell _ _ (hD.keep _ _ _ hp hB)
 have hbr := bytes.Boxed.new w (rcC r) 46
 generalize hW0 : w.alloc (.cells (rcC r) 46) = W0 at hB hC1 hx0 hcl hbr
 have HW := hid_rc r hW0
 have b0 := hbr.cell (j := 0) rfl
 have b1 := hbr.cell (j := 1) rfl
 have b2 := hbr.cell (j := 2) rfl
 have b3 := hbr.cell (j := 3) rfl
 have b4 := hbr.cell (j := 4) rfl
 have b5 := hbr.cell (j := 5) rfl
 have b6 := hbr.cell (j := 6) rfl
 have b7 := hbr.cell (j := 7) rfl
 have b8 := hbr.cell (j := 8) rfl
 have b9 := hbr.cell (j := 9) rfl
 clear hbr
 have HB : Aside (Stay B w W0) := Stay.of_below hB (hD.base _ _ hp)
 have HD : Aside (RDsk B k P) := hD
 have HX : Aside (bytes.Boxed W0 h #[.pointer (some ⟨k, 0, none⟩)] 79) := hx0
 have hbm : d.b.length ≤ 1048576 := ntQ (hD.fit _ _ hp).len (hD.fit _ _ hp).room
 have c1 := hx0.cell (j := 0) rfl
 obtain ⟨ba, bc, c2, -⟩ := hcl
 clear hW0 hR hB hp hx hx0 hD
 show Calls _ _ #[.pointer (some ⟨h, 0, none⟩), .agg #[.int .u8 r.kind, .int .u32 r.id, .int .u32 r.at_, .slice r.na r.nodes.length r.nc, .slice r.fa r.facts.length r.fc, .int .u32 r.epoch, .slice r.sa r.spans.length r.sc, .int .i64 r.frm, .int .i64 r.til, .slice r.ea r.ents.length r.ec]] _ _
 obtain ⟨E1, hE1⟩ : ∃ E1 : Int, (((lazyR (pr r) d).2 : Nat) : Int) = E1 := ⟨_, rfl⟩
 rw [hE1] at hC1
 obtain ⟨L, hL⟩ : ∃ L, d.b.length = L := ⟨_, rfl⟩
 rw [hL] at c2 hbm
 by_cases hz : E1 = 0
 rotate_left
 ·have HE : Aside (forceR (pr r) d = lazyR (pr r) d ∧ (((lazyR (pr r) d).2 : Nat) : Int) = E1) := ⟨by unfold forceR; rw [if_pos (by omega)], hE1⟩
  clear hE1 hL
  go_enter Tryz.func15, Tryz.ntmps15
  go_upto_region 1 with fail
  rw [HW.out]
  go_wp2_with (go_at_call 13; refine hC1.mono ?_; rintro e w1 ⟨rfl, hp1, s1⟩)
  go_ret
  rw [HE.out.1, HE.out.2]
  exact ⟨rfl, hp1, HB.out.trans s1⟩
 subst hz
 have h0 : (lazyR (pr r) d).2 = 0 := by omega
 have hfd : forceR (pr r) d = if (sync (lazyR (pr r) d).1).2 ≠ 0 then ((cut (L : Nat) (sync (lazyR (pr r) d).1).1).1, (sync (lazyR (pr r) d).1).2) else sync (lazyR (pr r) d).1 := by
  unfold forceR; rw [if_neg (by omega), hL]
 have HFD : Aside (_ = _) := hfd
 clear hE1 h0 hfd hL
 generalize (lazyR (pr r) d).1 = d1 at hC1 HFD
 go_enter Tryz.func15, Tryz.ntmps15
 go_upto_region 1 with fail
 rw [HW.out]
 go_wp2_with (go_at_call 13; refine hC1.mono ?_; rintro e w1 ⟨rfl, hp1, s1⟩; refine Hid.out ?_)
 refine hid ?_
 have hx1 := s1.boxes _ _ _ HX.out kt_rlog
 clear c1 c2 b0 b1 b2 b3 b4 b5 b6 b7 b8 b9
 have c1 := hx1.cell (j := 0) rfl
 have hC2 := HD.out.hSync w1 d1 hp1
 obtain ⟨E2, hE2⟩ : ∃ E2 : Int, (((sync d1).2 : Nat) : Int) = E2 := ⟨_, rfl⟩
 rw [hE2] at hC2
 have HS1 : Aside (Stay B w w1 ∧ bytes.Boxed w1 h #[.pointer (some ⟨k, 0, none⟩)] 79) := ⟨HB.out.trans s1, hx1⟩
 clear hC1 hp1 s1 hx1
 go_wp2_with (go_at_call 31; refine hC2.mono ?_; rintro e w2 ⟨rfl, hp2, s2⟩; refine Hid.out ?_)
 refine hid ?_
 clear hC2 c1
 by_cases hz2 : E2 = 0
 ·subst hz2
  have HR : Aside (forceR (pr r) d = sync d1 ∧ (sync d1).2 = 0) := ⟨by rw [HFD.out, if_neg (by omega)], by omega⟩
  clear hE2
  go_wp2
  go_ret
  rw [HR.out.1, HR.out.2]
  exact ⟨rfl, hp2, HS1.out.1.trans s2⟩
 ·have hs1 : sync d1 = (d1, 100) := by
   unfold sync at hE2 ⊢
   split
   ·rfl
   ·rename_i h0
    rw [if_neg h0] at hE2
    exact absurd hE2.symm hz2
  have HR : Aside (forceR (pr r) d = ((cut (L : Nat) d1).1, 100)) := by show _ = _; rw [HFD.out, hs1, if_pos (show (100 : Nat) ≠ 0 by decide)]
  have hE100 : E2 = 100 := by rw [← hE2, hs1]; rfl
  rw [hs1] at hp2
  have hx2 := s2.boxes _ _ _ HS1.out.2 kt_rlog
  have c2 := hx2.cell (j := 0) rfl
  have hC4 := HD.out.hCut w2 d1 (L : Nat) hp2
  have HST : Aside (Stay B w w2) := HS1.out.1.trans s2
  subst hE100
  clear hs1 hE2 hp2 s2 hx2 HFD
  go_wp2_with (go_at_call 30; refine hC4.mono ?_; rintro e w4 ⟨rfl, hp4, s4⟩)
  go_ret
  rw [HR.out]
  exact ⟨rfl, hp4, HST.out.trans s4⟩
end
end wal
end Go.Proofs.YtlcjllgfpfldlaaGreat
