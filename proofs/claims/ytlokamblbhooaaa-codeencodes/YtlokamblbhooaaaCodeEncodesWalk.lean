/-
  CodeEncodes: Sound and Encode of any record are what the chapter says.
-/
import Derived.Test.YtlokamblbhooaaaCodeEncLen
import Derived.Test.YtlokamblbhooaaaCodeSame
import Derived.Test.YtlokamblbhooaaaCodeOpenR
import Derived.Deep.RegionHeld3
namespace Go.Proofs.Ytlokamblbhooaaa.code
open Go.ChangeShapes Go.WideShapes Go.ChangeAt Go.RowKit Go.Deep
open Go.Proofs.Ytlokamblbhooaaa.dims (nth Ints cell_lt vals vals_len vals_get vals_one vals_app own_below own_mono own_out own_apart RowOut ret_bool ret_int)
set_option linter.unusedVariables false
set_option maxRecDepth 100000
set_option linter.unusedSimpArgs false

theorem Strs.keep {w w' : World} {v : Value} {l : List UInt8} (h : Strs w v l) (hb : Below w.heap.size w w') : Strs w' v l := fun W hW => h W (hb.trans (hW.mono hb.size))
theorem Strs.nil (w : World) : Strs w (.slice none 0 0) [] := (Bs.nil w.heap.size w).strs
theorem rec_of {W0 W : World} {B : Nat} {r : Rc} {va vb : Value} {la lb : List UInt8} (hx : Boxed W0 B (rcC r) 30) (sa : Strs W0 va la) (sb : Strs W0 vb lb) (hb : Below W0.heap.size W0 W) :
    Below W0.heap.size W0 W ∧ W.cell? ⟨B, 0, none⟩ = some (.int .u8 r.kind) ∧ W.cell? ⟨B, 1, none⟩ = some (.int .u32 r.id) ∧ W.cell? ⟨B, 2, none⟩ = some (.int .u32 r.at_) ∧ W.cell? ⟨B, 3, none⟩ = some (.slice r.na r.nodes.length r.nc) ∧ W.cell? ⟨B, 4, none⟩ = some (.slice r.fa r.facts.length r.fc) ∧ W.cell? ⟨B, 5, none⟩ = some (.int .u32 r.epoch) ∧ W.cell? ⟨B, 6, none⟩ = some (.slice r.sa r.spans.length r.sc) ∧ W.cell? ⟨B, 7, none⟩ = some (.int .i64 r.frm) ∧ W.cell? ⟨B, 8, none⟩ = some (.int .i64 r.til) ∧ W.cell? ⟨B, 9, none⟩ = some (.slice r.ea r.ents.length r.ec) ∧ (convert 33 9 va).run Try.prog W = .ok (.string ⟨la.toArray⟩) W ∧ (convert 33 9 vb).run Try.prog W = .ok (.string ⟨lb.toArray⟩) W := by
  have h2 := hx.below hb
  exact ⟨hb, h2.cell rfl, h2.cell rfl, h2.cell rfl, h2.cell rfl, h2.cell rfl, h2.cell rfl, h2.cell rfl, h2.cell rfl, h2.cell rfl, h2.cell rfl, sa W hb, sb W hb⟩
/-- how both Encodes end, at a record that is looked at -/
theorem enc_one (w : World) (r : Rc) (hR : RecIn w r) (hw : wrap64 (rw_ r) ≤ 3000) (t : Bool) (ht : sndRec (pr r) = t) :
    Calls Try.prog 11 #[.agg #[.int .u8 r.kind, .int .u32 r.id, .int .u32 r.at_, .slice r.na r.nodes.length r.nc, .slice r.fa r.facts.length r.fc, .int .u32 r.epoch, .slice r.sa r.spans.length r.sc, .int .i64 r.frm, .int .i64 r.til, .slice r.ea r.ents.length r.ec]] w fun e w' => ∃ v, e = .returned (.tuple #[v, .int .u16 (if t = true then 0 else 1)]) ∧ Strs w' v (if t = true then recB (pr r) else []) ∧ Below w.heap.size w w' := by
  cases t with
  | false => exact (encode_no w r hR ht).mono fun e w' ⟨h1, h2⟩ => ⟨_, h1, Strs.nil _, h2⟩
  | true => exact (encode_ok w r hR ht (snd_looked r ht hw)).mono fun e w' ⟨v, h1, h2, h3⟩ => ⟨v, h1, h2.strs, h3⟩
theorem refEnc_one (w : World) (r : Rc) (hR : RecIn w r) (hw : wrap64 (rw_ r) ≤ 3000) (t : Bool) (ht : sndRec (pr r) = t) :
    Calls Try.prog 12 #[.agg #[.int .u8 r.kind, .int .u32 r.id, .int .u32 r.at_, .slice r.na r.nodes.length r.nc, .slice r.fa r.facts.length r.fc, .int .u32 r.epoch, .slice r.sa r.spans.length r.sc, .int .i64 r.frm, .int .i64 r.til, .slice r.ea r.ents.length r.ec]] w fun e w' => ∃ v, e = .returned (.tuple #[v, .int .i64 (if t = true then 0 else 1)]) ∧ Strs w' v (if t = true then recB (pr r) else []) ∧ Below w.heap.size w w' := by
  cases t with
  | false => exact (refEncode_no w r hR ht).mono fun e w' ⟨h1, h2⟩ => ⟨_, h1, Strs.nil _, h2⟩
  | true => exact (refEncode_snd w r hR ht (snd_ents r ht) (snd_small r ht)).mono fun e w' ⟨v, h1, h2, h3⟩ => ⟨v, h1.trans (if_pos (snd_looked r ht hw)), h2.strs, h3⟩

set_option maxHeartbeats 16000000 in
theorem encodes_walk (r : Rc) (w : World) (hR : RecIn w r) :
    Calls Try.prog 3 #[rcV r] w fun e w' => e = .returned (.bool true) ∧ Below w.heap.size w w' := by
  have hB : Below w.heap.size w (w.alloc (.cells (rcC r) 30)) := (Below.refl _ _).alloc (Nat.le_refl _) _
  have hx := Boxed.new w (rcC r) 30
  have hR0 := hR.keep hB
  have hV := Heavy_any (w.alloc (.cells (rcC r) 30)) r hR0
  generalize hW0 : w.alloc (.cells (rcC r) 30) = W0 at hB hR0 hx hV
  have hW1 : w.alloc (.cells #[.int .u8 r.kind, .int .u32 r.id, .int .u32 r.at_, .slice r.na r.nodes.length r.nc, .slice r.fa r.facts.length r.fc, .int .u32 r.epoch, .slice r.sa r.spans.length r.sc, .int .i64 r.frm, .int .i64 r.til, .slice r.ea r.ents.length r.ec] 30) = W0 := hW0
  have HW : Hid (_ = W0) := hW1
  have HR : Aside (RecIn W0 r ∧ Below w.heap.size w W0 ∧ Boxed W0 w.heap.size (rcC r) 30) := ⟨hR0, hB, hx⟩
  obtain ⟨x, hxw⟩ : ∃ x, wrap64 (rw_ r) = x := ⟨_, rfl⟩
  rw [hxw] at hV
  show Calls _ _ #[.agg #[.int .u8 r.kind, .int .u32 r.id, .int .u32 r.at_, .slice r.na r.nodes.length r.nc, .slice r.fa r.facts.length r.fc, .int .u32 r.epoch, .slice r.sa r.spans.length r.sc, .int .i64 r.frm, .int .i64 r.til, .slice r.ea r.ents.length r.ec]] _ _
  have HX : Hid (wrap64 (rw_ r) = x) := hxw
  clear hW0 hW1 hR hR0 hB hx hxw
  by_cases hbig : 3000 < x
  · clear HX
    go_enter Try.func3, Try.ntmps3
    go_wp2_with fail
    rw [HW.out]
    refine hV.mono ?_
    rintro e w1 ⟨rfl, g1⟩
    have hK := known_any w1
    clear hV
    go_wp2_with (go_at_call 10; refine hK.mono ?_; rintro e w2 ⟨rfl, g2⟩)
    go_ret
    exact ⟨rfl, HR.out.2.1.trans ((g1.trans (g2.mono g1.size)).mono HR.out.2.1.size)⟩
  go_enter Try.func3, Try.ntmps3
  go_wp2_with fail
  rw [HW.out]
  refine hV.mono ?_
  rintro e w1 ⟨rfl, g1⟩
  have hK := known_any w1
  clear hV
  go_wp2_with (go_at_call 10; refine hK.mono ?_; rintro e w2 ⟨rfl, g2⟩; refine Hid.out ?_)
  refine hid ?_
  have B2 : Aside (Below W0.heap.size W0 w2) := g1.trans (g2.mono g1.size)
  have hxl : wrap64 (rw_ r) ≤ 3000 := by have := HX.out; rw [show wrap64 (rw_ r) = x from this]; omega
  obtain ⟨t, ht⟩ : ∃ t, sndRec (pr r) = t := ⟨_, rfl⟩
  have hE := enc_one w2 r (HR.out.1.keep B2.out) hxl t ht
  have hF : Aside (∀ W, Below W0.heap.size W0 W → _) := fun W (hW : Below W0.heap.size W0 W) => refEnc_one W r (HR.out.1.keep hW) hxl t ht
  have HT : Hid (sndRec (pr r) = t) := ht
  generalize (if t = true then recB (pr r) else []) = l at hE hF
  obtain ⟨z, hz⟩ : ∃ z : Int, (if t = true then 0 else 1) = z := ⟨_, rfl⟩
  have HZ : Hid ((if t = true then (0 : Int) else 1) = z) := hz
  rw [hz] at hE hF
  clear hK g1 g2 HX hxl ht hz
  have c0 : w2.cell? ⟨w.heap.size, 0, none⟩ = some (.int .u8 r.kind) := (HR.out.2.2.below B2.out).cell (j := 0) rfl
  have c1 : w2.cell? ⟨w.heap.size, 1, none⟩ = some (.int .u32 r.id) := (HR.out.2.2.below B2.out).cell (j := 1) rfl
  have c2 : w2.cell? ⟨w.heap.size, 2, none⟩ = some (.int .u32 r.at_) := (HR.out.2.2.below B2.out).cell (j := 2) rfl
  have c3 : w2.cell? ⟨w.heap.size, 3, none⟩ = some (.slice r.na r.nodes.length r.nc) := (HR.out.2.2.below B2.out).cell (j := 3) rfl
  have c4 : w2.cell? ⟨w.heap.size, 4, none⟩ = some (.slice r.fa r.facts.length r.fc) := (HR.out.2.2.below B2.out).cell (j := 4) rfl
  have c5 : w2.cell? ⟨w.heap.size, 5, none⟩ = some (.int .u32 r.epoch) := (HR.out.2.2.below B2.out).cell (j := 5) rfl
  have c6 : w2.cell? ⟨w.heap.size, 6, none⟩ = some (.slice r.sa r.spans.length r.sc) := (HR.out.2.2.below B2.out).cell (j := 6) rfl
  have c7 : w2.cell? ⟨w.heap.size, 7, none⟩ = some (.int .i64 r.frm) := (HR.out.2.2.below B2.out).cell (j := 7) rfl
  have c8 : w2.cell? ⟨w.heap.size, 8, none⟩ = some (.int .i64 r.til) := (HR.out.2.2.below B2.out).cell (j := 8) rfl
  have c9 : w2.cell? ⟨w.heap.size, 9, none⟩ = some (.slice r.ea r.ents.length r.ec) := (HR.out.2.2.below B2.out).cell (j := 9) rfl
  go_wp2_with (go_at_call 11; refine hE.mono ?_; rintro e w3 ⟨va, rfl, sa, g3⟩; refine Hid.out ?_)
  refine hid ?_
  have B3 : Aside (Below W0.heap.size W0 w3) := B2.out.trans (g3.mono B2.out.size)
  have SA : Aside (Strs w3 va l) := sa
  have hF3 := hF.out w3 B3.out
  clear hE sa g3 hbig c0 c1 c2 c3 c4 c5 c6 c7 c8 c9
  have c0 : w3.cell? ⟨w.heap.size, 0, none⟩ = some (.int .u8 r.kind) := (HR.out.2.2.below B3.out).cell (j := 0) rfl
  have c1 : w3.cell? ⟨w.heap.size, 1, none⟩ = some (.int .u32 r.id) := (HR.out.2.2.below B3.out).cell (j := 1) rfl
  have c2 : w3.cell? ⟨w.heap.size, 2, none⟩ = some (.int .u32 r.at_) := (HR.out.2.2.below B3.out).cell (j := 2) rfl
  have c3 : w3.cell? ⟨w.heap.size, 3, none⟩ = some (.slice r.na r.nodes.length r.nc) := (HR.out.2.2.below B3.out).cell (j := 3) rfl
  have c4 : w3.cell? ⟨w.heap.size, 4, none⟩ = some (.slice r.fa r.facts.length r.fc) := (HR.out.2.2.below B3.out).cell (j := 4) rfl
  have c5 : w3.cell? ⟨w.heap.size, 5, none⟩ = some (.int .u32 r.epoch) := (HR.out.2.2.below B3.out).cell (j := 5) rfl
  have c6 : w3.cell? ⟨w.heap.size, 6, none⟩ = some (.slice r.sa r.spans.length r.sc) := (HR.out.2.2.below B3.out).cell (j := 6) rfl
  have c7 : w3.cell? ⟨w.heap.size, 7, none⟩ = some (.int .i64 r.frm) := (HR.out.2.2.below B3.out).cell (j := 7) rfl
  have c8 : w3.cell? ⟨w.heap.size, 8, none⟩ = some (.int .i64 r.til) := (HR.out.2.2.below B3.out).cell (j := 8) rfl
  have c9 : w3.cell? ⟨w.heap.size, 9, none⟩ = some (.slice r.ea r.ents.length r.ec) := (HR.out.2.2.below B3.out).cell (j := 9) rfl
  go_wp2_with (go_at_call 12; refine hF3.mono ?_; rintro e w4 ⟨vb, rfl, sb, g4⟩; refine Hid.out ?_)
  refine hid ?_
  have B4 : Aside (Below W0.heap.size W0 w4) := B3.out.trans (g4.mono B3.out.size)
  have hx4 := HR.out.2.2.below B4.out
  have SA4 : Aside (Strs w4 va l) := SA.out.keep g4
  have SB4 : Aside (Strs w4 vb l) := sb
  have hS1 : ∀ W, Below w4.heap.size w4 W → Calls Try.prog 13 #[.agg #[.int .u8 r.kind, .int .u32 r.id, .int .u32 r.at_, .slice r.na r.nodes.length r.nc, .slice r.fa r.facts.length r.fc, .int .u32 r.epoch, .slice r.sa r.spans.length r.sc, .int .i64 r.frm, .int .i64 r.til, .slice r.ea r.ents.length r.ec]] W fun e w' => e = .returned (.bool t) ∧ Aside (Below w4.heap.size w4 w') := fun W hW => by
    have := sound_any W r (HR.out.1.keep (B4.out.trans (hW.mono B4.out.size)))
    rw [show sndRec (pr r) = t from HT.out] at this
    exact this.mono fun e w' ⟨h1, h2⟩ => ⟨h1, hW.trans (h2.mono hW.size)⟩
  have hS2 : ∀ W, Below w4.heap.size w4 W → Calls Try.prog 14 #[.agg #[.int .u8 r.kind, .int .u32 r.id, .int .u32 r.at_, .slice r.na r.nodes.length r.nc, .slice r.fa r.facts.length r.fc, .int .u32 r.epoch, .slice r.sa r.spans.length r.sc, .int .i64 r.frm, .int .i64 r.til, .slice r.ea r.ents.length r.ec]] W fun e w' => e = .returned (.bool t) ∧ Aside (Below w4.heap.size w4 w') := fun W hW => by
    have := refSound_any W r (HR.out.1.keep (B4.out.trans (hW.mono B4.out.size)))
    rw [show sndRec (pr r) = t from HT.out] at this
    exact this.mono fun e w' ⟨h1, h2⟩ => ⟨h1, hW.trans (h2.mono hW.size)⟩
  have HX4 : Aside (Boxed w4 w.heap.size (rcC r) 30) := hx4
  clear hF3 sb g4 hx4 hF HT HW c0 c1 c2 c3 c4 c5 c6 c7 c8 c9
  cases t with
  | false =>
    have hz0 : z = 1 := HZ.out.symm
    subst hz0
    clear HZ
    go_wp2_with fail
    go_region_held3 (fun w' => Below w4.heap.size w4 w' ∧ w'.cell? ⟨w.heap.size, 0, none⟩ = some (.int .u8 r.kind) ∧ w'.cell? ⟨w.heap.size, 1, none⟩ = some (.int .u32 r.id) ∧ w'.cell? ⟨w.heap.size, 2, none⟩ = some (.int .u32 r.at_) ∧ w'.cell? ⟨w.heap.size, 3, none⟩ = some (.slice r.na r.nodes.length r.nc) ∧ w'.cell? ⟨w.heap.size, 4, none⟩ = some (.slice r.fa r.facts.length r.fc) ∧ w'.cell? ⟨w.heap.size, 5, none⟩ = some (.int .u32 r.epoch) ∧ w'.cell? ⟨w.heap.size, 6, none⟩ = some (.slice r.sa r.spans.length r.sc) ∧ w'.cell? ⟨w.heap.size, 7, none⟩ = some (.int .i64 r.frm) ∧ w'.cell? ⟨w.heap.size, 8, none⟩ = some (.int .i64 r.til) ∧ w'.cell? ⟨w.heap.size, 9, none⟩ = some (.slice r.ea r.ents.length r.ec) ∧ (convert 33 9 va).run Try.prog w' = .ok (.string ⟨l.toArray⟩) w' ∧ (convert 33 9 vb).run Try.prog w' = .ok (.string ⟨l.toArray⟩) w')
      (first | with_reducible assumption | (refine rec_of HX4.out SA4.out SB4.out ?_; repeat (first | with_reducible exact Below.refl _ _ | with_reducible exact hbA.out | with_reducible exact hbB.out | (with_reducible refine Below.drew ?_))))
      (first | (go_at_call 13; refine (hS1 _ ?_).mono ?_; (focus (apply And.left; assumption)); rintro e wa ⟨rfl, hbA⟩) | (go_at_call 14; refine (hS2 _ ?_).mono ?_; (focus (apply And.left; assumption)); rintro e wb ⟨rfl, hbB⟩))
    all_goals
      go_wp2
      go_ret
      refine ⟨ret_bool (by simp), HR.out.2.1.trans (B4.out.trans (Below.mono (by apply And.left; assumption) B4.out.size) |>.mono HR.out.2.1.size)⟩
  | true =>
    have hz0 : z = 0 := HZ.out.symm
    subst hz0
    clear HZ
    go_wp2_with fail
    go_region_held3 (fun w' => Below w4.heap.size w4 w' ∧ w'.cell? ⟨w.heap.size, 0, none⟩ = some (.int .u8 r.kind) ∧ w'.cell? ⟨w.heap.size, 1, none⟩ = some (.int .u32 r.id) ∧ w'.cell? ⟨w.heap.size, 2, none⟩ = some (.int .u32 r.at_) ∧ w'.cell? ⟨w.heap.size, 3, none⟩ = some (.slice r.na r.nodes.length r.nc) ∧ w'.cell? ⟨w.heap.size, 4, none⟩ = some (.slice r.fa r.facts.length r.fc) ∧ w'.cell? ⟨w.heap.size, 5, none⟩ = some (.int .u32 r.epoch) ∧ w'.cell? ⟨w.heap.size, 6, none⟩ = some (.slice r.sa r.spans.length r.sc) ∧ w'.cell? ⟨w.heap.size, 7, none⟩ = some (.int .i64 r.frm) ∧ w'.cell? ⟨w.heap.size, 8, none⟩ = some (.int .i64 r.til) ∧ w'.cell? ⟨w.heap.size, 9, none⟩ = some (.slice r.ea r.ents.length r.ec) ∧ (convert 33 9 va).run Try.prog w' = .ok (.string ⟨l.toArray⟩) w' ∧ (convert 33 9 vb).run Try.prog w' = .ok (.string ⟨l.toArray⟩) w')
      (first | with_reducible assumption | (refine rec_of HX4.out SA4.out SB4.out ?_; repeat (first | with_reducible exact Below.refl _ _ | with_reducible exact hbA.out | with_reducible exact hbB.out | (with_reducible refine Below.drew ?_))))
      (first | (go_at_call 13; refine (hS1 _ ?_).mono ?_; (focus (apply And.left; assumption)); rintro e wa ⟨rfl, hbA⟩) | (go_at_call 14; refine (hS2 _ ?_).mono ?_; (focus (apply And.left; assumption)); rintro e wb ⟨rfl, hbB⟩))
    all_goals
      go_wp2
      go_ret
      refine ⟨ret_bool (by simp), HR.out.2.1.trans (B4.out.trans (Below.mono (by apply And.left; assumption) B4.out.size) |>.mono HR.out.2.1.size)⟩
end Go.Proofs.Ytlokamblbhooaaa.code
