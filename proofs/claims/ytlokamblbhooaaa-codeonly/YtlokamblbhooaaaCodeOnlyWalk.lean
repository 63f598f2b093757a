/-
  CodeOnly: bytes that are a record's are the one way to write it.
-/
import Derived.Test.YtlokamblbhooaaaCodeSameZ
import Derived.Test.YtlokamblbhooaaaCodeOpen
namespace Go.Proofs.Ytlokamblbhooaaa.code
open Go.ChangeShapes Go.WideShapes Go.ChangeAt Go.RowKit Go.Deep
open Go.Proofs.Ytlokamblbhooaaa.dims (nth Ints cell_lt vals vals_len vals_get vals_one vals_app own_below own_mono own_out own_apart RowOut ret_bool ret_int)
set_option linter.unusedVariables false
set_option maxRecDepth 100000
set_option linter.unusedSimpArgs false

set_option maxHeartbeats 8000000 in
theorem only_walk (a : Option Addr) (n c : Nat) (l : List UInt8) (w : World) (hb : BytesAt w a n c l) :
    Calls Try.prog 6 #[.slice a n c] w fun e w' => e = .returned (.bool true) ∧ Below w.heap.size w w' := by
  have hK := known_any w
  by_cases hbig : 3000 < n
  · have hz : (3000 : Int) < (n : Int) := by omega
    clear hb
    go_enter Try.func6, Try.ntmps6
    go_wp2_with (go_at_call 10; refine hK.mono ?_; rintro e w1 ⟨rfl, g1⟩)
    go_ret
    exact ⟨rfl, g1⟩
  have hz : ¬ (3000 : Int) < (n : Int) := by omega
  have H : Aside (BytesAt w a n c l) := hb
  clear hb
  go_enter Try.func6, Try.ntmps6
  go_wp2_with (go_at_call 10; refine hK.mono ?_; rintro e w1 ⟨rfl, g1⟩; refine Hid.out ?_)
  refine hid ?_
  have hb1 := H.out.keep g1
  clear hK
  cases hd : dec l with
  | none =>
    have hC := decode_none w1 a n c l hb1.mem hb1.low hb1.len hb1.cap (by omega) hd
    have G1 : Aside (Below w.heap.size w w1) := g1
    clear hb1 g1
    go_wp2_with (go_at_call 16; refine hC.mono ?_; rintro e w2 ⟨rfl, g2⟩; refine Hid.out ?_)
    refine hid ?_
    unfold recZ
    have hC2 := same_zero (w2.alloc (.cells recZ 30))
    have HB2 : Aside (Below w.heap.size w (w2.alloc (.cells recZ 30))) := (G1.out.trans (g2.mono G1.out.size)).alloc (Nat.le_trans G1.out.size g2.size) _
    unfold recZ at hC2 HB2
    clear hC g2
    go_wp2_with (go_at_call 17; refine hC2.mono ?_; rintro e w3 ⟨rfl, g3⟩)
    go_ret
    exact ⟨rfl, HB2.out.trans (g3.mono HB2.out.size)⟩
  | some x =>
    have hC := decode_some w1 a n c l hb1.mem hb1.low hb1.len hb1.cap (by omega) x hd
    obtain ⟨hx1, hx2⟩ := dec_is hd
    have G1 : Aside (Below w.heap.size w w1 ∧ BytesAt w1 a n c l) := ⟨g1, hb1⟩
    clear hb1 g1
    go_wp2_with (go_at_call 16; refine hC.mono ?_; rintro e w2 ⟨r, rfl, hpr, hR, g2⟩; refine Hid.out ?_)
    refine hid ?_
    have g3 : Below w2.heap.size w2 (w2.alloc (.cells (rcC r) 30)) := (Below.refl _ _).alloc (Nat.le_refl _) _
    have hx := Boxed.new w2 (rcC r) 30
    have hlen : (recB (pr r)).length ≤ 60000 := by rw [hpr, ← hx1, G1.out.2.len]; omega
    have hC3 := encode_ok _ r (hR.keep g3) (by rw [hpr]; exact hx2) hlen
    have HB3 : Aside (Below w.heap.size w (w2.alloc (.cells (rcC r) 30)) ∧ BytesAt (w2.alloc (.cells (rcC r) 30)) a n c l ∧ RecIn (w2.alloc (.cells (rcC r) 30)) r) := ⟨(G1.out.1.trans (g2.mono G1.out.1.size)).alloc (Nat.le_trans G1.out.1.size g2.size) _, (G1.out.2.keep g2).keep g3, hR.keep g3⟩
    generalize hW3 : w2.alloc (.cells (rcC r) 30) = W3 at hx hC3 HB3
    have hW3' : w2.alloc (.cells #[.int .u8 r.kind, .int .u32 r.id, .int .u32 r.at_, .slice r.na r.nodes.length r.nc, .slice r.fa r.facts.length r.fc, .int .u32 r.epoch, .slice r.sa r.spans.length r.sc, .int .i64 r.frm, .int .i64 r.til, .slice r.ea r.ents.length r.ec] 30) = W3 := hW3
    have HW3 : Hid (_ = W3) := hW3'
    have HP : Hid (pr r = x ∧ l = recB x ∧ sndRec x = true) := ⟨hpr, hx1, hx2⟩
    clear hC hpr hR g2 g3 hW3 hW3' hx1 hx2 hd hlen
    unfold rcV rcC
    go_wp2_with fail
    change Calls _ _ #[rcV r] _ _
    rw [HW3.out]
    refine hC3.mono ?_
    rintro e w4 ⟨v, rfl, hown, g4⟩
    obtain ⟨va, vc, hv, hba⟩ := hown.bytes
    subst hv
    have hcv1 := str_of hba.mem _ vc rfl
    have hcv2 := str_of (HB3.out.2.1.keep g4).mem n c HB3.out.2.1.len
    have hx4 := hx.below g4
    have hC5 := sound_any w4 r (HB3.out.2.2.keep g4)
    rw [HP.out.1, HP.out.2.2] at hC5
    have HB4 : Aside (Below w.heap.size w w4) := HB3.out.1.trans (g4.mono HB3.out.1.size)
    have e1 : recB (pr r) = l := by rw [HP.out.1]; exact HP.out.2.1.symm
    rw [e1] at hcv1 ⊢
    generalize l.length = m at hcv1
    have cb0 := hx4.cell (j := 0) rfl
    have cb1 := hx4.cell (j := 1) rfl
    have cb2 := hx4.cell (j := 2) rfl
    have cb3 := hx4.cell (j := 3) rfl
    have cb4 := hx4.cell (j := 4) rfl
    have cb5 := hx4.cell (j := 5) rfl
    have cb6 := hx4.cell (j := 6) rfl
    have cb7 := hx4.cell (j := 7) rfl
    have cb8 := hx4.cell (j := 8) rfl
    have cb9 := hx4.cell (j := 9) rfl
    clear hC3 hown hba hx4 hx g4 e1
    unfold rcV rcC at hC5
    go_wp2_with (go_at_call 13; refine hC5.mono ?_; rintro e w5 ⟨rfl, g5⟩)
    go_ret
    exact ⟨ret_bool (by simp), HB4.out.trans (g5.mono HB4.out.size)⟩
end Go.Proofs.Ytlokamblbhooaaa.code
