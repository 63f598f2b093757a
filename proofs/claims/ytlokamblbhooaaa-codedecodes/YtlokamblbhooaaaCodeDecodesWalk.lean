/-
  CodeDecodes: Decode of any bytes is what the chapter says.
-/
import Derived.Test.YtlokamblbhooaaaCodeRefDec
import Derived.Test.YtlokamblbhooaaaCodeSameZ
import Derived.Test.YtlokamblbhooaaaCodeSameK
import Derived.Test.YtlokamblbhooaaaCodeOpen
namespace Go.Proofs.Ytlokamblbhooaaa.code
open Go.ChangeShapes Go.WideShapes Go.ChangeAt Go.RowKit Go.Deep
open Go.Proofs.Ytlokamblbhooaaa.dims (nth Ints cell_lt vals vals_len vals_get vals_one vals_app own_below own_mono own_out own_apart RowOut ret_bool ret_int)
set_option linter.unusedVariables false
set_option maxRecDepth 100000
set_option linter.unusedSimpArgs false

theorem snd_limbs2 (r : Rc) (h : sndRec (pr r) = true) : nodesOk r.nodes = true ∧ factsOk (r.facts.map pf) = true ∧ entsOk (r.ents.map pe) = true := by
  have h2 := snd_parts r h
  refine ⟨?_, h2.2.2.1, h2.2.2.2⟩
  by_cases hk : 1 ≤ r.kind ∧ r.kind ≤ 7
  · rw [snd_code r hk] at h
    simp only [Bool.and_eq_true] at h
    exact h.2.1
  · have : sndRec (pr r) = false := by
      dsimp only [sndRec, pr]
      rw [if_neg (by omega), if_neg (by omega), if_neg (by omega), if_neg (by omega), if_neg (by omega)]
    rw [this] at h; cases h
theorem same_rec (w : World) (r s : Rc) (h : RecIn w r) (k : RecIn w s) (hs : sndRec (pr r) = true) (e : pr r = pr s) :
    Calls Try.prog 17 #[.agg #[.int .u8 r.kind, .int .u32 r.id, .int .u32 r.at_, .slice r.na r.nodes.length r.nc, .slice r.fa r.facts.length r.fc, .int .u32 r.epoch, .slice r.sa r.spans.length r.sc, .int .i64 r.frm, .int .i64 r.til, .slice r.ea r.ents.length r.ec], .agg #[.int .u8 s.kind, .int .u32 s.id, .int .u32 s.at_, .slice s.na s.nodes.length s.nc, .slice s.fa s.facts.length s.fc, .int .u32 s.epoch, .slice s.sa s.spans.length s.sc, .int .i64 s.frm, .int .i64 s.til, .slice s.ea s.ents.length s.ec]] w fun e w' => e = .returned (.bool true) ∧ Below w.heap.size w w' :=
  (same_any w r s h k (snd_limbs2 r hs) (snd_limbs2 s (by rw [← e]; exact hs))).mono fun e' w' ⟨u, h1, h2, h3⟩ => ⟨h1.trans (ret_bool (h2.2 e)), h3⟩

set_option maxHeartbeats 8000000 in
theorem decodes_walk (a : Option Addr) (n c : Nat) (l : List UInt8) (w : World) (hb : BytesAt w a n c l) :
    Calls Try.prog 5 #[.slice a n c] w fun e w' => e = .returned (.bool true) ∧ Below w.heap.size w w' := by
  have hK := known_any w
  by_cases hbig : 3000 < n
  · have hz : (3000 : Int) < (n : Int) := by omega
    clear hb
    go_enter Try.func5, Try.ntmps5
    go_wp2_with (go_at_call 10; refine hK.mono ?_; rintro e w1 ⟨rfl, g1⟩)
    go_ret
    exact ⟨rfl, g1⟩
  have hz : ¬ (3000 : Int) < (n : Int) := by omega
  have H : Aside (BytesAt w a n c l) := hb
  clear hb
  go_enter Try.func5, Try.ntmps5
  go_wp2_with (go_at_call 10; refine hK.mono ?_; rintro e w1 ⟨rfl, g1⟩; refine Hid.out ?_)
  refine hid ?_
  have hb1 := H.out.keep g1
  clear hK
  cases hd : dec l with
  | none =>
    have hC := decode_none w1 a n c l hb1.mem hb1.low hb1.len hb1.cap (by omega) hd
    have G1 : Aside (Below w.heap.size w w1 ∧ BytesAt w1 a n c l) := ⟨g1, hb1⟩
    clear hb1 g1
    go_wp2_with (go_at_call 16; refine hC.mono ?_; rintro e w2 ⟨rfl, g2⟩; refine Hid.out ?_)
    refine hid ?_
    have b3 : Below w2.heap.size w2 (w2.alloc (.cells recZ 30)) := (Below.refl _ _).alloc (Nat.le_refl _) _
    have G3 : Aside (Below w.heap.size w (w2.alloc (.cells recZ 30)) ∧ BytesAt (w2.alloc (.cells recZ 30)) a n c l ∧ Boxed (w2.alloc (.cells recZ 30)) w2.heap.size recZ 30) := ⟨(G1.out.1.trans (g2.mono G1.out.1.size)).trans (b3.mono (Nat.le_trans G1.out.1.size g2.size)), (G1.out.2.keep g2).keep b3, Boxed.new _ _ _⟩
    unfold recZ at G3 ⊢
    clear hC g2 b3
    go_upto_region 4 with fail
    obtain ⟨X, hX⟩ : ∃ X, w2.heap.size = X := ⟨_, rfl⟩
    rw [hX] at G3 ⊢
    generalize w2.alloc (.cells #[.int .u8 0, .int .u32 0, .int .u32 0, .slice none 0 0, .slice none 0 0, .int .u32 0, .slice none 0 0, .int .i64 0, .int .i64 0, .slice none 0 0] 30) = w3 at G3 ⊢
    clear hX
    have hR : Calls Try.prog 18 #[.slice a n c] w3 fun e w' => e = .returned (.tuple #[.agg recZ, .int .i64 70]) ∧ Below w3.heap.size w3 w' := (refDecode_any w3 a n c l G3.out.2.1 (by omega) (fun x hx => by rw [hd] at hx; cases hx)).mono fun e w' ⟨h1, h2⟩ => by
      rcases h1 with ⟨-, h1⟩ | ⟨r, -, h1, -⟩
      · exact ⟨h1, h2⟩
      · rw [hd] at h1; cases h1
    go_wp2_with (go_at_call 18; refine hR.mono ?_; rintro e w4 ⟨rfl, g4⟩; refine Hid.out ?_)
    refine hid ?_
    have b5 : Below w4.heap.size w4 (w4.alloc (.cells recZ 30)) := (Below.refl _ _).alloc (Nat.le_refl _) _
    have G5 : Aside (Below w.heap.size w (w4.alloc (.cells recZ 30)) ∧ Boxed (w4.alloc (.cells recZ 30)) X #[.int .u8 0, .int .u32 0, .int .u32 0, .slice none 0 0, .slice none 0 0, .int .u32 0, .slice none 0 0, .int .i64 0, .int .i64 0, .slice none 0 0] 30 ∧ Boxed (w4.alloc (.cells recZ 30)) w4.heap.size recZ 30) := ⟨(G3.out.1.trans (g4.mono G3.out.1.size)).trans (b5.mono (Nat.le_trans G3.out.1.size g4.size)), (G3.out.2.2.below g4).below b5, Boxed.new _ _ _⟩
    unfold recZ at G5 ⊢
    clear hR g4 b5
    go_upto_region 5 with fail
    obtain ⟨Y, hY⟩ : ∃ Y, w4.heap.size = Y := ⟨_, rfl⟩
    rw [hY] at G5 ⊢
    generalize w4.alloc (.cells #[.int .u8 0, .int .u32 0, .int .u32 0, .slice none 0 0, .slice none 0 0, .int .u32 0, .slice none 0 0, .int .i64 0, .int .i64 0, .slice none 0 0] 30) = w5 at G5 ⊢
    clear hY
    have hC2 := same_zero w5
    have cx0 := G5.out.2.1.cell (j := 0) rfl
    have cy0 := G5.out.2.2.cell (j := 0) rfl
    have cx1 := G5.out.2.1.cell (j := 1) rfl
    have cy1 := G5.out.2.2.cell (j := 1) rfl
    have cx2 := G5.out.2.1.cell (j := 2) rfl
    have cy2 := G5.out.2.2.cell (j := 2) rfl
    have cx3 := G5.out.2.1.cell (j := 3) rfl
    have cy3 := G5.out.2.2.cell (j := 3) rfl
    have cx4 := G5.out.2.1.cell (j := 4) rfl
    have cy4 := G5.out.2.2.cell (j := 4) rfl
    have cx5 := G5.out.2.1.cell (j := 5) rfl
    have cy5 := G5.out.2.2.cell (j := 5) rfl
    have cx6 := G5.out.2.1.cell (j := 6) rfl
    have cy6 := G5.out.2.2.cell (j := 6) rfl
    have cx7 := G5.out.2.1.cell (j := 7) rfl
    have cy7 := G5.out.2.2.cell (j := 7) rfl
    have cx8 := G5.out.2.1.cell (j := 8) rfl
    have cy8 := G5.out.2.2.cell (j := 8) rfl
    have cx9 := G5.out.2.1.cell (j := 9) rfl
    have cy9 := G5.out.2.2.cell (j := 9) rfl
    go_wp2_with (go_at_call 17; refine hC2.mono ?_; rintro e w6 ⟨rfl, g6⟩)
    go_ret
    exact ⟨ret_bool (by simp), G5.out.1.trans (g6.mono G5.out.1.size)⟩
  | some x =>
    have hC := decode_some w1 a n c l hb1.mem hb1.low hb1.len hb1.cap (by omega) x hd
    have G1 : Aside (Below w.heap.size w w1 ∧ BytesAt w1 a n c l ∧ sndRec x = true) := ⟨g1, hb1, (dec_is hd).2⟩
    clear hb1 g1
    go_wp2_with (go_at_call 16; refine hC.mono ?_; rintro e w2 ⟨r, rfl, hpr, hR, g2⟩; refine Hid.out ?_)
    refine hid ?_
    have b3 : Below w2.heap.size w2 (w2.alloc (.cells (rcC r) 30)) := (Below.refl _ _).alloc (Nat.le_refl _) _
    have G3 : Aside (Below w.heap.size w (w2.alloc (.cells (rcC r) 30)) ∧ BytesAt (w2.alloc (.cells (rcC r) 30)) a n c l ∧ Boxed (w2.alloc (.cells (rcC r) 30)) w2.heap.size (rcC r) 30 ∧ RecIn (w2.alloc (.cells (rcC r) 30)) r ∧ pr r = x ∧ sndRec x = true) := ⟨(G1.out.1.trans (g2.mono G1.out.1.size)).trans (b3.mono (Nat.le_trans G1.out.1.size g2.size)), (G1.out.2.1.keep g2).keep b3, Boxed.new _ _ _, hR.keep b3, hpr, G1.out.2.2⟩
    unfold rcV rcC
    clear hC g2 b3 hpr hR
    go_upto_region 4 with fail
    have hW3 : w2.alloc (.cells #[.int .u8 r.kind, .int .u32 r.id, .int .u32 r.at_, .slice r.na r.nodes.length r.nc, .slice r.fa r.facts.length r.fc, .int .u32 r.epoch, .slice r.sa r.spans.length r.sc, .int .i64 r.frm, .int .i64 r.til, .slice r.ea r.ents.length r.ec] 30) = w2.alloc (.cells (rcC r) 30) := rfl
    rw [hW3]
    obtain ⟨X, hX⟩ : ∃ X, w2.heap.size = X := ⟨_, rfl⟩
    rw [hX] at G3 ⊢
    generalize w2.alloc (.cells (rcC r) 30) = w3 at G3 ⊢
    clear hX hW3
    have hR : Calls Try.prog 18 #[.slice a n c] w3 fun e w' => ∃ s, e = .returned (.tuple #[rcV s, .int .i64 0]) ∧ pr s = x ∧ RecIn w' s ∧ Below w3.heap.size w3 w' := (refDecode_any w3 a n c l G3.out.2.1 (by omega) (fun y hy => by rw [hd] at hy; injection hy with hy; rw [← hy, ← G3.out.2.2.2.2.1]; exact G3.out.2.2.2.1.typed)).mono fun e w' ⟨h1, h2⟩ => by
      rcases h1 with ⟨h1, -⟩ | ⟨s, h0, h1, h3⟩
      · rw [hd] at h1; cases h1
      · rw [hd] at h1; injection h1 with h1; exact ⟨s, h0, h1.symm, h3, h2⟩
    go_wp2_with (go_at_call 18; refine hR.mono ?_; rintro e w4 ⟨s, rfl, hps, hS, g4⟩; refine Hid.out ?_)
    refine hid ?_
    have b5 : Below w4.heap.size w4 (w4.alloc (.cells (rcC s) 30)) := (Below.refl _ _).alloc (Nat.le_refl _) _
    have G5 : Aside (Below w.heap.size w (w4.alloc (.cells (rcC s) 30)) ∧ Boxed (w4.alloc (.cells (rcC s) 30)) X (rcC r) 30 ∧ Boxed (w4.alloc (.cells (rcC s) 30)) w4.heap.size (rcC s) 30 ∧ RecIn (w4.alloc (.cells (rcC s) 30)) r ∧ RecIn (w4.alloc (.cells (rcC s) 30)) s ∧ pr r = pr s ∧ sndRec (pr r) = true) := ⟨(G3.out.1.trans (g4.mono G3.out.1.size)).trans (b5.mono (Nat.le_trans G3.out.1.size g4.size)), (G3.out.2.2.1.below g4).below b5, Boxed.new _ _ _, (G3.out.2.2.2.1.keep g4).keep b5, hS.keep b5, G3.out.2.2.2.2.1.trans hps.symm, by rw [G3.out.2.2.2.2.1]; exact G3.out.2.2.2.2.2⟩
    unfold rcV rcC
    clear hR g4 b5 hps hS
    go_upto_region 5 with fail
    have hW5 : w4.alloc (.cells #[.int .u8 s.kind, .int .u32 s.id, .int .u32 s.at_, .slice s.na s.nodes.length s.nc, .slice s.fa s.facts.length s.fc, .int .u32 s.epoch, .slice s.sa s.spans.length s.sc, .int .i64 s.frm, .int .i64 s.til, .slice s.ea s.ents.length s.ec] 30) = w4.alloc (.cells (rcC s) 30) := rfl
    rw [hW5]
    obtain ⟨Y, hY⟩ : ∃ Y, w4.heap.size = Y := ⟨_, rfl⟩
    rw [hY] at G5 ⊢
    generalize w4.alloc (.cells (rcC s) 30) = w5 at G5 ⊢
    clear hY hW5
    have hC2 := same_rec w5 r s G5.out.2.2.2.1 G5.out.2.2.2.2.1 G5.out.2.2.2.2.2.2 G5.out.2.2.2.2.2.1
    have cx0 : w5.cell? ⟨X, 0, none⟩ = some (.int .u8 r.kind) := G5.out.2.1.cell (j := 0) rfl
    have cy0 : w5.cell? ⟨Y, 0, none⟩ = some (.int .u8 s.kind) := G5.out.2.2.1.cell (j := 0) rfl
    have cx1 : w5.cell? ⟨X, 1, none⟩ = some (.int .u32 r.id) := G5.out.2.1.cell (j := 1) rfl
    have cy1 : w5.cell? ⟨Y, 1, none⟩ = some (.int .u32 s.id) := G5.out.2.2.1.cell (j := 1) rfl
    have cx2 : w5.cell? ⟨X, 2, none⟩ = some (.int .u32 r.at_) := G5.out.2.1.cell (j := 2) rfl
    have cy2 : w5.cell? ⟨Y, 2, none⟩ = some (.int .u32 s.at_) := G5.out.2.2.1.cell (j := 2) rfl
    have cx3 : w5.cell? ⟨X, 3, none⟩ = some (.slice r.na r.nodes.length r.nc) := G5.out.2.1.cell (j := 3) rfl
    have cy3 : w5.cell? ⟨Y, 3, none⟩ = some (.slice s.na s.nodes.length s.nc) := G5.out.2.2.1.cell (j := 3) rfl
    have cx4 : w5.cell? ⟨X, 4, none⟩ = some (.slice r.fa r.facts.length r.fc) := G5.out.2.1.cell (j := 4) rfl
    have cy4 : w5.cell? ⟨Y, 4, none⟩ = some (.slice s.fa s.facts.length s.fc) := G5.out.2.2.1.cell (j := 4) rfl
    have cx5 : w5.cell? ⟨X, 5, none⟩ = some (.int .u32 r.epoch) := G5.out.2.1.cell (j := 5) rfl
    have cy5 : w5.cell? ⟨Y, 5, none⟩ = some (.int .u32 s.epoch) := G5.out.2.2.1.cell (j := 5) rfl
    have cx6 : w5.cell? ⟨X, 6, none⟩ = some (.slice r.sa r.spans.length r.sc) := G5.out.2.1.cell (j := 6) rfl
    have cy6 : w5.cell? ⟨Y, 6, none⟩ = some (.slice s.sa s.spans.length s.sc) := G5.out.2.2.1.cell (j := 6) rfl
    have cx7 : w5.cell? ⟨X, 7, none⟩ = some (.int .i64 r.frm) := G5.out.2.1.cell (j := 7) rfl
    have cy7 : w5.cell? ⟨Y, 7, none⟩ = some (.int .i64 s.frm) := G5.out.2.2.1.cell (j := 7) rfl
    have cx8 : w5.cell? ⟨X, 8, none⟩ = some (.int .i64 r.til) := G5.out.2.1.cell (j := 8) rfl
    have cy8 : w5.cell? ⟨Y, 8, none⟩ = some (.int .i64 s.til) := G5.out.2.2.1.cell (j := 8) rfl
    have cx9 : w5.cell? ⟨X, 9, none⟩ = some (.slice r.ea r.ents.length r.ec) := G5.out.2.1.cell (j := 9) rfl
    have cy9 : w5.cell? ⟨Y, 9, none⟩ = some (.slice s.ea s.ents.length s.ec) := G5.out.2.2.1.cell (j := 9) rfl
    go_wp2_with (go_at_call 17; refine hC2.mono ?_; rintro e w6 ⟨rfl, g6⟩)
    go_ret
    exact ⟨ret_bool (by simp), G5.out.1.trans (g6.mono G5.out.1.size)⟩
end Go.Proofs.Ytlokamblbhooaaa.code
