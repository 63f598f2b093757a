/-
  The chapter's Decode: the one sound record whose bytes they are, or none.
-/
import Derived.Test.YtlokamblbhooaaaCodeBxRK
import Derived.Test.YtlokamblbhooaaaCodeOut
import Derived.Test.YtlokamblbhooaaaCodeEncLen
import Derived.Test.YtlokamblbhooaaaCodeRefEnc
import Derived.Test.YtlokamblbhooaaaCodeKnown
import Derived.Test.YtlokamblbhooaaaCodeSame
namespace Go.Proofs.Ytlokamblbhooaaa.code
open Go.ChangeShapes Go.WideShapes Go.ChangeAt Go.RowKit Go.Deep
open Go.Proofs.Ytlokamblbhooaaa.dims (nth Ints cell_lt vals vals_len vals_get vals_one vals_app own_below own_mono own_out own_apart RowOut ret_bool ret_int)
set_option linter.unusedVariables false
set_option maxRecDepth 100000
set_option linter.unusedSimpArgs false

theorem BytesAt.grown {w w1 : World} {B R : Nat} {a : Option Addr} {n c : Nat} {l : List UInt8} (h : BytesAt w a n c l) (hl : l ≠ [] → ∀ p, a = some p → p.block < B) (hB : B ≤ w.heap.size) (hR : B ≤ R) (hg : w.grownBy w1 (some R)) : BytesAt w1 a n c l := by
  refine ⟨?_, fun h0 p hp => Nat.lt_of_lt_of_le (h.low h0 p hp) hg.size, h.len, h.cap⟩
  rcases h.mem with h0 | ⟨b, off, ha, hc⟩
  · exact .inl h0
  · refine .inr ⟨b, off, ha, fun i hi => ?_⟩
    have hb := hl (by intro e; rw [e] at hi; simp at hi) _ ha
    simp only at hb
    exact (World.cell?_of_block (a := ⟨b, off + i, none⟩) (hg.block b (by omega) (by simp only [ne_eq, Option.some.injEq]; omega))).trans (hc i hi)
/-- what Decode answers -/
def DecOut (l : List UInt8) (e : Ending) (W : World) : Prop :=
  (dec l = none ∧ e = .returned (.tuple #[.agg recZ, .int .i64 70])) ∨ ∃ r, e = .returned (.tuple #[rcV r, .int .i64 0]) ∧ dec l = some (pr r) ∧ RecIn W r

set_option maxHeartbeats 32000000 in
theorem refDecode_any (w : World) (a : Option Addr) (n c : Nat) (l : List UInt8) (hb : BytesAt w a n c l) (h6 : n ≤ 60000) (hty : ∀ x, dec l = some x → Typed x) :
    Calls Try.prog 18 #[.slice a n c] w fun e w' => DecOut l e w' ∧ Below w.heap.size w w' := by
  have hl := hb.len
  have hz : ¬ (60000 : Int) < (n : Int) := by omega
  have hW0 : Below w.heap.size w ((w.alloc (.cells #[.int .u8 0, .int .u32 0, .int .u32 0, .slice none 0 0, .slice none 0 0, .int .u32 0, .slice none 0 0, .int .i64 0, .int .i64 0, .slice none 0 0] 30)).alloc (.cells #[.slice a n c, .bool false] 85)) := by (repeat (first | with_reducible exact Below.refl _ _ | (with_reducible refine Below.drew ?_) | (with_reducible refine Below.alloc ?_ (by first | omega | (simp; done) | (simp; omega)) _) | (with_reducible refine Below.setCell ?_ (by first | exact Nat.le_refl _ | omega | (simp; done) | (simp; omega)) _)))
  have hP : Boxed ((w.alloc (.cells #[.int .u8 0, .int .u32 0, .int .u32 0, .slice none 0 0, .slice none 0 0, .int .u32 0, .slice none 0 0, .int .i64 0, .int .i64 0, .slice none 0 0] 30)).alloc (.cells #[.slice a n c, .bool false] 85)) w.heap.size #[.int .u8 0, .int .u32 0, .int .u32 0, .slice none 0 0, .slice none 0 0, .int .u32 0, .slice none 0 0, .int .i64 0, .int .i64 0, .slice none 0 0] 30 := (Boxed.new w _ _).below ((Below.refl _ _).alloc (Nat.le_refl _) _)
  have hX : BxL (w.heap.size + 1) ((w.alloc (.cells #[.int .u8 0, .int .u32 0, .int .u32 0, .slice none 0 0, .slice none 0 0, .int .u32 0, .slice none 0 0, .int .i64 0, .int .i64 0, .slice none 0 0] 30)).alloc (.cells #[.slice a n c, .bool false] 85)) (l, false) := by
    refine ⟨a, n, c, ?_, hl, hb.cap, fun h0 p hp => by have := hb.low h0 p hp; omega, hb.mem.keep hW0⟩
    show Boxed _ _ #[.slice a n c, .bool false] _
    have := Boxed.new (w.alloc (.cells #[.int .u8 0, .int .u32 0, .int .u32 0, .slice none 0 0, .slice none 0 0, .int .u32 0, .slice none 0 0, .int .i64 0, .int .i64 0, .slice none 0 0] 30)) #[.slice a n c, .bool false] 85
    simpa using this
  have hbb := hb.keep hW0
  have hsz0 : w.heap.size + 2 = ((w.alloc (.cells #[.int .u8 0, .int .u32 0, .int .u32 0, .slice none 0 0, .slice none 0 0, .int .u32 0, .slice none 0 0, .int .i64 0, .int .i64 0, .slice none 0 0] 30)).alloc (.cells #[.slice a n c, .bool false] 85)).heap.size := by simp
  generalize hWW : ((w.alloc (.cells #[.int .u8 0, .int .u32 0, .int .u32 0, .slice none 0 0, .slice none 0 0, .int .u32 0, .slice none 0 0, .int .i64 0, .int .i64 0, .slice none 0 0] 30)).alloc (.cells #[.slice a n c, .bool false] 85)) = W0 at hW0 hP hX hbb hsz0
  have HW : Hid (_ = W0) := hWW
  have hC := rec_rd (w.heap.size + 1) W0.heap.size W0 (l, false) (Nat.le_refl _) hX (by simp only; omega)
  have H0 : Aside (Below w.heap.size w W0 ∧ Boxed W0 w.heap.size #[.int .u8 0, .int .u32 0, .int .u32 0, .slice none 0 0, .slice none 0 0, .int .u32 0, .slice none 0 0, .int .i64 0, .int .i64 0, .slice none 0 0] 30 ∧ BytesAt W0 a n c l ∧ (l ≠ [] → ∀ p, a = some p → p.block < w.heap.size) ∧ w.heap.size + 2 = W0.heap.size ∧ (∀ x, dec l = some x → Typed x)) := ⟨hW0, hP, hbb, hb.low, hsz0, hty⟩
  have HLN : Hid (l.length = n) := hl
  clear hW0 hP hX hbb hWW hsz0 hb hl hty
  go_enter Try.func18, Try.ntmps18
  go_wp2_with fail
  rw [HW.out]
  refine hC.mono ?_
  rintro e w1 ⟨v, rfl, ⟨r, hv, hpr, hown⟩, g1⟩
  subst hv
  clear hC
  have b1 : Below w.heap.size w w1 := H0.out.1.grown g1.grown H0.out.1.size (fun q hq => by injection hq with hq; omega)
  have hP1 := H0.out.2.1.grown g1.grown (by simp only [ne_eq, Option.some.injEq]; omega)
  have hb1 := H0.out.2.2.1.grown H0.out.2.2.2.1 H0.out.1.size (Nat.le_succ _) g1.grown
  have b2 : Below w1.heap.size w1 (w1.alloc (.cells (rcC r) 30)) := (Below.refl _ _).alloc (Nat.le_refl _) _
  obtain ⟨s2, hs2⟩ : ∃ s2, (rdRec (l, false)).2 = s2 := ⟨_, rfl⟩
  obtain ⟨y, hy⟩ : ∃ y, (rdRec (l, false)).1 = y := ⟨_, rfl⟩
  have HQ : Hid ((rdRec (l, false)).2 = s2 ∧ (rdRec (l, false)).1 = pr r) := ⟨hs2, hpr.symm⟩
  rw [hs2] at g1
  have S2 : Aside (Below w.heap.size w (w1.alloc (.cells (rcC r) 30)) ∧ Boxed (w1.alloc (.cells (rcC r) 30)) w.heap.size #[.int .u8 0, .int .u32 0, .int .u32 0, .slice none 0 0, .slice none 0 0, .int .u32 0, .slice none 0 0, .int .i64 0, .int .i64 0, .slice none 0 0] 30 ∧ BytesAt (w1.alloc (.cells (rcC r) 30)) a n c l ∧ BxL (w.heap.size + 1) (w1.alloc (.cells (rcC r) 30)) s2 ∧ RcOwn W0.heap.size (w1.alloc (.cells (rcC r) 30)) r ∧ Boxed (w1.alloc (.cells (rcC r) 30)) w1.heap.size (rcC r) 30) :=
    ⟨b1.trans (b2.mono b1.size), hP1.below b2, hb1.keep b2, g1.rdr.keep b2, hown.far (grown_below b2) (far_none _ _) (far_none _ _) (far_none _ _) (far_none _ _), Boxed.new _ _ _⟩
  have hlX : w.heap.size + 1 < w1.heap.size := by have := g1.grown.size; have := H0.out.2.2.2.2.1; omega
  have HTY : Aside (∀ x, dec l = some x → Typed x) := H0.out.2.2.2.2.2
  clear b1 hP1 hb1 b2 hs2 hy hpr hown g1 H0
  unfold rcV rcC
  go_upto_region 5 with fail
  have hW5 : w1.alloc (.cells #[.int .u8 r.kind, .int .u32 r.id, .int .u32 r.at_, .slice r.na r.nodes.length r.nc, .slice r.fa r.facts.length r.fc, .int .u32 r.epoch, .slice r.sa r.spans.length r.sc, .int .i64 r.frm, .int .i64 r.til, .slice r.ea r.ents.length r.ec] 30) = w1.alloc (.cells (rcC r) 30) := rfl
  rw [hW5]
  obtain ⟨X, hXX⟩ : ∃ X, w1.heap.size = X := ⟨_, rfl⟩
  rw [hXX] at S2 hlX ⊢
  generalize w1.alloc (.cells (rcC r) 30) = w2 at S2 ⊢
  clear hW5 hXX
  obtain ⟨aR, nR, cR, hBx⟩ := S2.out.2.2.2.1
  have HBx : Aside (Bx (w.heap.size + 1) w2 aR nR cR s2) := hBx
  clear hBx
  have d0 : w2.cell? ⟨X, 0, none⟩ = some (.int .u8 r.kind) := S2.out.2.2.2.2.2.cell (j := 0) rfl
  have d1 : w2.cell? ⟨X, 1, none⟩ = some (.int .u32 r.id) := S2.out.2.2.2.2.2.cell (j := 1) rfl
  have d2 : w2.cell? ⟨X, 2, none⟩ = some (.int .u32 r.at_) := S2.out.2.2.2.2.2.cell (j := 2) rfl
  have d3 : w2.cell? ⟨X, 3, none⟩ = some (.slice r.na r.nodes.length r.nc) := S2.out.2.2.2.2.2.cell (j := 3) rfl
  have d4 : w2.cell? ⟨X, 4, none⟩ = some (.slice r.fa r.facts.length r.fc) := S2.out.2.2.2.2.2.cell (j := 4) rfl
  have d5 : w2.cell? ⟨X, 5, none⟩ = some (.int .u32 r.epoch) := S2.out.2.2.2.2.2.cell (j := 5) rfl
  have d6 : w2.cell? ⟨X, 6, none⟩ = some (.slice r.sa r.spans.length r.sc) := S2.out.2.2.2.2.2.cell (j := 6) rfl
  have d7 : w2.cell? ⟨X, 7, none⟩ = some (.int .i64 r.frm) := S2.out.2.2.2.2.2.cell (j := 7) rfl
  have d8 : w2.cell? ⟨X, 8, none⟩ = some (.int .i64 r.til) := S2.out.2.2.2.2.2.cell (j := 8) rfl
  have d9 : w2.cell? ⟨X, 9, none⟩ = some (.slice r.ea r.ents.length r.ec) := S2.out.2.2.2.2.2.cell (j := 9) rfl
  have hTyp : Aside (Typed (pr r)) := S2.out.2.2.2.2.1.recIn.typed
  have hDS : Aside (∀ x, dec l = some x → s2 = ([], false) ∧ pr r = x ∧ l = recB x ∧ sndRec x = true) := fun x hx => by
    obtain ⟨e1, e2⟩ := dec_is hx
    have h := rdRec_back x e2 (HTY.out x hx) []
    rw [List.append_nil, ← e1] at h
    exact ⟨by rw [← HQ.out.1, h], by rw [← HQ.out.2, h], e1, e2⟩
  cases hbad : s2.2 with
  | true =>
    have HN : Aside (dec l = none) := by
      cases hd : dec l with
      | none => rfl
      | some x => have h := (hDS.out x hd).1; rw [h] at hbad; cases hbad
    cases hsnd : sndRec (pr r) with
    | false =>
      have hE : Calls Try.prog 12 #[.agg #[.int .u8 r.kind, .int .u32 r.id, .int .u32 r.at_, .slice r.na r.nodes.length r.nc, .slice r.fa r.facts.length r.fc, .int .u32 r.epoch, .slice r.sa r.spans.length r.sc, .int .i64 r.frm, .int .i64 r.til, .slice r.ea r.ents.length r.ec]] w2 fun e w' => e = .returned (.tuple #[.slice none 0 0, .int .i64 1]) ∧ Below w2.heap.size w2 w' := refEncode_no w2 r S2.out.2.2.2.2.1.recIn hsnd
      go_wp2_with (go_at_call 12; refine hE.mono ?_; rintro e w3 ⟨rfl, g3⟩; refine Hid.out ?_)
      refine hid ?_
      clear hE d0 d1 d2 d3 d4 d5 d6 d7 d8 d9
      have hBx3 := HBx.out.keep g3
      have cb : w3.cell? ⟨w.heap.size + 1, 1, none⟩ = some (.bool true) := by have := hBx3.cell1; rw [hbad] at this; exact this
      have hP3 := S2.out.2.1.below g3
      have cx0 := hP3.cell (j := 0) rfl
      have zx0 := hP3.frz 0
      have cx1 := hP3.cell (j := 1) rfl
      have zx1 := hP3.frz 1
      have cx2 := hP3.cell (j := 2) rfl
      have zx2 := hP3.frz 2
      have cx3 := hP3.cell (j := 3) rfl
      have zx3 := hP3.frz 3
      have cx4 := hP3.cell (j := 4) rfl
      have zx4 := hP3.frz 4
      have cx5 := hP3.cell (j := 5) rfl
      have zx5 := hP3.frz 5
      have cx6 := hP3.cell (j := 6) rfl
      have zx6 := hP3.frz 6
      have cx7 := hP3.cell (j := 7) rfl
      have zx7 := hP3.frz 7
      have cx8 := hP3.cell (j := 8) rfl
      have zx8 := hP3.frz 8
      have cx9 := hP3.cell (j := 9) rfl
      have zx9 := hP3.frz 9
      have HF : Aside (∀ W, w3.grownBy W (some w.heap.size) → DecOut l (.returned (.tuple #[.agg recZ, .int .i64 70])) W ∧ Below w.heap.size w W) := fun W hG => by
        have b3 := S2.out.1.trans (g3.mono S2.out.1.size)
        exact ⟨.inl ⟨HN.out, rfl⟩, b3.grown hG b3.size (fun q hq => by injection hq with hq; omega)⟩
      clear hBx3 hP3 g3
      unfold recZ at HF
      go_wp2
      refine bodyPost_ret (v := .tuple #[.agg #[.int .u8 0, .int .u32 0, .int .u32 0, .slice none 0 0, .slice none 0 0, .int .u32 0, .slice none 0 0, .int .i64 0, .int .i64 0, .slice none 0 0], .int .i64 70]) (by simp [results, Try.results18, go_sem, *]) rfl (HF.out _ ?_)
      iterate 9 (refine grown_trans ?_ (grown_at _ _ _ _))
      exact grown_at _ _ _ _
    | true =>
      by_cases hlong : (recB (pr r)).length ≤ 60000
      · have hE : Calls Try.prog 12 #[.agg #[.int .u8 r.kind, .int .u32 r.id, .int .u32 r.at_, .slice r.na r.nodes.length r.nc, .slice r.fa r.facts.length r.fc, .int .u32 r.epoch, .slice r.sa r.spans.length r.sc, .int .i64 r.frm, .int .i64 r.til, .slice r.ea r.ents.length r.ec]] w2 fun e w' => ∃ v, e = .returned (.tuple #[v, .int .i64 0]) ∧ Strs w' v (recB (pr r)) ∧ Below w2.heap.size w2 w' := (refEncode_snd w2 r S2.out.2.2.2.2.1.recIn hsnd (snd_ents r hsnd) (snd_small r hsnd)).mono fun e w' ⟨v, h1, h2, h3⟩ => ⟨v, h1.trans (if_pos hlong), h2.strs, h3⟩
        go_wp2_with (go_at_call 12; refine hE.mono ?_; rintro e w3 ⟨va, rfl, hst, g3⟩; refine Hid.out ?_)
        refine hid ?_
        clear hE d0 d1 d2 d3 d4 d5 d6 d7 d8 d9
        have hBx3 := HBx.out.keep g3
        have cb : w3.cell? ⟨w.heap.size + 1, 1, none⟩ = some (.bool true) := by have := hBx3.cell1; rw [hbad] at this; exact this
        have hP3 := S2.out.2.1.below g3
        have cx0 := hP3.cell (j := 0) rfl
        have zx0 := hP3.frz 0
        have cx1 := hP3.cell (j := 1) rfl
        have zx1 := hP3.frz 1
        have cx2 := hP3.cell (j := 2) rfl
        have zx2 := hP3.frz 2
        have cx3 := hP3.cell (j := 3) rfl
        have zx3 := hP3.frz 3
        have cx4 := hP3.cell (j := 4) rfl
        have zx4 := hP3.frz 4
        have cx5 := hP3.cell (j := 5) rfl
        have zx5 := hP3.frz 5
        have cx6 := hP3.cell (j := 6) rfl
        have zx6 := hP3.frz 6
        have cx7 := hP3.cell (j := 7) rfl
        have zx7 := hP3.frz 7
        have cx8 := hP3.cell (j := 8) rfl
        have zx8 := hP3.frz 8
        have cx9 := hP3.cell (j := 9) rfl
        have zx9 := hP3.frz 9
        have HF : Aside (∀ W, w3.grownBy W (some w.heap.size) → DecOut l (.returned (.tuple #[.agg recZ, .int .i64 70])) W ∧ Below w.heap.size w W) := fun W hG => by
          have b3 := S2.out.1.trans (g3.mono S2.out.1.size)
          exact ⟨.inl ⟨HN.out, rfl⟩, b3.grown hG b3.size (fun q hq => by injection hq with hq; omega)⟩
        clear hBx3 hP3 g3
        unfold recZ at HF
        go_wp2
        refine bodyPost_ret (v := .tuple #[.agg #[.int .u8 0, .int .u32 0, .int .u32 0, .slice none 0 0, .slice none 0 0, .int .u32 0, .slice none 0 0, .int .i64 0, .int .i64 0, .slice none 0 0], .int .i64 70]) (by simp [results, Try.results18, go_sem, *]) rfl (HF.out _ ?_)
        iterate 9 (refine grown_trans ?_ (grown_at _ _ _ _))
        exact grown_at _ _ _ _
      · have hE : Calls Try.prog 12 #[.agg #[.int .u8 r.kind, .int .u32 r.id, .int .u32 r.at_, .slice r.na r.nodes.length r.nc, .slice r.fa r.facts.length r.fc, .int .u32 r.epoch, .slice r.sa r.spans.length r.sc, .int .i64 r.frm, .int .i64 r.til, .slice r.ea r.ents.length r.ec]] w2 fun e w' => e = .returned (.tuple #[.slice none 0 0, .int .i64 3]) ∧ Below w2.heap.size w2 w' := (refEncode_snd w2 r S2.out.2.2.2.2.1.recIn hsnd (snd_ents r hsnd) (snd_small r hsnd)).mono fun e w' ⟨v, h1, h2, h3⟩ => ⟨h1.trans (if_neg hlong), h3⟩
        go_wp2_with (go_at_call 12; refine hE.mono ?_; rintro e w3 ⟨rfl, g3⟩; refine Hid.out ?_)
        refine hid ?_
        clear hE d0 d1 d2 d3 d4 d5 d6 d7 d8 d9
        have hBx3 := HBx.out.keep g3
        have cb : w3.cell? ⟨w.heap.size + 1, 1, none⟩ = some (.bool true) := by have := hBx3.cell1; rw [hbad] at this; exact this
        have hP3 := S2.out.2.1.below g3
        have cx0 := hP3.cell (j := 0) rfl
        have zx0 := hP3.frz 0
        have cx1 := hP3.cell (j := 1) rfl
        have zx1 := hP3.frz 1
        have cx2 := hP3.cell (j := 2) rfl
        have zx2 := hP3.frz 2
        have cx3 := hP3.cell (j := 3) rfl
        have zx3 := hP3.frz 3
        have cx4 := hP3.cell (j := 4) rfl
        have zx4 := hP3.frz 4
        have cx5 := hP3.cell (j := 5) rfl
        have zx5 := hP3.frz 5
        have cx6 := hP3.cell (j := 6) rfl
        have zx6 := hP3.frz 6
        have cx7 := hP3.cell (j := 7) rfl
        have zx7 := hP3.frz 7
        have cx8 := hP3.cell (j := 8) rfl
        have zx8 := hP3.frz 8
        have cx9 := hP3.cell (j := 9) rfl
        have zx9 := hP3.frz 9
        have HF : Aside (∀ W, w3.grownBy W (some w.heap.size) → DecOut l (.returned (.tuple #[.agg recZ, .int .i64 70])) W ∧ Below w.heap.size w W) := fun W hG => by
          have b3 := S2.out.1.trans (g3.mono S2.out.1.size)
          exact ⟨.inl ⟨HN.out, rfl⟩, b3.grown hG b3.size (fun q hq => by injection hq with hq; omega)⟩
        clear hBx3 hP3 g3
        unfold recZ at HF
        go_wp2
        refine bodyPost_ret (v := .tuple #[.agg #[.int .u8 0, .int .u32 0, .int .u32 0, .slice none 0 0, .slice none 0 0, .int .u32 0, .slice none 0 0, .int .i64 0, .int .i64 0, .slice none 0 0], .int .i64 70]) (by simp [results, Try.results18, go_sem, *]) rfl (HF.out _ ?_)
        iterate 9 (refine grown_trans ?_ (grown_at _ _ _ _))
        exact grown_at _ _ _ _
  | false =>
    cases hsnd : sndRec (pr r) with
    | false =>
      have HN : Aside (dec l = none) := by
        cases hd : dec l with
        | none => rfl
        | some x => have h := hDS.out x hd; rw [h.2.1, h.2.2.2] at hsnd; cases hsnd
      have hE : Calls Try.prog 12 #[.agg #[.int .u8 r.kind, .int .u32 r.id, .int .u32 r.at_, .slice r.na r.nodes.length r.nc, .slice r.fa r.facts.length r.fc, .int .u32 r.epoch, .slice r.sa r.spans.length r.sc, .int .i64 r.frm, .int .i64 r.til, .slice r.ea r.ents.length r.ec]] w2 fun e w' => e = .returned (.tuple #[.slice none 0 0, .int .i64 1]) ∧ Below w2.heap.size w2 w' := refEncode_no w2 r S2.out.2.2.2.2.1.recIn hsnd
      go_wp2_with (go_at_call 12; refine hE.mono ?_; rintro e w3 ⟨rfl, g3⟩; refine Hid.out ?_)
      refine hid ?_
      clear hE d0 d1 d2 d3 d4 d5 d6 d7 d8 d9
      have hBx3 := HBx.out.keep g3
      have cb : w3.cell? ⟨w.heap.size + 1, 1, none⟩ = some (.bool false) := by have := hBx3.cell1; rw [hbad] at this; exact this
      have hP3 := S2.out.2.1.below g3
      have cx0 := hP3.cell (j := 0) rfl
      have zx0 := hP3.frz 0
      have cx1 := hP3.cell (j := 1) rfl
      have zx1 := hP3.frz 1
      have cx2 := hP3.cell (j := 2) rfl
      have zx2 := hP3.frz 2
      have cx3 := hP3.cell (j := 3) rfl
      have zx3 := hP3.frz 3
      have cx4 := hP3.cell (j := 4) rfl
      have zx4 := hP3.frz 4
      have cx5 := hP3.cell (j := 5) rfl
      have zx5 := hP3.frz 5
      have cx6 := hP3.cell (j := 6) rfl
      have zx6 := hP3.frz 6
      have cx7 := hP3.cell (j := 7) rfl
      have zx7 := hP3.frz 7
      have cx8 := hP3.cell (j := 8) rfl
      have zx8 := hP3.frz 8
      have cx9 := hP3.cell (j := 9) rfl
      have zx9 := hP3.frz 9
      have HF : Aside (∀ W, w3.grownBy W (some w.heap.size) → DecOut l (.returned (.tuple #[.agg recZ, .int .i64 70])) W ∧ Below w.heap.size w W) := fun W hG => by
        have b3 := S2.out.1.trans (g3.mono S2.out.1.size)
        exact ⟨.inl ⟨HN.out, rfl⟩, b3.grown hG b3.size (fun q hq => by injection hq with hq; omega)⟩
      clear hBx3 hP3 g3
      unfold recZ at HF
      go_wp2
      refine bodyPost_ret (v := .tuple #[.agg #[.int .u8 0, .int .u32 0, .int .u32 0, .slice none 0 0, .slice none 0 0, .int .u32 0, .slice none 0 0, .int .i64 0, .int .i64 0, .slice none 0 0], .int .i64 70]) (by simp [results, Try.results18, go_sem, *]) rfl (HF.out _ ?_)
      iterate 9 (refine grown_trans ?_ (grown_at _ _ _ _))
      exact grown_at _ _ _ _
    | true =>
      by_cases hlong : (recB (pr r)).length ≤ 60000
      · by_cases hne : recB (pr r) = l
        · have HD : Aside (dec l = some (pr r)) := by
            show _ = _
            have h := dec_recB hsnd hTyp.out
            rw [hne] at h
            exact h
          have hE : Calls Try.prog 12 #[.agg #[.int .u8 r.kind, .int .u32 r.id, .int .u32 r.at_, .slice r.na r.nodes.length r.nc, .slice r.fa r.facts.length r.fc, .int .u32 r.epoch, .slice r.sa r.spans.length r.sc, .int .i64 r.frm, .int .i64 r.til, .slice r.ea r.ents.length r.ec]] w2 fun e w' => ∃ v, e = .returned (.tuple #[v, .int .i64 0]) ∧ Strs w' v (recB (pr r)) ∧ Below w2.heap.size w2 w' := (refEncode_snd w2 r S2.out.2.2.2.2.1.recIn hsnd (snd_ents r hsnd) (snd_small r hsnd)).mono fun e w' ⟨v, h1, h2, h3⟩ => ⟨v, h1.trans (if_pos hlong), h2.strs, h3⟩
          rw [hne] at hE
          go_wp2_with (go_at_call 12; refine hE.mono ?_; rintro e w3 ⟨va, rfl, hst, g3⟩; refine Hid.out ?_)
          refine hid ?_
          clear hE d0 d1 d2 d3 d4 d5 d6 d7 d8 d9
          have hBx3 := HBx.out.keep g3
          have cb : w3.cell? ⟨w.heap.size + 1, 1, none⟩ = some (.bool false) := by have := hBx3.cell1; rw [hbad] at this; exact this
          have hcv2 := str_of (S2.out.2.2.1.keep g3).mem n c S2.out.2.2.1.len
          have hcv1 := hst w3 (Below.refl _ _)
          have hP3 := S2.out.2.1.below g3
          have cx0 := hP3.cell (j := 0) rfl
          have zx0 := hP3.frz 0
          have cx1 := hP3.cell (j := 1) rfl
          have zx1 := hP3.frz 1
          have cx2 := hP3.cell (j := 2) rfl
          have zx2 := hP3.frz 2
          have cx3 := hP3.cell (j := 3) rfl
          have zx3 := hP3.frz 3
          have cx4 := hP3.cell (j := 4) rfl
          have zx4 := hP3.frz 4
          have cx5 := hP3.cell (j := 5) rfl
          have zx5 := hP3.frz 5
          have cx6 := hP3.cell (j := 6) rfl
          have zx6 := hP3.frz 6
          have cx7 := hP3.cell (j := 7) rfl
          have zx7 := hP3.frz 7
          have cx8 := hP3.cell (j := 8) rfl
          have zx8 := hP3.frz 8
          have cx9 := hP3.cell (j := 9) rfl
          have zx9 := hP3.frz 9
          have hX3 := S2.out.2.2.2.2.2.below g3
          have d0 : w3.cell? ⟨X, 0, none⟩ = some (.int .u8 r.kind) := hX3.cell (j := 0) rfl
          have d1 : w3.cell? ⟨X, 1, none⟩ = some (.int .u32 r.id) := hX3.cell (j := 1) rfl
          have d2 : w3.cell? ⟨X, 2, none⟩ = some (.int .u32 r.at_) := hX3.cell (j := 2) rfl
          have d3 : w3.cell? ⟨X, 3, none⟩ = some (.slice r.na r.nodes.length r.nc) := hX3.cell (j := 3) rfl
          have d4 : w3.cell? ⟨X, 4, none⟩ = some (.slice r.fa r.facts.length r.fc) := hX3.cell (j := 4) rfl
          have d5 : w3.cell? ⟨X, 5, none⟩ = some (.int .u32 r.epoch) := hX3.cell (j := 5) rfl
          have d6 : w3.cell? ⟨X, 6, none⟩ = some (.slice r.sa r.spans.length r.sc) := hX3.cell (j := 6) rfl
          have d7 : w3.cell? ⟨X, 7, none⟩ = some (.int .i64 r.frm) := hX3.cell (j := 7) rfl
          have d8 : w3.cell? ⟨X, 8, none⟩ = some (.int .i64 r.til) := hX3.cell (j := 8) rfl
          have d9 : w3.cell? ⟨X, 9, none⟩ = some (.slice r.ea r.ents.length r.ec) := hX3.cell (j := 9) rfl
          have HF : Aside (∀ W, w3.grownBy W (some w.heap.size) → DecOut l (.returned (.tuple #[.agg #[.int .u8 r.kind, .int .u32 r.id, .int .u32 r.at_, .slice r.na r.nodes.length r.nc, .slice r.fa r.facts.length r.fc, .int .u32 r.epoch, .slice r.sa r.spans.length r.sc, .int .i64 r.frm, .int .i64 r.til, .slice r.ea r.ents.length r.ec], .int .i64 0])) W ∧ Below w.heap.size w W) := fun W hG => by
            have b3 := S2.out.1.trans (g3.mono S2.out.1.size)
            exact ⟨.inr ⟨r, rfl, HD.out, ((S2.out.2.2.2.2.1.far (grown_below g3) (far_none _ _) (far_none _ _) (far_none _ _) (far_none _ _)).far hG (hP3.far (by decide)) (hP3.far (by decide)) (hP3.far (by decide)) (hP3.far (by decide))).recIn⟩, b3.grown hG b3.size (fun q hq => by injection hq with hq; omega)⟩
          clear hX3
          clear hBx3 hP3 g3
          skip
          go_wp2
          refine bodyPost_ret (v := .tuple #[.agg #[.int .u8 r.kind, .int .u32 r.id, .int .u32 r.at_, .slice r.na r.nodes.length r.nc, .slice r.fa r.facts.length r.fc, .int .u32 r.epoch, .slice r.sa r.spans.length r.sc, .int .i64 r.frm, .int .i64 r.til, .slice r.ea r.ents.length r.ec], .int .i64 0]) (by simp [results, Try.results18, go_sem, *]) rfl (HF.out _ ?_)
          iterate 9 (refine grown_trans ?_ (grown_at _ _ _ _))
          exact grown_at _ _ _ _
        · have HN : Aside (dec l = none) := by
            cases hd : dec l with
            | none => rfl
            | some x => have h := hDS.out x hd; exact absurd (by rw [h.2.1, ← h.2.2.1]) hne
          have hE : Calls Try.prog 12 #[.agg #[.int .u8 r.kind, .int .u32 r.id, .int .u32 r.at_, .slice r.na r.nodes.length r.nc, .slice r.fa r.facts.length r.fc, .int .u32 r.epoch, .slice r.sa r.spans.length r.sc, .int .i64 r.frm, .int .i64 r.til, .slice r.ea r.ents.length r.ec]] w2 fun e w' => ∃ v, e = .returned (.tuple #[v, .int .i64 0]) ∧ Strs w' v (recB (pr r)) ∧ Below w2.heap.size w2 w' := (refEncode_snd w2 r S2.out.2.2.2.2.1.recIn hsnd (snd_ents r hsnd) (snd_small r hsnd)).mono fun e w' ⟨v, h1, h2, h3⟩ => ⟨v, h1.trans (if_pos hlong), h2.strs, h3⟩
          go_wp2_with (go_at_call 12; refine hE.mono ?_; rintro e w3 ⟨va, rfl, hst, g3⟩; refine Hid.out ?_)
          refine hid ?_
          clear hE d0 d1 d2 d3 d4 d5 d6 d7 d8 d9
          have hBx3 := HBx.out.keep g3
          have cb : w3.cell? ⟨w.heap.size + 1, 1, none⟩ = some (.bool false) := by have := hBx3.cell1; rw [hbad] at this; exact this
          have hcv2 := str_of (S2.out.2.2.1.keep g3).mem n c S2.out.2.2.1.len
          have hcv1 := hst w3 (Below.refl _ _)
          have hsn : (recB (pr r) == l) = false := by simpa using hne
          have hP3 := S2.out.2.1.below g3
          have cx0 := hP3.cell (j := 0) rfl
          have zx0 := hP3.frz 0
          have cx1 := hP3.cell (j := 1) rfl
          have zx1 := hP3.frz 1
          have cx2 := hP3.cell (j := 2) rfl
          have zx2 := hP3.frz 2
          have cx3 := hP3.cell (j := 3) rfl
          have zx3 := hP3.frz 3
          have cx4 := hP3.cell (j := 4) rfl
          have zx4 := hP3.frz 4
          have cx5 := hP3.cell (j := 5) rfl
          have zx5 := hP3.frz 5
          have cx6 := hP3.cell (j := 6) rfl
          have zx6 := hP3.frz 6
          have cx7 := hP3.cell (j := 7) rfl
          have zx7 := hP3.frz 7
          have cx8 := hP3.cell (j := 8) rfl
          have zx8 := hP3.frz 8
          have cx9 := hP3.cell (j := 9) rfl
          have zx9 := hP3.frz 9
          have HF : Aside (∀ W, w3.grownBy W (some w.heap.size) → DecOut l (.returned (.tuple #[.agg recZ, .int .i64 70])) W ∧ Below w.heap.size w W) := fun W hG => by
            have b3 := S2.out.1.trans (g3.mono S2.out.1.size)
            exact ⟨.inl ⟨HN.out, rfl⟩, b3.grown hG b3.size (fun q hq => by injection hq with hq; omega)⟩
          clear hBx3 hP3 g3
          unfold recZ at HF
          go_wp2
          refine bodyPost_ret (v := .tuple #[.agg #[.int .u8 0, .int .u32 0, .int .u32 0, .slice none 0 0, .slice none 0 0, .int .u32 0, .slice none 0 0, .int .i64 0, .int .i64 0, .slice none 0 0], .int .i64 70]) (by simp [results, Try.results18, go_sem, *]) rfl (HF.out _ ?_)
          iterate 9 (refine grown_trans ?_ (grown_at _ _ _ _))
          exact grown_at _ _ _ _
      · have HN : Aside (dec l = none) := by
          cases hd : dec l with
          | none => rfl
          | some x => have h := hDS.out x hd; rw [h.2.1, ← h.2.2.1, HLN.out] at hlong; omega
        have hE : Calls Try.prog 12 #[.agg #[.int .u8 r.kind, .int .u32 r.id, .int .u32 r.at_, .slice r.na r.nodes.length r.nc, .slice r.fa r.facts.length r.fc, .int .u32 r.epoch, .slice r.sa r.spans.length r.sc, .int .i64 r.frm, .int .i64 r.til, .slice r.ea r.ents.length r.ec]] w2 fun e w' => e = .returned (.tuple #[.slice none 0 0, .int .i64 3]) ∧ Below w2.heap.size w2 w' := (refEncode_snd w2 r S2.out.2.2.2.2.1.recIn hsnd (snd_ents r hsnd) (snd_small r hsnd)).mono fun e w' ⟨v, h1, h2, h3⟩ => ⟨h1.trans (if_neg hlong), h3⟩
        go_wp2_with (go_at_call 12; refine hE.mono ?_; rintro e w3 ⟨rfl, g3⟩; refine Hid.out ?_)
        refine hid ?_
        clear hE d0 d1 d2 d3 d4 d5 d6 d7 d8 d9
        have hBx3 := HBx.out.keep g3
        have cb : w3.cell? ⟨w.heap.size + 1, 1, none⟩ = some (.bool false) := by have := hBx3.cell1; rw [hbad] at this; exact this
        have hP3 := S2.out.2.1.below g3
        have cx0 := hP3.cell (j := 0) rfl
        have zx0 := hP3.frz 0
        have cx1 := hP3.cell (j := 1) rfl
        have zx1 := hP3.frz 1
        have cx2 := hP3.cell (j := 2) rfl
        have zx2 := hP3.frz 2
        have cx3 := hP3.cell (j := 3) rfl
        have zx3 := hP3.frz 3
        have cx4 := hP3.cell (j := 4) rfl
        have zx4 := hP3.frz 4
        have cx5 := hP3.cell (j := 5) rfl
        have zx5 := hP3.frz 5
        have cx6 := hP3.cell (j := 6) rfl
        have zx6 := hP3.frz 6
        have cx7 := hP3.cell (j := 7) rfl
        have zx7 := hP3.frz 7
        have cx8 := hP3.cell (j := 8) rfl
        have zx8 := hP3.frz 8
        have cx9 := hP3.cell (j := 9) rfl
        have zx9 := hP3.frz 9
        have HF : Aside (∀ W, w3.grownBy W (some w.heap.size) → DecOut l (.returned (.tuple #[.agg recZ, .int .i64 70])) W ∧ Below w.heap.size w W) := fun W hG => by
          have b3 := S2.out.1.trans (g3.mono S2.out.1.size)
          exact ⟨.inl ⟨HN.out, rfl⟩, b3.grown hG b3.size (fun q hq => by injection hq with hq; omega)⟩
        clear hBx3 hP3 g3
        unfold recZ at HF
        go_wp2
        refine bodyPost_ret (v := .tuple #[.agg #[.int .u8 0, .int .u32 0, .int .u32 0, .slice none 0 0, .slice none 0 0, .int .u32 0, .slice none 0 0, .int .i64 0, .int .i64 0, .slice none 0 0], .int .i64 70]) (by simp [results, Try.results18, go_sem, *]) rfl (HF.out _ ?_)
        iterate 9 (refine grown_trans ?_ (grown_at _ _ _ _))
        exact grown_at _ _ _ _
end Go.Proofs.Ytlokamblbhooaaa.code
