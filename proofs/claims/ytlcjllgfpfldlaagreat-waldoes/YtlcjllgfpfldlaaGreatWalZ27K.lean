/-
 The program's Sound.
 The program's Decode.
 The program's Decode, of bytes that a record uses up.
 Numbers laid behind bytes: the chapter's Put, the program's lay at each of its types.
 Lists laid behind bytes: the program's layAll at each of its types.
-/
import Derived.Test.YtlcjllgfpfldlaaGreatWalZ26K
import Derived.Test.YtlcjllgfpfldlaaGreatWalZ24K
set_option maxHeartbeats 8000000
open Go.ChangeShapes Go.WideShapes Go.ChangeAt Go.RowKit Go.Deep
set_option linter.unusedVariables false
set_option maxRecDepth 100000
namespace Go.Proofs.YtlcjllgfpfldlaaGreat
namespace code
open dims (nth Ints ret_bool)
set_option linter.unusedSimpArgs false
def noughtB (r : Rc) : Bool := decide (r.id = 0) && (decide (r.at_ = 0) && (decide (r.nodes.length = 0) && (decide (r.facts.length = 0) && (decide (r.epoch = 0) && (decide (r.spans.length = 0) && (decide (r.frm = 0) && (decide (r.til = 0) && decide (r.ents.length = 0))))))))
theorem nought_any (r : Rc) (w : World) : Calls Tryz.prog 99 #[rcV r] w fun e w' => e = .returned (.bool (noughtB r)) ∧ Below w.heap.size w w' :=
 nought_val r.kind r.id r.at_ r.epoch r.frm r.til r.na r.fa r.sa r.ea r.nodes.length r.nc r.facts.length r.fc r.spans.length r.sc r.ents.length r.ec w
theorem unw_any (r : Rc) (h : 1 ≤ r.kind ∧ r.kind ≤ 7) (w : World) : Calls Tryz.prog 100 #[rcV r] w fun e w' => e = .returned (rcV (unw r)) ∧ Below w.heap.size w w' := by
 obtain ⟨kind, id, at_, na, nc, nodes, fa, fc, facts, epoch, sa, sc, spans, frm, til, ea, ec, ents⟩ := r
 simp only at h
 have hk : kind = 1 ∨ kind = 2 ∨ kind = 3 ∨ kind = 4 ∨ kind = 5 ∨ kind = 6 ∨ kind = 7 := by omega
 rcases hk with rfl | rfl | rfl | rfl | rfl | rfl | rfl
 ·exact unw_1 0 id at_ epoch frm til na fa sa ea nodes.length nc facts.length fc spans.length sc ents.length ec w
 ·exact unw_2 0 id at_ epoch frm til na fa sa ea nodes.length nc facts.length fc spans.length sc ents.length ec w
 ·exact unw_3 0 id at_ epoch frm til na fa sa ea nodes.length nc facts.length fc spans.length sc ents.length ec w
 ·exact unw_4 0 id at_ epoch frm til na fa sa ea nodes.length nc facts.length fc spans.length sc ents.length ec w
 ·exact unw_5 0 id at_ epoch frm til na fa sa ea nodes.length nc facts.length fc spans.length sc ents.length ec w
 ·exact unw_6 0 id at_ epoch frm til na fa sa ea nodes.length nc facts.length fc spans.length sc ents.length ec w
 ·exact unw_7 0 id at_ epoch frm til na fa sa ea nodes.length nc facts.length fc spans.length sc ents.length ec w
theorem nodesOk_nil : nodesOk [] = true := rfl
theorem factsOk_nil : factsOk [] = true := rfl
theorem spansOk_nil : spansOk [] = true := rfl
theorem entsOk_nil : entsOk [] = true := rfl
theorem snd_code (r : Rc) (h : 1 ≤ r.kind ∧ r.kind ≤ 7) : sndRec (pr r) = (noughtB (unw r) && (nodesOk r.nodes && (factsOk (r.facts.map pf) && (spansOk r.spans && (entsOk (r.ents.map pe) && (decide (0 ≤ r.frm ∧ r.frm ≤ 10000) && decide (0 ≤ r.til ∧ r.til ≤ 10000))))))) := by
 obtain ⟨kind, id, at_, na, nc, nodes, fa, fc, facts, epoch, sa, sc, spans, frm, til, ea, ec, ents⟩ := r
 simp only at h
 have hk : kind = 1 ∨ kind = 2 ∨ kind = 3 ∨ kind = 4 ∨ kind = 5 ∨ kind = 6 ∨ kind = 7 := by omega
 rw [Bool.eq_iff_iff]
 rcases hk with rfl | rfl | rfl | rfl | rfl | rfl | rfl
 all_goals
  dsimp only [sndRec, pr, noughtB, unw, bareI, bareA, bareN, bareF, bareM, bareR]
  simp only [sndRec, pr, noughtB, unw, bareI, bareA, bareN, bareF, bareM, bareR, Bool.and_eq_true, decide_eq_true_eq, List.length_map, List.length_eq_zero_iff, List.length_nil, reduceCtorEq, if_true, if_false, true_or, or_true, Int.reduceEq, or_self, true_and, and_true]
  constructor
  ·intro hh
   simp_all [nodesOk_nil, factsOk_nil, spansOk_nil, entsOk_nil]
  ·intro hh
   simp_all

theorem sound_kind (w : World) (r : Rc) (h : ¬ (1 ≤ r.kind ∧ r.kind ≤ 7)) : Calls Tryz.prog 73 #[rcV r] w fun e w' => e = .returned (.bool (sndRec (pr r))) ∧ Below w.heap.size w w' := by
 have E : Hid (sndRec (pr r) = false) := by
  show _ = _
  dsimp only [sndRec, pr]
  rw [if_neg (by omega), if_neg (by omega), if_neg (by omega), if_neg (by omega), if_neg (by omega)]
 have hB : ∀ o, Below w.heap.size w (w.alloc o) := fun o => (Below.refl _ _).alloc (nrQ _) _
 show Calls _ _ #[.agg (rcC r)] _ _
 unfold rcC
 generalize r.kind = kind at h
 by_cases h1 : 1 ≤ kind
 ·have h7 : ¬ kind ≤ 7 := by omega
  go_enter Tryz.func73, Tryz.ntmps73
  go_wp2
  go_ret
  exact ⟨ret_bool E.out.symm, hB _⟩
 ·go_enter Tryz.func73, Tryz.ntmps73
  go_wp2
  go_ret
  exact ⟨ret_bool E.out.symm, hB _⟩

theorem sound_0 (w : World) (r : Rc) (hR : RecIn w r) (h1 : 1 ≤ r.kind) (h7 : r.kind ≤ 7) (e0 : noughtB (unw r) = false) : Calls Tryz.prog 73 #[rcV r] w fun e w' => e = .returned (.bool false) ∧ Below w.heap.size w w' := by
 have hB : Below w.heap.size w (w.alloc (.cells (rcC r) 46)) := (Below.refl _ _).alloc (nrQ _) _
 have hcell : ∀ W, Below (w.heap.size + 1) (w.alloc (.cells (rcC r) 46)) W → ∀ j x, (rcC r)[j]? = some x → W.cell? ⟨w.heap.size, j, none⟩ = some x := by
  intro W hW j x hx
  rw [hW.cell (p := ⟨w.heap.size, j, none⟩) (by simp)]
  simpa [go_sem] using hx
 have hR0 := hR.keep hB
 have hsz : (w.alloc (.cells (rcC r) 46)).heap.size = w.heap.size + 1 := by simp
 generalize hW0 : w.alloc (.cells (rcC r) 46) = W0 at hB hR0 hcell hsz
 rw [← hsz] at hcell
 have HR : Aside (RecIn W0 r) := hR0
 have H0 : Aside (Below w.heap.size w W0) := hB
 have b0 := Below.refl W0.heap.size W0
 have s0 : w.heap.size < W0.heap.size := by omega
 have hU := unw_any r ⟨h1, h7⟩ W0
 have HC : Aside (∀ W, Below W0.heap.size W0 W → ∀ j x, (rcC r)[j]? = some x → W.cell? ⟨w.heap.size, j, none⟩ = some x) := hcell
 have HW := hid_rc r hW0
 have q0 : ∀ j x, (rcC r)[j]? = some x → W0.cell? ⟨w.heap.size, j, none⟩ = some x := HC.out W0 b0
 have hne : Hid (w.heap.size ≠ W0.heap.size) := by show _ ≠ _; omega
 have E0 : Hid (noughtB (unw r) = false) := e0
 clear hR hR0 hB hcell hsz hW0 q0 hne e0
 refine calls_rc r ?_
 go_enter Tryz.func73, Tryz.ntmps73
 go_wp2_with fail
 rw [HW.out]
 refine hU.mono ?_
 rintro e w1 ⟨rfl, g1⟩
 have b1 : Below W0.heap.size W0 w1 := b0.trans g1
 clear hU
 have hC1 := nought_any (unw r) w1
 rw [E0.out] at hC1
 go_wp2_with (go_at_call 99; refine hC1.mono ?_; rintro e w2 ⟨rfl, g2⟩; refine Hid.out ?_)
 refine hid ?_
 have b2 : Below W0.heap.size W0 w2 := b1.trans (g2.mono b1.size)
 clear hC1 g2
 go_wp2
 go_ret
 exact ⟨rfl, H0.out.trans (b2.mono H0.out.size)⟩

theorem sound_1 (w : World) (r : Rc) (hR : RecIn w r) (h1 : 1 ≤ r.kind) (h7 : r.kind ≤ 7) (e0 : noughtB (unw r) = true) (e1 : nodesOk r.nodes = false) : Calls Tryz.prog 73 #[rcV r] w fun e w' => e = .returned (.bool false) ∧ Below w.heap.size w w' := by
 have hB : Below w.heap.size w (w.alloc (.cells (rcC r) 46)) := (Below.refl _ _).alloc (nrQ _) _
 have hcell : ∀ W, Below (w.heap.size + 1) (w.alloc (.cells (rcC r) 46)) W → ∀ j x, (rcC r)[j]? = some x → W.cell? ⟨w.heap.size, j, none⟩ = some x := by
  intro W hW j x hx
  rw [hW.cell (p := ⟨w.heap.size, j, none⟩) (by simp)]
  simpa [go_sem] using hx
 have hR0 := hR.keep hB
 have hsz : (w.alloc (.cells (rcC r) 46)).heap.size = w.heap.size + 1 := by simp
 generalize hW0 : w.alloc (.cells (rcC r) 46) = W0 at hB hR0 hcell hsz
 rw [← hsz] at hcell
 have HR : Aside (RecIn W0 r) := hR0
 have H0 : Aside (Below w.heap.size w W0) := hB
 have b0 := Below.refl W0.heap.size W0
 have s0 : w.heap.size < W0.heap.size := by omega
 have hU := unw_any r ⟨h1, h7⟩ W0
 have HC : Aside (∀ W, Below W0.heap.size W0 W → ∀ j x, (rcC r)[j]? = some x → W.cell? ⟨w.heap.size, j, none⟩ = some x) := hcell
 have HW := hid_rc r hW0
 have q0 : ∀ j x, (rcC r)[j]? = some x → W0.cell? ⟨w.heap.size, j, none⟩ = some x := HC.out W0 b0
 have hne : Hid (w.heap.size ≠ W0.heap.size) := by show _ ≠ _; omega
 have E0 : Hid (noughtB (unw r) = true) := e0
 have E1 : Hid (nodesOk r.nodes = false) := e1
 clear hR hR0 hB hcell hsz hW0 q0 hne e0 e1
 refine calls_rc r ?_
 go_enter Tryz.func73, Tryz.ntmps73
 go_wp2_with fail
 rw [HW.out]
 refine hU.mono ?_
 rintro e w1 ⟨rfl, g1⟩
 have b1 : Below W0.heap.size W0 w1 := b0.trans g1
 clear hU
 have hC1 := nought_any (unw r) w1
 rw [E0.out] at hC1
 go_wp2_with (go_at_call 99; refine hC1.mono ?_; rintro e w2 ⟨rfl, g2⟩; refine Hid.out ?_)
 refine hid ?_
 have b2 : Below W0.heap.size W0 w2 := b1.trans (g2.mono b1.size)
 clear hC1 g2
 have q2 := HC.out w2 b2 3 _ rfl
 have hC2 := soundNodes_any r.na r.nodes.length r.nc r.nodes w2 (HR.out.nodes.keep b2) rfl HR.out.nlen
 rw [E1.out] at hC2
 go_wp2_with (go_at_call 101; refine hC2.mono ?_; rintro e w3 ⟨rfl, rfl⟩; refine Hid.out ?_)
 refine hid ?_
 clear hC2
 go_wp2
 go_ret
 exact ⟨rfl, H0.out.trans (b2.mono H0.out.size)⟩

theorem sound_2 (w : World) (r : Rc) (hR : RecIn w r) (h1 : 1 ≤ r.kind) (h7 : r.kind ≤ 7) (e0 : noughtB (unw r) = true) (e1 : nodesOk r.nodes = true) (e2 : factsOk (r.facts.map pf) = false) : Calls Tryz.prog 73 #[rcV r] w fun e w' => e = .returned (.bool false) ∧ Below w.heap.size w w' := by
 have hB : Below w.heap.size w (w.alloc (.cells (rcC r) 46)) := (Below.refl _ _).alloc (nrQ _) _
 have hcell : ∀ W, Below (w.heap.size + 1) (w.alloc (.cells (rcC r) 46)) W → ∀ j x, (rcC r)[j]? = some x → W.cell? ⟨w.heap.size, j, none⟩ = some x := by
  intro W hW j x hx
  rw [hW.cell (p := ⟨w.heap.size, j, none⟩) (by simp)]
  simpa [go_sem] using hx
 have hR0 := hR.keep hB
 have hsz : (w.alloc (.cells (rcC r) 46)).heap.size = w.heap.size + 1 := by simp
 generalize hW0 : w.alloc (.cells (rcC r) 46) = W0 at hB hR0 hcell hsz
 rw [← hsz] at hcell
 have HR : Aside (RecIn W0 r) := hR0
 have H0 : Aside (Below w.heap.size w W0) := hB
 have b0 := Below.refl W0.heap.size W0
 have s0 : w.heap.size < W0.heap.size := by omega
 have hU := unw_any r ⟨h1, h7⟩ W0
 have HC : Aside (∀ W, Below W0.heap.size W0 W → ∀ j x, (rcC r)[j]? = some x → W.cell? ⟨w.heap.size, j, none⟩ = some x) := hcell
 have HW := hid_rc r hW0
 have q0 : ∀ j x, (rcC r)[j]? = some x → W0.cell? ⟨w.heap.size, j, none⟩ = some x := HC.out W0 b0
 have hne : Hid (w.heap.size ≠ W0.heap.size) := by show _ ≠ _; omega
 have E0 : Hid (noughtB (unw r) = true) := e0
 have E1 : Hid (nodesOk r.nodes = true) := e1
 have E2 : Hid (factsOk (r.facts.map pf) = false) := e2
 clear hR hR0 hB hcell hsz hW0 q0 hne e0 e1 e2
 refine calls_rc r ?_
 go_enter Tryz.func73, Tryz.ntmps73
 go_wp2_with fail
 rw [HW.out]
 refine hU.mono ?_
 rintro e w1 ⟨rfl, g1⟩
 have b1 : Below W0.heap.size W0 w1 := b0.trans g1
 clear hU
 have hC1 := nought_any (unw r) w1
 rw [E0.out] at hC1
 go_wp2_with (go_at_call 99; refine hC1.mono ?_; rintro e w2 ⟨rfl, g2⟩; refine Hid.out ?_)
 refine hid ?_
 have b2 : Below W0.heap.size W0 w2 := b1.trans (g2.mono b1.size)
 clear hC1 g2
 have q2 := HC.out w2 b2 3 _ rfl
 have hC2 := soundNodes_any r.na r.nodes.length r.nc r.nodes w2 (HR.out.nodes.keep b2) rfl HR.out.nlen
 rw [E1.out] at hC2
 go_wp2_with (go_at_call 101; refine hC2.mono ?_; rintro e w3 ⟨rfl, rfl⟩; refine Hid.out ?_)
 refine hid ?_
 clear hC2
 have q3 := HC.out w3 b2 4 _ rfl
 have hC3 := soundFacts_any r.fa r.facts.length r.fc r.facts w3 (HR.out.facts.keep b2) rfl HR.out.flen
 rw [E2.out] at hC3
 go_wp2_with (go_at_call 102; refine hC3.mono ?_; rintro e w4 ⟨rfl, g4⟩; refine Hid.out ?_)
 refine hid ?_
 have b4 : Below W0.heap.size W0 w4 := b2.trans (g4.mono b2.size)
 clear hC3 g4
 go_wp2
 go_ret
 exact ⟨rfl, H0.out.trans (b4.mono H0.out.size)⟩

theorem sound_3 (w : World) (r : Rc) (hR : RecIn w r) (h1 : 1 ≤ r.kind) (h7 : r.kind ≤ 7) (e0 : noughtB (unw r) = true) (e1 : nodesOk r.nodes = true) (e2 : factsOk (r.facts.map pf) = true) (e3 : spansOk r.spans = false) : Calls Tryz.prog 73 #[rcV r] w fun e w' => e = .returned (.bool false) ∧ Below w.heap.size w w' := by
 have hB : Below w.heap.size w (w.alloc (.cells (rcC r) 46)) := (Below.refl _ _).alloc (nrQ _) _
 have hcell : ∀ W, Below (w.heap.size + 1) (w.alloc (.cells (rcC r) 46)) W → ∀ j x, (rcC r)[j]? = some x → W.cell? ⟨w.heap.size, j, none⟩ = some x := by
  intro W hW j x hx
  rw [hW.cell (p := ⟨w.heap.size, j, none⟩) (by simp)]
  simpa [go_sem] using hx
 have hR0 := hR.keep hB
 have hsz : (w.alloc (.cells (rcC r) 46)).heap.size = w.heap.size + 1 := by simp
 generalize hW0 : w.alloc (.cells (rcC r) 46) = W0 at hB hR0 hcell hsz
 rw [← hsz] at hcell
 have HR : Aside (RecIn W0 r) := hR0
 have H0 : Aside (Below w.heap.size w W0) := hB
 have b0 := Below.refl W0.heap.size W0
 have s0 : w.heap.size < W0.heap.size := by omega
 have hU := unw_any r ⟨h1, h7⟩ W0
 have HC : Aside (∀ W, Below W0.heap.size W0 W → ∀ j x, (rcC r)[j]? = some x → W.cell? ⟨w.heap.size, j, none⟩ = some x) := hcell
 have HW := hid_rc r hW0
 have q0 : ∀ j x, (rcC r)[j]? = some x → W0.cell? ⟨w.heap.size, j, none⟩ = some x := HC.out W0 b0
 have hne : Hid (w.heap.size ≠ W0.heap.size) := by show _ ≠ _; omega
 have E0 : Hid (noughtB (unw r) = true) := e0
 have E1 : Hid (nodesOk r.nodes = true) := e1
 have E2 : Hid (factsOk (r.facts.map pf) = true) := e2
 have E3 : Hid (spansOk r.spans = false) := e3
 clear hR hR0 hB hcell hsz hW0 q0 hne e0 e1 e2 e3
 refine calls_rc r ?_
 go_enter Tryz.func73, Tryz.ntmps73
 go_wp2_with fail
 rw [HW.out]
 refine hU.mono ?_
 rintro e w1 ⟨rfl, g1⟩
 have b1 : Below W0.heap.size W0 w1 := b0.trans g1
 clear hU
 have hC1 := nought_any (unw r) w1
 rw [E0.out] at hC1
 go_wp2_with (go_at_call 99; refine hC1.mono ?_; rintro e w2 ⟨rfl, g2⟩; refine Hid.out ?_)
 refine hid ?_
 have b2 : Below W0.heap.size W0 w2 := b1.trans (g2.mono b1.size)
 clear hC1 g2
 have q2 := HC.out w2 b2 3 _ rfl
 have hC2 := soundNodes_any r.na r.nodes.length r.nc r.nodes w2 (HR.out.nodes.keep b2) rfl HR.out.nlen
 rw [E1.out] at hC2
 go_wp2_with (go_at_call 101; refine hC2.mono ?_; rintro e w3 ⟨rfl, rfl⟩; refine Hid.out ?_)
 refine hid ?_
 clear hC2
 have q3 := HC.out w3 b2 4 _ rfl
 have hC3 := soundFacts_any r.fa r.facts.length r.fc r.facts w3 (HR.out.facts.keep b2) rfl HR.out.flen
 rw [E2.out] at hC3
 go_wp2_with (go_at_call 102; refine hC3.mono ?_; rintro e w4 ⟨rfl, g4⟩; refine Hid.out ?_)
 refine hid ?_
 have b4 : Below W0.heap.size W0 w4 := b2.trans (g4.mono b2.size)
 clear hC3 g4
 have q4 := HC.out w4 b4 6 _ rfl
 have hC4 := soundSpans_any r.sa r.spans.length r.sc r.spans w4 (HR.out.spans.keep b4) rfl HR.out.slen
 rw [E3.out] at hC4
 go_wp2_with (go_at_call 103; refine hC4.mono ?_; rintro e w5 ⟨rfl, g5⟩; refine Hid.out ?_)
 refine hid ?_
 have b5 : Below W0.heap.size W0 w5 := b4.trans (g5.mono b4.size)
 clear hC4 g5
 go_wp2
 go_ret
 exact ⟨rfl, H0.out.trans (b5.mono H0.out.size)⟩

theorem sound_4 (w : World) (r : Rc) (hR : RecIn w r) (h1 : 1 ≤ r.kind) (h7 : r.kind ≤ 7) (e0 : noughtB (unw r) = true) (e1 : nodesOk r.nodes = true) (e2 : factsOk (r.facts.map pf) = true) (e3 : spansOk r.spans = true) (e4 : entsOk (r.ents.map pe) = false) : Calls Tryz.prog 73 #[rcV r] w fun e w' => e = .returned (.bool false) ∧ Below w.heap.size w w' := by
 have hB : Below w.heap.size w (w.alloc (.cells (rcC r) 46)) := (Below.refl _ _).alloc (nrQ _) _
 have hcell : ∀ W, Below (w.heap.size + 1) (w.alloc (.cells (rcC r) 46)) W → ∀ j x, (rcC r)[j]? = some x → W.cell? ⟨w.heap.size, j, none⟩ = some x := by
  intro W hW j x hx
  rw [hW.cell (p := ⟨w.heap.size, j, none⟩) (by simp)]
  simpa [go_sem] using hx
 have hR0 := hR.keep hB
 have hsz : (w.alloc (.cells (rcC r) 46)).heap.size = w.heap.size + 1 := by simp
 generalize hW0 : w.alloc (.cells (rcC r) 46) = W0 at hB hR0 hcell hsz
 rw [← hsz] at hcell
 have HR : Aside (RecIn W0 r) := hR0
 have H0 : Aside (Below w.heap.size w W0) := hB
 have b0 := Below.refl W0.heap.size W0
 have s0 : w.heap.size < W0.heap.size := by omega
 have hU := unw_any r ⟨h1, h7⟩ W0
 have HC : Aside (∀ W, Below W0.heap.size W0 W → ∀ j x, (rcC r)[j]? = some x → W.cell? ⟨w.heap.size, j, none⟩ = some x) := hcell
 have HW := hid_rc r hW0
 have q0 : ∀ j x, (rcC r)[j]? = some x → W0.cell? ⟨w.heap.size, j, none⟩ = some x := HC.out W0 b0
 have hne : Hid (w.heap.size ≠ W0.heap.size) := by show _ ≠ _; omega
 have E0 : Hid (noughtB (unw r) = true) := e0
 have E1 : Hid (nodesOk r.nodes = true) := e1
 have E2 : Hid (factsOk (r.facts.map pf) = true) := e2
 have E3 : Hid (spansOk r.spans = true) := e3
 have E4 : Hid (entsOk (r.ents.map pe) = false) := e4
 clear hR hR0 hB hcell hsz hW0 q0 hne e0 e1 e2 e3 e4
 refine calls_rc r ?_
 go_enter Tryz.func73, Tryz.ntmps73
 go_wp2_with fail
 rw [HW.out]
 refine hU.mono ?_
 rintro e w1 ⟨rfl, g1⟩
 have b1 : Below W0.heap.size W0 w1 := b0.trans g1
 clear hU
 have hC1 := nought_any (unw r) w1
 rw [E0.out] at hC1
 go_wp2_with (go_at_call 99; refine hC1.mono ?_; rintro e w2 ⟨rfl, g2⟩; refine Hid.out ?_)
 refine hid ?_
 have b2 : Below W0.heap.size W0 w2 := b1.trans (g2.mono b1.size)
 clear hC1 g2
 have q2 := HC.out w2 b2 3 _ rfl
 have hC2 := soundNodes_any r.na r.nodes.length r.nc r.nodes w2 (HR.out.nodes.keep b2) rfl HR.out.nlen
 rw [E1.out] at hC2
 go_wp2_with (go_at_call 101; refine hC2.mono ?_; rintro e w3 ⟨rfl, rfl⟩; refine Hid.out ?_)
 refine hid ?_
 clear hC2
 have q3 := HC.out w3 b2 4 _ rfl
 have hC3 := soundFacts_any r.fa r.facts.length r.fc r.facts w3 (HR.out.facts.keep b2) rfl HR.out.flen
 rw [E2.out] at hC3
 go_wp2_with (go_at_call 102; refine hC3.mono ?_; rintro e w4 ⟨rfl, g4⟩; refine Hid.out ?_)
 refine hid ?_
 have b4 : Below W0.heap.size W0 w4 := b2.trans (g4.mono b2.size)
 clear hC3 g4
 have q4 := HC.out w4 b4 6 _ rfl
 have hC4 := soundSpans_any r.sa r.spans.length r.sc r.spans w4 (HR.out.spans.keep b4) rfl HR.out.slen
 rw [E3.out] at hC4
 go_wp2_with (go_at_call 103; refine hC4.mono ?_; rintro e w5 ⟨rfl, g5⟩; refine Hid.out ?_)
 refine hid ?_
 have b5 : Below W0.heap.size W0 w5 := b4.trans (g5.mono b4.size)
 clear hC4 g5
 have q5 := HC.out w5 b5 9 _ rfl
 have hC5 := soundEntries_any r.ea r.ents.length r.ec r.ents w5 (HR.out.ents.keep b5) rfl HR.out.elen
 rw [E4.out] at hC5
 go_wp2_with (go_at_call 104; refine hC5.mono ?_; rintro e w6 ⟨rfl, g6⟩; refine Hid.out ?_)
 refine hid ?_
 have b6 : Below W0.heap.size W0 w6 := b5.trans (g6.mono b5.size)
 clear hC5 g6
 go_wp2
 go_ret
 exact ⟨rfl, H0.out.trans (b6.mono H0.out.size)⟩

theorem sound_5 (w : World) (r : Rc) (hR : RecIn w r) (h1 : 1 ≤ r.kind) (h7 : r.kind ≤ 7) (e0 : noughtB (unw r) = true) (e1 : nodesOk r.nodes = true) (e2 : factsOk (r.facts.map pf) = true) (e3 : spansOk r.spans = true) (e4 : entsOk (r.ents.map pe) = true) (e5 : decide (0 ≤ r.frm ∧ r.frm ≤ 10000) = false) : Calls Tryz.prog 73 #[rcV r] w fun e w' => e = .returned (.bool false) ∧ Below w.heap.size w w' := by
 have hB : Below w.heap.size w (w.alloc (.cells (rcC r) 46)) := (Below.refl _ _).alloc (nrQ _) _
 have hcell : ∀ W, Below (w.heap.size + 1) (w.alloc (.cells (rcC r) 46)) W → ∀ j x, (rcC r)[j]? = some x → W.cell? ⟨w.heap.size, j, none⟩ = some x := by
  intro W hW j x hx
  rw [hW.cell (p := ⟨w.heap.size, j, none⟩) (by simp)]
  simpa [go_sem] using hx
 have hR0 := hR.keep hB
 have hsz : (w.alloc (.cells (rcC r) 46)).heap.size = w.heap.size + 1 := by simp
 generalize hW0 : w.alloc (.cells (rcC r) 46) = W0 at hB hR0 hcell hsz
 rw [← hsz] at hcell
 have HR : Aside (RecIn W0 r) := hR0
 have H0 : Aside (Below w.heap.size w W0) := hB
 have b0 := Below.refl W0.heap.size W0
 have s0 : w.heap.size < W0.heap.size := by omega
 have hU := unw_any r ⟨h1, h7⟩ W0
 have HC : Aside (∀ W, Below W0.heap.size W0 W → ∀ j x, (rcC r)[j]? = some x → W.cell? ⟨w.heap.size, j, none⟩ = some x) := hcell
 have HW := hid_rc r hW0
 have q0 : ∀ j x, (rcC r)[j]? = some x → W0.cell? ⟨w.heap.size, j, none⟩ = some x := HC.out W0 b0
 have hne : Hid (w.heap.size ≠ W0.heap.size) := by show _ ≠ _; omega
 have E0 : Hid (noughtB (unw r) = true) := e0
 have E1 : Hid (nodesOk r.nodes = true) := e1
 have E2 : Hid (factsOk (r.facts.map pf) = true) := e2
 have E3 : Hid (spansOk r.spans = true) := e3
 have E4 : Hid (entsOk (r.ents.map pe) = true) := e4
 have E5 : Hid (decide (0 ≤ r.frm ∧ r.frm ≤ 10000) = false) := e5
 clear hR hR0 hB hcell hsz hW0 q0 hne e0 e1 e2 e3 e4 e5
 refine calls_rc r ?_
 go_enter Tryz.func73, Tryz.ntmps73
 go_wp2_with fail
 rw [HW.out]
 refine hU.mono ?_
 rintro e w1 ⟨rfl, g1⟩
 have b1 : Below W0.heap.size W0 w1 := b0.trans g1
 clear hU
 have hC1 := nought_any (unw r) w1
 rw [E0.out] at hC1
 go_wp2_with (go_at_call 99; refine hC1.mono ?_; rintro e w2 ⟨rfl, g2⟩; refine Hid.out ?_)
 refine hid ?_
 have b2 : Below W0.heap.size W0 w2 := b1.trans (g2.mono b1.size)
 clear hC1 g2
 have q2 := HC.out w2 b2 3 _ rfl
 have hC2 := soundNodes_any r.na r.nodes.length r.nc r.nodes w2 (HR.out.nodes.keep b2) rfl HR.out.nlen
 rw [E1.out] at hC2
 go_wp2_with (go_at_call 101; refine hC2.mono ?_; rintro e w3 ⟨rfl, rfl⟩; refine Hid.out ?_)
 refine hid ?_
 clear hC2
 have q3 := HC.out w3 b2 4 _ rfl
 have hC3 := soundFacts_any r.fa r.facts.length r.fc r.facts w3 (HR.out.facts.keep b2) rfl HR.out.flen
 rw [E2.out] at hC3
 go_wp2_with (go_at_call 102; refine hC3.mono ?_; rintro e w4 ⟨rfl, g4⟩; refine Hid.out ?_)
 refine hid ?_
 have b4 : Below W0.heap.size W0 w4 := b2.trans (g4.mono b2.size)
 clear hC3 g4
 have q4 := HC.out w4 b4 6 _ rfl
 have hC4 := soundSpans_any r.sa r.spans.length r.sc r.spans w4 (HR.out.spans.keep b4) rfl HR.out.slen
 rw [E3.out] at hC4
 go_wp2_with (go_at_call 103; refine hC4.mono ?_; rintro e w5 ⟨rfl, g5⟩; refine Hid.out ?_)
 refine hid ?_
 have b5 : Below W0.heap.size W0 w5 := b4.trans (g5.mono b4.size)
 clear hC4 g5
 have q5 := HC.out w5 b5 9 _ rfl
 have hC5 := soundEntries_any r.ea r.ents.length r.ec r.ents w5 (HR.out.ents.keep b5) rfl HR.out.elen
 rw [E4.out] at hC5
 go_wp2_with (go_at_call 104; refine hC5.mono ?_; rintro e w6 ⟨rfl, g6⟩; refine Hid.out ?_)
 refine hid ?_
 have b6 : Below W0.heap.size W0 w6 := b5.trans (g6.mono b5.size)
 clear hC5 g6
 have q6 := HC.out w6 b6 7 _ rfl
 have hC6 := within_any r.frm 10000 w6
 rw [E5.out] at hC6
 go_wp2_with (go_at_call 105; refine hC6.mono ?_; rintro e w7 ⟨rfl, rfl⟩; refine Hid.out ?_)
 refine hid ?_
 clear hC6
 go_wp2
 go_ret
 exact ⟨rfl, H0.out.trans (b6.mono H0.out.size)⟩

theorem sound_6 (w : World) (r : Rc) (hR : RecIn w r) (h1 : 1 ≤ r.kind) (h7 : r.kind ≤ 7) (e0 : noughtB (unw r) = true) (e1 : nodesOk r.nodes = true) (e2 : factsOk (r.facts.map pf) = true) (e3 : spansOk r.spans = true) (e4 : entsOk (r.ents.map pe) = true) (e5 : decide (0 ≤ r.frm ∧ r.frm ≤ 10000) = true) (e6 : decide (0 ≤ r.til ∧ r.til ≤ 10000) = false) : Calls Tryz.prog 73 #[rcV r] w fun e w' => e = .returned (.bool false) ∧ Below w.heap.size w w' := by
 have hB : Below w.heap.size w (w.alloc (.cells (rcC r) 46)) := (Below.refl _ _).alloc (nrQ _) _
 have hcell : ∀ W, Below (w.heap.size + 1) (w.alloc (.cells (rcC r) 46)) W → ∀ j x, (rcC r)[j]? = some x → W.cell? ⟨w.heap.size, j, none⟩ = some x := by
  intro W hW j x hx
  rw [hW.cell (p := ⟨w.heap.size, j, none⟩) (by simp)]
  simpa [go_sem] using hx
 have hR0 := hR.keep hB
 have hsz : (w.alloc (.cells (rcC r) 46)).heap.size = w.heap.size + 1 := by simp
 generalize hW0 : w.alloc (.cells (rcC r) 46) = W0 at hB hR0 hcell hsz
 rw [← hsz] at hcell
 have HR : Aside (RecIn W0 r) := hR0
 have H0 : Aside (Below w.heap.size w W0) := hB
 have b0 := Below.refl W0.heap.size W0
 have s0 : w.heap.size < W0.heap.size := by omega
 have hU := unw_any r ⟨h1, h7⟩ W0
 have HC : Aside (∀ W, Below W0.heap.size W0 W → ∀ j x, (rcC r)[j]? = some x → W.cell? ⟨w.heap.size, j, none⟩ = some x) := hcell
 have HW := hid_rc r hW0
 have q0 : ∀ j x, (rcC r)[j]? = some x → W0.cell? ⟨w.heap.size, j, none⟩ = some x := HC.out W0 b0
 have hne : Hid (w.heap.size ≠ W0.heap.size) := by show _ ≠ _; omega
 have E0 : Hid (noughtB (unw r) = true) := e0
 have E1 : Hid (nodesOk r.nodes = true) := e1
 have E2 : Hid (factsOk (r.facts.map pf) = true) := e2
 have E3 : Hid (spansOk r.spans = true) := e3
 have E4 : Hid (entsOk (r.ents.map pe) = true) := e4
 have E5 : Hid (decide (0 ≤ r.frm ∧ r.frm ≤ 10000) = true) := e5
 have E6 : Hid (decide (0 ≤ r.til ∧ r.til ≤ 10000) = false) := e6
 clear hR hR0 hB hcell hsz hW0 q0 hne e0 e1 e2 e3 e4 e5 e6
 refine calls_rc r ?_
 go_enter Tryz.func73, Tryz.ntmps73
 go_wp2_with fail
 rw [HW.out]
 refine hU.mono ?_
 rintro e w1 ⟨rfl, g1⟩
 have b1 : Below W0.heap.size W0 w1 := b0.trans g1
 clear hU
 have hC1 := nought_any (unw r) w1
 rw [E0.out] at hC1
 go_wp2_with (go_at_call 99; refine hC1.mono ?_; rintro e w2 ⟨rfl, g2⟩; refine Hid.out ?_)
 refine hid ?_
 have b2 : Below W0.heap.size W0 w2 := b1.trans (g2.mono b1.size)
 clear hC1 g2
 have q2 := HC.out w2 b2 3 _ rfl
 have hC2 := soundNodes_any r.na r.nodes.length r.nc r.nodes w2 (HR.out.nodes.keep b2) rfl HR.out.nlen
 rw [E1.out] at hC2
 go_wp2_with (go_at_call 101; refine hC2.mono ?_; rintro e w3 ⟨rfl, rfl⟩; refine Hid.out ?_)
 refine hid ?_
 clear hC2
 have q3 := HC.out w3 b2 4 _ rfl
 have hC3 := soundFacts_any r.fa r.facts.length r.fc r.facts w3 (HR.out.facts.keep b2) rfl HR.out.flen
 rw [E2.out] at hC3
 go_wp2_with (go_at_call 102; refine hC3.mono ?_; rintro e w4 ⟨rfl, g4⟩; refine Hid.out ?_)
 refine hid ?_
 have b4 : Below W0.heap.size W0 w4 := b2.trans (g4.mono b2.size)
 clear hC3 g4
 have q4 := HC.out w4 b4 6 _ rfl
 have hC4 := soundSpans_any r.sa r.spans.length r.sc r.spans w4 (HR.out.spans.keep b4) rfl HR.out.slen
 rw [E3.out] at hC4
 go_wp2_with (go_at_call 103; refine hC4.mono ?_; rintro e w5 ⟨rfl, g5⟩; refine Hid.out ?_)
 refine hid ?_
 have b5 : Below W0.heap.size W0 w5 := b4.trans (g5.mono b4.size)
 clear hC4 g5
 have q5 := HC.out w5 b5 9 _ rfl
 have hC5 := soundEntries_any r.ea r.ents.length r.ec r.ents w5 (HR.out.ents.keep b5) rfl HR.out.elen
 rw [E4.out] at hC5
 go_wp2_with (go_at_call 104; refine hC5.mono ?_; rintro e w6 ⟨rfl, g6⟩; refine Hid.out ?_)
 refine hid ?_
 have b6 : Below W0.heap.size W0 w6 := b5.trans (g6.mono b5.size)
 clear hC5 g6
 have q6 := HC.out w6 b6 7 _ rfl
 have hC6 := within_any r.frm 10000 w6
 rw [E5.out] at hC6
 go_wp2_with (go_at_call 105; refine hC6.mono ?_; rintro e w7 ⟨rfl, rfl⟩; refine Hid.out ?_)
 refine hid ?_
 clear hC6
 have q7 := HC.out w7 b6 8 _ rfl
 have hC7 := within_any r.til 10000 w7
 rw [E6.out] at hC7
 go_wp2_with (go_at_call 105; refine hC7.mono ?_; rintro e w8 ⟨rfl, rfl⟩; refine Hid.out ?_)
 refine hid ?_
 clear hC7
 go_wp2
 go_ret
 exact ⟨rfl, H0.out.trans (b6.mono H0.out.size)⟩

theorem sound_7 (w : World) (r : Rc) (hR : RecIn w r) (h1 : 1 ≤ r.kind) (h7 : r.kind ≤ 7) (e0 : noughtB (unw r) = true) (e1 : nodesOk r.nodes = true) (e2 : factsOk (r.facts.map pf) = true) (e3 : spansOk r.spans = true) (e4 : entsOk (r.ents.map pe) = true) (e5 : decide (0 ≤ r.frm ∧ r.frm ≤ 10000) = true) (e6 : decide (0 ≤ r.til ∧ r.til ≤ 10000) = true) : Calls Tryz.prog 73 #[rcV r] w fun e w' => e = .returned (.bool true) ∧ Below w.heap.size w w' := by
 have hB : Below w.heap.size w (w.alloc (.cells (rcC r) 46)) := (Below.refl _ _).alloc (nrQ _) _
 have hcell : ∀ W, Below (w.heap.size + 1) (w.alloc (.cells (rcC r) 46)) W → ∀ j x, (rcC r)[j]? = some x → W.cell? ⟨w.heap.size, j, none⟩ = some x := by
  intro W hW j x hx
  rw [hW.cell (p := ⟨w.heap.size, j, none⟩) (by simp)]
  simpa [go_sem] using hx
 have hR0 := hR.keep hB
 have hsz : (w.alloc (.cells (rcC r) 46)).heap.size = w.heap.size + 1 := by simp
 generalize hW0 : w.alloc (.cells (rcC r) 46) = W0 at hB hR0 hcell hsz
 rw [← hsz] at hcell
 have HR : Aside (RecIn W0 r) := hR0
 have H0 : Aside (Below w.heap.size w W0) := hB
 have b0 := Below.refl W0.heap.size W0
 have s0 : w.heap.size < W0.heap.size := by omega
 have hU := unw_any r ⟨h1, h7⟩ W0
 have HC : Aside (∀ W, Below W0.heap.size W0 W → ∀ j x, (rcC r)[j]? = some x → W.cell? ⟨w.heap.size, j, none⟩ = some x) := hcell
 have HW := hid_rc r hW0
 have q0 : ∀ j x, (rcC r)[j]? = some x → W0.cell? ⟨w.heap.size, j, none⟩ = some x := HC.out W0 b0
 have hne : Hid (w.heap.size ≠ W0.heap.size) := by show _ ≠ _; omega
 have E0 : Hid (noughtB (unw r) = true) := e0
 have E1 : Hid (nodesOk r.nodes = true) := e1
 have E2 : Hid (factsOk (r.facts.map pf) = true) := e2
 have E3 : Hid (spansOk r.spans = true) := e3
 have E4 : Hid (entsOk (r.ents.map pe) = true) := e4
 have E5 : Hid (decide (0 ≤ r.frm ∧ r.frm ≤ 10000) = true) := e5
 have E6 : Hid (decide (0 ≤ r.til ∧ r.til ≤ 10000) = true) := e6
 clear hR hR0 hB hcell hsz hW0 q0 hne e0 e1 e2 e3 e4 e5 e6
 refine calls_rc r ?_
 go_enter Tryz.func73, Tryz.ntmps73
 go_wp2_with fail
 rw [HW.out]
 refine hU.mono ?_
 rintro e w1 ⟨rfl, g1⟩
 have b1 : Below W0.heap.size W0 w1 := b0.trans g1
 clear hU
 have hC1 := nought_any (unw r) w1
 rw [E0.out] at hC1
 go_wp2_with (go_at_call 99; refine hC1.mono ?_; rintro e w2 ⟨rfl, g2⟩; refine Hid.out ?_)
 refine hid ?_
 have b2 : Below W0.heap.size W0 w2 := b1.trans (g2.mono b1.size)
 clear hC1 g2
 have q2 := HC.out w2 b2 3 _ rfl
 have hC2 := soundNodes_any r.na r.nodes.length r.nc r.nodes w2 (HR.out.nodes.keep b2) rfl HR.out.nlen
 rw [E1.out] at hC2
 go_wp2_with (go_at_call 101; refine hC2.mono ?_; rintro e w3 ⟨rfl, rfl⟩; refine Hid.out ?_)
 refine hid ?_
 clear hC2
 have q3 := HC.out w3 b2 4 _ rfl
 have hC3 := soundFacts_any r.fa r.facts.length r.fc r.facts w3 (HR.out.facts.keep b2) rfl HR.out.flen
 rw [E2.out] at hC3
 go_wp2_with (go_at_call 102; refine hC3.mono ?_; rintro e w4 ⟨rfl, g4⟩; refine Hid.out ?_)
 refine hid ?_
 have b4 : Below W0.heap.size W0 w4 := b2.trans (g4.mono b2.size)
 clear hC3 g4
 have q4 := HC.out w4 b4 6 _ rfl
 have hC4 := soundSpans_any r.sa r.spans.length r.sc r.spans w4 (HR.out.spans.keep b4) rfl HR.out.slen
 rw [E3.out] at hC4
 go_wp2_with (go_at_call 103; refine hC4.mono ?_; rintro e w5 ⟨rfl, g5⟩; refine Hid.out ?_)
 refine hid ?_
 have b5 : Below W0.heap.size W0 w5 := b4.trans (g5.mono b4.size)
 clear hC4 g5
 have q5 := HC.out w5 b5 9 _ rfl
 have hC5 := soundEntries_any r.ea r.ents.length r.ec r.ents w5 (HR.out.ents.keep b5) rfl HR.out.elen
 rw [E4.out] at hC5
 go_wp2_with (go_at_call 104; refine hC5.mono ?_; rintro e w6 ⟨rfl, g6⟩; refine Hid.out ?_)
 refine hid ?_
 have b6 : Below W0.heap.size W0 w6 := b5.trans (g6.mono b5.size)
 clear hC5 g6
 have q6 := HC.out w6 b6 7 _ rfl
 have hC6 := within_any r.frm 10000 w6
 rw [E5.out] at hC6
 go_wp2_with (go_at_call 105; refine hC6.mono ?_; rintro e w7 ⟨rfl, rfl⟩; refine Hid.out ?_)
 refine hid ?_
 clear hC6
 have q7 := HC.out w7 b6 8 _ rfl
 have hC7 := within_any r.til 10000 w7
 rw [E6.out] at hC7
 go_wp2_with (go_at_call 105; refine hC7.mono ?_; rintro e w8 ⟨rfl, rfl⟩; refine Hid.out ?_)
 refine hid ?_
 clear hC7
 go_wp2
 go_ret
 exact ⟨rfl, H0.out.trans (b6.mono H0.out.size)⟩

theorem sound_any (w : World) (r : Rc) (hR : RecIn w r) : Calls Tryz.prog 73 #[rcV r] w fun e w' => e = .returned (.bool (sndRec (pr r))) ∧ Below w.heap.size w w' := by
 by_cases h : 1 ≤ r.kind ∧ r.kind ≤ 7
 rotate_left
 ·exact sound_kind w r h
 rw [snd_code r h]
 by_cases e0 : noughtB (unw r) = true
 rotate_left
 ·rw [Bool.not_eq_true] at e0
  rw [e0]
  exact sound_0 w r hR h.1 h.2 e0
 by_cases e1 : nodesOk r.nodes = true
 rotate_left
 ·rw [Bool.not_eq_true] at e1
  rw [e0, e1]
  exact sound_1 w r hR h.1 h.2 e0 e1
 by_cases e2 : factsOk (r.facts.map pf) = true
 rotate_left
 ·rw [Bool.not_eq_true] at e2
  rw [e0, e1, e2]
  exact sound_2 w r hR h.1 h.2 e0 e1 e2
 by_cases e3 : spansOk r.spans = true
 rotate_left
 ·rw [Bool.not_eq_true] at e3
  rw [e0, e1, e2, e3]
  exact sound_3 w r hR h.1 h.2 e0 e1 e2 e3
 by_cases e4 : entsOk (r.ents.map pe) = true
 rotate_left
 ·rw [Bool.not_eq_true] at e4
  rw [e0, e1, e2, e3, e4]
  exact sound_4 w r hR h.1 h.2 e0 e1 e2 e3 e4
 by_cases e5 : decide (0 ≤ r.frm ∧ r.frm ≤ 10000) = true
 rotate_left
 ·rw [Bool.not_eq_true] at e5
  rw [e0, e1, e2, e3, e4, e5]
  exact sound_5 w r hR h.1 h.2 e0 e1 e2 e3 e4 e5
 by_cases e6 : decide (0 ≤ r.til ∧ r.til ≤ 10000) = true
 rotate_left
 ·rw [Bool.not_eq_true] at e6
  rw [e0, e1, e2, e3, e4, e5, e6]
  exact sound_6 w r hR h.1 h.2 e0 e1 e2 e3 e4 e5 e6
 rw [e0, e1, e2, e3, e4, e5, e6]
 exact sound_7 w r hR h.1 h.2 e0 e1 e2 e3 e4 e5 e6
theorem below_two {w w1 w2 w3 : World} {B h0 h1 : Nat} (hb : Below B w w1) (hB : B ≤ w1.heap.size) (g1 : w1.grownBy w2 (some h0)) (g2 : w2.grownBy w3 (some h1)) (e0 : B ≤ h0) (e1 : B ≤ h1) : Below B w w3 :=
 (hb.grown g1 hB fun q hq => by injection hq with hq; omega).grown g2 (ntQ hB g1.size) fun q hq => by injection hq with hq; omega
theorem below_one {w w1 w2 : World} {B h0 : Nat} (hb : Below B w w1) (hB : B ≤ w1.heap.size) (g1 : w1.grownBy w2 (some h0)) (e0 : B ≤ h0) : Below B w w2 :=
 hb.grown g1 hB fun q hq => by injection hq with hq; omega

theorem decode_miss (w : World) (a : Option Addr) (n c : Nat) (l : List UInt8) (hI : ByIn w a l) (hA : l ≠ [] → ∀ p, a = some p → p.block < w.heap.size) (hn : l.length = n) (hc : n ≤ c) (h6 : n ≤ 60000) (hp : pRec l = none) :
  Calls Tryz.prog 49 #[.slice a n c] w fun e w' => e = .returned (.tuple #[.agg recZ, .int .u16 70]) ∧ Below w.heap.size w w' := by
 have hlow : l ≠ [] → ∀ p, a = some p → p.block < w.heap.size + 2 := fun h0 p hp => by have := hA h0 p hp; omega
 have hb0 : Below w.heap.size w (((w.alloc (.cells #[.int .u8 0, .int .u32 0, .int .u32 0, .slice none 0 0, .slice none 0 0, .int .u32 0, .slice none 0 0, .int .i64 0, .int .i64 0, .slice none 0 0] 46)).alloc (.cells #[.int .u16 0] 32)).alloc (.cells #[.slice a n c] 131)) := by (repeat (first | with_reducible exact Below.refl _ _ | (with_reducible refine Below.drew ?_) | (with_reducible refine Below.alloc ?_ (by first | omega | (simp; done) | (simp; omega)) _) | (with_reducible refine Below.setCell ?_ (by first | exact nrQ _ | omega | (simp; done) | (simp; omega)) _)))
 have hx0 : Boxed (((w.alloc (.cells #[.int .u8 0, .int .u32 0, .int .u32 0, .slice none 0 0, .slice none 0 0, .int .u32 0, .slice none 0 0, .int .i64 0, .int .i64 0, .slice none 0 0] 46)).alloc (.cells #[.int .u16 0] 32)).alloc (.cells #[.slice a n c] 131)) w.heap.size recZ 46 := ((Boxed.new w recZ 46).grown (World.grownBy_alloc _ _ none) (by simp)).grown (World.grownBy_alloc _ _ none) (by simp)
 have hy0 : Boxed (((w.alloc (.cells #[.int .u8 0, .int .u32 0, .int .u32 0, .slice none 0 0, .slice none 0 0, .int .u32 0, .slice none 0 0, .int .i64 0, .int .i64 0, .slice none 0 0] 46)).alloc (.cells #[.int .u16 0] 32)).alloc (.cells #[.slice a n c] 131)) (w.heap.size + 1) #[.int .u16 0] 32 := by
  have := (Boxed.new (w.alloc (.cells #[.int .u8 0, .int .u32 0, .int .u32 0, .slice none 0 0, .slice none 0 0, .int .u32 0, .slice none 0 0, .int .i64 0, .int .i64 0, .slice none 0 0] 46)) #[.int .u16 0] 32).grown (World.grownBy_alloc _ (.cells #[.slice a n c] 131) none) (by simp)
  simpa using this
 have hr0 : Boxed (((w.alloc (.cells #[.int .u8 0, .int .u32 0, .int .u32 0, .slice none 0 0, .slice none 0 0, .int .u32 0, .slice none 0 0, .int .i64 0, .int .i64 0, .slice none 0 0] 46)).alloc (.cells #[.int .u16 0] 32)).alloc (.cells #[.slice a n c] 131)) (w.heap.size + 2) #[.slice a n c] 131 := by
  have := Boxed.new ((w.alloc (.cells #[.int .u8 0, .int .u32 0, .int .u32 0, .slice none 0 0, .slice none 0 0, .int .u32 0, .slice none 0 0, .int .i64 0, .int .i64 0, .slice none 0 0] 46)).alloc (.cells #[.int .u16 0] 32)) #[.slice a n c] 131
  simpa using this
 have hsz : (((w.alloc (.cells #[.int .u8 0, .int .u32 0, .int .u32 0, .slice none 0 0, .slice none 0 0, .int .u32 0, .slice none 0 0, .int .i64 0, .int .i64 0, .slice none 0 0] 46)).alloc (.cells #[.int .u16 0] 32)).alloc (.cells #[.slice a n c] 131)).heap.size = w.heap.size + 3 := by simp
 have hRd : RdL (w.heap.size + 2) (((w.alloc (.cells #[.int .u8 0, .int .u32 0, .int .u32 0, .slice none 0 0, .slice none 0 0, .int .u32 0, .slice none 0 0, .int .i64 0, .int .i64 0, .slice none 0 0] 46)).alloc (.cells #[.int .u16 0] 32)).alloc (.cells #[.slice a n c] 131)) l := ⟨a, n, c, hr0, hn, hc, hlow, hI.keep hb0⟩
 generalize hWW : ((w.alloc (.cells #[.int .u8 0, .int .u32 0, .int .u32 0, .slice none 0 0, .slice none 0 0, .int .u32 0, .slice none 0 0, .int .i64 0, .int .i64 0, .slice none 0 0] 46)).alloc (.cells #[.int .u16 0] 32)).alloc (.cells #[.slice a n c] 131) = W0 at hb0 hx0 hy0 hr0 hRd hsz
 have HW : Hid (_ = W0) := hWW
 have hC1 := readRec_any (w.heap.size + 2) (w.heap.size + 3) (by omega) W0 l (by omega) hRd (by omega)
 have hlz : ¬ (60000 : Int) < (n : Int) := by omega
 have H0 : Aside (Below w.heap.size w W0) := hb0
 clear hWW hb0 hlow hRd hr0 hI hA
 have hmf : ∀ (fn : Fn) (first cap : Array Value) (w : World), (Instr.makeFunc fn first cap).run Tryz.prog w = .ok (.func fn first cap) w := fun _ _ _ _ => rfl
 go_enter_defers Tryz.func49, Tryz.ntmps49
 go_wp2_with fail
 rw [HW.out]
 refine hC1.mono ?_
 intro e w1 hP
 obtain ⟨⟨m, rfl⟩, hgr⟩ := hP.miss hp
 have x1 := hx0.grown hgr (by simp only [ne_eq, oiQ]; omega)
 have y1 := hy0.grown hgr (by simp only [ne_eq, oiQ]; omega)
 have HB1 : Aside (Below w.heap.size w w1) := below_one H0.out H0.out.size hgr (by omega)
 refine leaves_cons (f := 71) (args := #[.pointer (some ⟨w.heap.size, 0, none⟩), .pointer (some ⟨w.heap.size + 1, 0, none⟩)]) (by simp) (by simp [go_sem]) ?_
 refine (catch_missing w.heap.size (w.heap.size + 1) m w1 _ x1 y1 (by omega)).mono ?_
 rintro e u' w2 ⟨rfl, rfl, hK⟩
 obtain ⟨⟨w3, g1, g2⟩, k0, k1⟩ := hK
 have HB2 : Aside (Below w.heap.size w w2) := below_two HB1.out HB1.out.size g1 g2 (by omega) (by omega)
 have c0 := k0.cell (j := 0) rfl
 have c1 := k0.cell (j := 1) rfl
 have c2 := k0.cell (j := 2) rfl
 have c3 := k0.cell (j := 3) rfl
 have c4 := k0.cell (j := 4) rfl
 have c5 := k0.cell (j := 5) rfl
 have c6 := k0.cell (j := 6) rfl
 have c7 := k0.cell (j := 7) rfl
 have c8 := k0.cell (j := 8) rfl
 have c9 := k0.cell (j := 9) rfl
 have d0 := k1.cell (j := 0) rfl
 simp [Leaves, settle, results, Tryz.results49, go_sem, *]
 exact ⟨rfl, HB2.out⟩

theorem decode_rest (w : World) (a : Option Addr) (n c : Nat) (l : List UInt8) (hI : ByIn w a l) (hA : l ≠ [] → ∀ p, a = some p → p.block < w.heap.size) (hn : l.length = n) (hc : n ≤ c) (h6 : n ≤ 60000) (x : PRec) (rest : List UInt8) (hp : pRec l = some (x, rest)) (hr0 : 0 < rest.length) :
  Calls Tryz.prog 49 #[.slice a n c] w fun e w' => e = .returned (.tuple #[.agg recZ, .int .u16 70]) ∧ Below w.heap.size w w' := by
 have hlow : l ≠ [] → ∀ p, a = some p → p.block < w.heap.size + 2 := fun h0 p hp => by have := hA h0 p hp; omega
 have hb0 : Below w.heap.size w (((w.alloc (.cells #[.int .u8 0, .int .u32 0, .int .u32 0, .slice none 0 0, .slice none 0 0, .int .u32 0, .slice none 0 0, .int .i64 0, .int .i64 0, .slice none 0 0] 46)).alloc (.cells #[.int .u16 0] 32)).alloc (.cells #[.slice a n c] 131)) := by (repeat (first | with_reducible exact Below.refl _ _ | (with_reducible refine Below.drew ?_) | (with_reducible refine Below.alloc ?_ (by first | omega | (simp; done) | (simp; omega)) _) | (with_reducible refine Below.setCell ?_ (by first | exact nrQ _ | omega | (simp; done) | (simp; omega)) _)))
 have hx0 : Boxed (((w.alloc (.cells #[.int .u8 0, .int .u32 0, .int .u32 0, .slice none 0 0, .slice none 0 0, .int .u32 0, .slice none 0 0, .int .i64 0, .int .i64 0, .slice none 0 0] 46)).alloc (.cells #[.int .u16 0] 32)).alloc (.cells #[.slice a n c] 131)) w.heap.size recZ 46 := ((Boxed.new w recZ 46).grown (World.grownBy_alloc _ _ none) (by simp)).grown (World.grownBy_alloc _ _ none) (by simp)
 have hy0 : Boxed (((w.alloc (.cells #[.int .u8 0, .int .u32 0, .int .u32 0, .slice none 0 0, .slice none 0 0, .int .u32 0, .slice none 0 0, .int .i64 0, .int .i64 0, .slice none 0 0] 46)).alloc (.cells #[.int .u16 0] 32)).alloc (.cells #[.slice a n c] 131)) (w.heap.size + 1) #[.int .u16 0] 32 := by
  have := (Boxed.new (w.alloc (.cells #[.int .u8 0, .int .u32 0, .int .u32 0, .slice none 0 0, .slice none 0 0, .int .u32 0, .slice none 0 0, .int .i64 0, .int .i64 0, .slice none 0 0] 46)) #[.int .u16 0] 32).grown (World.grownBy_alloc _ (.cells #[.slice a n c] 131) none) (by simp)
  simpa using this
 have hbx : Boxed (((w.alloc (.cells #[.int .u8 0, .int .u32 0, .int .u32 0, .slice none 0 0, .slice none 0 0, .int .u32 0, .slice none 0 0, .int .i64 0, .int .i64 0, .slice none 0 0] 46)).alloc (.cells #[.int .u16 0] 32)).alloc (.cells #[.slice a n c] 131)) (w.heap.size + 2) #[.slice a n c] 131 := by
  have := Boxed.new ((w.alloc (.cells #[.int .u8 0, .int .u32 0, .int .u32 0, .slice none 0 0, .slice none 0 0, .int .u32 0, .slice none 0 0, .int .i64 0, .int .i64 0, .slice none 0 0] 46)).alloc (.cells #[.int .u16 0] 32)) #[.slice a n c] 131
  simpa using this
 have hsz : (((w.alloc (.cells #[.int .u8 0, .int .u32 0, .int .u32 0, .slice none 0 0, .slice none 0 0, .int .u32 0, .slice none 0 0, .int .i64 0, .int .i64 0, .slice none 0 0] 46)).alloc (.cells #[.int .u16 0] 32)).alloc (.cells #[.slice a n c] 131)).heap.size = w.heap.size + 3 := by simp
 have hRd : RdL (w.heap.size + 2) (((w.alloc (.cells #[.int .u8 0, .int .u32 0, .int .u32 0, .slice none 0 0, .slice none 0 0, .int .u32 0, .slice none 0 0, .int .i64 0, .int .i64 0, .slice none 0 0] 46)).alloc (.cells #[.int .u16 0] 32)).alloc (.cells #[.slice a n c] 131)) l := ⟨a, n, c, hbx, hn, hc, hlow, hI.keep hb0⟩
 generalize hWW : ((w.alloc (.cells #[.int .u8 0, .int .u32 0, .int .u32 0, .slice none 0 0, .slice none 0 0, .int .u32 0, .slice none 0 0, .int .i64 0, .int .i64 0, .slice none 0 0] 46)).alloc (.cells #[.int .u16 0] 32)).alloc (.cells #[.slice a n c] 131) = W0 at hb0 hx0 hy0 hbx hRd hsz
 have HW : Hid (_ = W0) := hWW
 have hC1 := readRec_any (w.heap.size + 2) (w.heap.size + 3) (by omega) W0 l (by omega) hRd (by omega)
 have hlz : ¬ (60000 : Int) < (n : Int) := by omega
 have H0 : Aside (Below w.heap.size w W0) := hb0
 clear hWW hb0 hlow hRd hbx hI hA
 have hmf : ∀ (fn : Fn) (first cap : Array Value) (w : World), (Instr.makeFunc fn first cap).run Tryz.prog w = .ok (.func fn first cap) w := fun _ _ _ _ => rfl
 go_enter_defers Tryz.func49, Tryz.ntmps49
 go_wp2_with fail
 rw [HW.out]
 refine hC1.mono ?_
 intro e w1 hP
 obtain ⟨v1, rfl, ⟨r, rfl, hpr, hO⟩, hW1⟩ := hP.got hp
 have x1 := hx0.grown hW1.grown (by simp only [ne_eq, oiQ]; omega)
 have y1 := hy0.grown hW1.grown (by simp only [ne_eq, oiQ]; omega)
 have HB1 : Aside (Below w.heap.size w w1) := below_one H0.out H0.out.size hW1.grown (by omega)
 obtain ⟨a', n', c', hr⟩ := hW1.rdr
 have q0 := hr.cell
 have hn' : n' = rest.length := hr.len.symm
 have hs1 : w.heap.size + 3 ≤ w1.heap.size := by have := hW1.grown.size; omega
 have hl0 : w.heap.size < w1.heap.size := by omega
 have hl1 : w.heap.size + 1 < w1.heap.size := by omega
 have hl2 : w.heap.size + 2 < w1.heap.size := by omega
 have HO : Aside (RcOwn (w.heap.size + 3) w1 r ∧ pr r = x) := ⟨hO, hpr⟩
 have HX : Aside (Boxed w1 w.heap.size recZ 46 ∧ Boxed w1 (w.heap.size + 1) #[.int .u16 0] 32) := ⟨x1, y1⟩
 have cx0 := x1.cell (j := 0) rfl
 have zx0 := x1.frz 0
 have cx1 := x1.cell (j := 1) rfl
 have zx1 := x1.frz 1
 have cx2 := x1.cell (j := 2) rfl
 have zx2 := x1.frz 2
 have cx3 := x1.cell (j := 3) rfl
 have zx3 := x1.frz 3
 have cx4 := x1.cell (j := 4) rfl
 have zx4 := x1.frz 4
 have cx5 := x1.cell (j := 5) rfl
 have zx5 := x1.frz 5
 have cx6 := x1.cell (j := 6) rfl
 have zx6 := x1.frz 6
 have cx7 := x1.cell (j := 7) rfl
 have zx7 := x1.frz 7
 have cx8 := x1.cell (j := 8) rfl
 have zx8 := x1.frz 8
 have cx9 := x1.cell (j := 9) rfl
 have zx9 := x1.frz 9
 have cy0 := y1.cell (j := 0) rfl
 have zy0 := y1.frz 0
 clear hC1 hP HW hx0 hy0 H0 hW1 hr hO hpr x1 y1
 show _
 unfold rcV rcC
 have hnz : (0 : Int) < (n' : Int) := by omega
 clear hn'
 go_wp2
 refine leaves_cons (f := 71) (args := #[.pointer (some ⟨w.heap.size, 0, none⟩), .pointer (some ⟨w.heap.size + 1, 0, none⟩)]) (by simp) (by simp [go_sem]) ?_
 refine (catch_idle ⟨w.heap.size, 0, none⟩ ⟨w.heap.size + 1, 0, none⟩ _).mono ?_
 rintro e u' w'' ⟨rfl, rfl, rfl⟩
 simp [Leaves, settle, results, Tryz.results49, go_sem, *]
 refine ⟨rfl, ?_⟩
 repeat (first | with_reducible exact HB1.out | (with_reducible refine Below.alloc ?_ (by first | omega | (simp; omega)) _) | (with_reducible refine Below.setCell ?_ (by first | exact nrQ _ | (simp; done) | omega | (simp; omega)) _))
theorem decode_bad (w : World) (a : Option Addr) (n c : Nat) (l : List UInt8) (hI : ByIn w a l) (hA : l ≠ [] → ∀ p, a = some p → p.block < w.heap.size) (hn : l.length = n) (hc : n ≤ c) (h6 : n ≤ 60000) (x : PRec) (rest : List UInt8) (hp : pRec l = some (x, rest)) (hr0 : rest.length = 0) (hsnd : sndRec x = false) :
  Calls Tryz.prog 49 #[.slice a n c] w fun e w' => e = .returned (.tuple #[.agg recZ, .int .u16 70]) ∧ Below w.heap.size w w' := by
 have hlow : l ≠ [] → ∀ p, a = some p → p.block < w.heap.size + 2 := fun h0 p hp => by have := hA h0 p hp; omega
 have hb0 : Below w.heap.size w (((w.alloc (.cells #[.int .u8 0, .int .u32 0, .int .u32 0, .slice none 0 0, .slice none 0 0, .int .u32 0, .slice none 0 0, .int .i64 0, .int .i64 0, .slice none 0 0] 46)).alloc (.cells #[.int .u16 0] 32)).alloc (.cells #[.slice a n c] 131)) := by (repeat (first | with_reducible exact Below.refl _ _ | (with_reducible refine Below.drew ?_) | (with_reducible refine Below.alloc ?_ (by first | omega | (simp; done) | (simp; omega)) _) | (with_reducible refine Below.setCell ?_ (by first | exact nrQ _ | omega | (simp; done) | (simp; omega)) _)))
 have hx0 : Boxed (((w.alloc (.cells #[.int .u8 0, .int .u32 0, .int .u32 0, .slice none 0 0, .slice none 0 0, .int .u32 0, .slice none 0 0, .int .i64 0, .int .i64 0, .slice none 0 0] 46)).alloc (.cells #[.int .u16 0] 32)).alloc (.cells #[.slice a n c] 131)) w.heap.size recZ 46 := ((Boxed.new w recZ 46).grown (World.grownBy_alloc _ _ none) (by simp)).grown (World.grownBy_alloc _ _ none) (by simp)
 have hy0 : Boxed (((w.alloc (.cells #[.int .u8 0, .int .u32 0, .int .u32 0, .slice none 0 0, .slice none 0 0, .int .u32 0, .slice none 0 0, .int .i64 0, .int .i64 0, .slice none 0 0] 46)).alloc (.cells #[.int .u16 0] 32)).alloc (.cells #[.slice a n c] 131)) (w.heap.size + 1) #[.int .u16 0] 32 := by
  have := (Boxed.new (w.alloc (.cells #[.int .u8 0, .int .u32 0, .int .u32 0, .slice none 0 0, .slice none 0 0, .int .u32 0, .slice none 0 0, .int .i64 0, .int .i64 0, .slice none 0 0] 46)) #[.int .u16 0] 32).grown (World.grownBy_alloc _ (.cells #[.slice a n c] 131) none) (by simp)
  simpa using this
 have hbx : Boxed (((w.alloc (.cells #[.int .u8 0, .int .u32 0, .int .u32 0, .slice none 0 0, .slice none 0 0, .int .u32 0, .slice none 0 0, .int .i64 0, .int .i64 0, .slice none 0 0] 46)).alloc (.cells #[.int .u16 0] 32)).alloc (.cells #[.slice a n c] 131)) (w.heap.size + 2) #[.slice a n c] 131 := by
  have := Boxed.new ((w.alloc (.cells #[.int .u8 0, .int .u32 0, .int .u32 0, .slice none 0 0, .slice none 0 0, .int .u32 0, .slice none 0 0, .int .i64 0, .int .i64 0, .slice none 0 0] 46)).alloc (.cells #[.int .u16 0] 32)) #[.slice a n c] 131
  simpa using this
 have hsz : (((w.alloc (.cells #[.int .u8 0, .int .u32 0, .int .u32 0, .slice none 0 0, .slice none 0 0, .int .u32 0, .slice none 0 0, .int .i64 0, .int .i64 0, .slice none 0 0] 46)).alloc (.cells #[.int .u16 0] 32)).alloc (.cells #[.slice a n c] 131)).heap.size = w.heap.size + 3 := by simp
 have hRd : RdL (w.heap.size + 2) (((w.alloc (.cells #[.int .u8 0, .int .u32 0, .int .u32 0, .slice none 0 0, .slice none 0 0, .int .u32 0, .slice none 0 0, .int .i64 0, .int .i64 0, .slice none 0 0] 46)).alloc (.cells #[.int .u16 0] 32)).alloc (.cells #[.slice a n c] 131)) l := ⟨a, n, c, hbx, hn, hc, hlow, hI.keep hb0⟩
 generalize hWW : ((w.alloc (.cells #[.int .u8 0, .int .u32 0, .int .u32 0, .slice none 0 0, .slice none 0 0, .int .u32 0, .slice none 0 0, .int .i64 0, .int .i64 0, .slice none 0 0] 46)).alloc (.cells #[.int .u16 0] 32)).alloc (.cells #[.slice a n c] 131) = W0 at hb0 hx0 hy0 hbx hRd hsz
 have HW : Hid (_ = W0) := hWW
 have hC1 := readRec_any (w.heap.size + 2) (w.heap.size + 3) (by omega) W0 l (by omega) hRd (by omega)
 have hlz : ¬ (60000 : Int) < (n : Int) := by omega
 have H0 : Aside (Below w.heap.size w W0) := hb0
 clear hWW hb0 hlow hRd hbx hI hA
 have hmf : ∀ (fn : Fn) (first cap : Array Value) (w : World), (Instr.makeFunc fn first cap).run Tryz.prog w = .ok (.func fn first cap) w := fun _ _ _ _ => rfl
 go_enter_defers Tryz.func49, Tryz.ntmps49
 go_wp2_with fail
 rw [HW.out]
 refine hC1.mono ?_
 intro e w1 hP
 obtain ⟨v1, rfl, ⟨r, rfl, hpr, hO⟩, hW1⟩ := hP.got hp
 have x1 := hx0.grown hW1.grown (by simp only [ne_eq, oiQ]; omega)
 have y1 := hy0.grown hW1.grown (by simp only [ne_eq, oiQ]; omega)
 have HB1 : Aside (Below w.heap.size w w1) := below_one H0.out H0.out.size hW1.grown (by omega)
 obtain ⟨a', n', c', hr⟩ := hW1.rdr
 have q0 := hr.cell
 have hn' : n' = rest.length := hr.len.symm
 have hs1 : w.heap.size + 3 ≤ w1.heap.size := by have := hW1.grown.size; omega
 have hl0 : w.heap.size < w1.heap.size := by omega
 have hl1 : w.heap.size + 1 < w1.heap.size := by omega
 have hl2 : w.heap.size + 2 < w1.heap.size := by omega
 have HO : Aside (RcOwn (w.heap.size + 3) w1 r ∧ pr r = x) := ⟨hO, hpr⟩
 have HX : Aside (Boxed w1 w.heap.size recZ 46 ∧ Boxed w1 (w.heap.size + 1) #[.int .u16 0] 32) := ⟨x1, y1⟩
 have cx0 := x1.cell (j := 0) rfl
 have zx0 := x1.frz 0
 have cx1 := x1.cell (j := 1) rfl
 have zx1 := x1.frz 1
 have cx2 := x1.cell (j := 2) rfl
 have zx2 := x1.frz 2
 have cx3 := x1.cell (j := 3) rfl
 have zx3 := x1.frz 3
 have cx4 := x1.cell (j := 4) rfl
 have zx4 := x1.frz 4
 have cx5 := x1.cell (j := 5) rfl
 have zx5 := x1.frz 5
 have cx6 := x1.cell (j := 6) rfl
 have zx6 := x1.frz 6
 have cx7 := x1.cell (j := 7) rfl
 have zx7 := x1.frz 7
 have cx8 := x1.cell (j := 8) rfl
 have zx8 := x1.frz 8
 have cx9 := x1.cell (j := 9) rfl
 have zx9 := x1.frz 9
 have cy0 := y1.cell (j := 0) rfl
 have zy0 := y1.frz 0
 clear hC1 hP HW hx0 hy0 H0 hW1 hr hO hpr x1 y1
 show _
 unfold rcV rcC
 have hnz : ¬ (0 : Int) < (n' : Int) := by omega
 have hga : w1.grownBy (w1.alloc (.cells #[.int .u8 r.kind, .int .u32 r.id, .int .u32 r.at_, .slice r.na r.nodes.length r.nc, .slice r.fa r.facts.length r.fc, .int .u32 r.epoch, .slice r.sa r.spans.length r.sc, .int .i64 r.frm, .int .i64 r.til, .slice r.ea r.ents.length r.ec] 46)) none := World.grownBy_alloc _ _ _
 have hRo : RcOwn (w.heap.size + 3) (w1.alloc (.cells #[.int .u8 r.kind, .int .u32 r.id, .int .u32 r.at_, .slice r.na r.nodes.length r.nc, .slice r.fa r.facts.length r.fc, .int .u32 r.epoch, .slice r.sa r.spans.length r.sc, .int .i64 r.frm, .int .i64 r.til, .slice r.ea r.ents.length r.ec] 46)) r := HO.out.1.far hga (far_none _ _) (far_none _ _) (far_none _ _) (far_none _ _)
 have x2 := HX.out.1.grown hga (by simp)
 have y2 := HX.out.2.grown hga (by simp)
 have b2 := Boxed.new w1 #[.int .u8 r.kind, .int .u32 r.id, .int .u32 r.at_, .slice r.na r.nodes.length r.nc, .slice r.fa r.facts.length r.fc, .int .u32 r.epoch, .slice r.sa r.spans.length r.sc, .int .i64 r.frm, .int .i64 r.til, .slice r.ea r.ents.length r.ec] 46
 have HB2 : Aside (Below w.heap.size w (w1.alloc (.cells #[.int .u8 r.kind, .int .u32 r.id, .int .u32 r.at_, .slice r.na r.nodes.length r.nc, .slice r.fa r.facts.length r.fc, .int .u32 r.epoch, .slice r.sa r.spans.length r.sc, .int .i64 r.frm, .int .i64 r.til, .slice r.ea r.ents.length r.ec] 46))) := HB1.out.alloc (by omega) _
 have hs2 : (w1.alloc (.cells #[.int .u8 r.kind, .int .u32 r.id, .int .u32 r.at_, .slice r.na r.nodes.length r.nc, .slice r.fa r.facts.length r.fc, .int .u32 r.epoch, .slice r.sa r.spans.length r.sc, .int .i64 r.frm, .int .i64 r.til, .slice r.ea r.ents.length r.ec] 46)).heap.size = w1.heap.size + 1 := by simp
 have hC2 := sound_any _ r hRo.recIn
 rw [HO.out.2, hsnd] at hC2
 generalize hW2 : w1.alloc (.cells #[.int .u8 r.kind, .int .u32 r.id, .int .u32 r.at_, .slice r.na r.nodes.length r.nc, .slice r.fa r.facts.length r.fc, .int .u32 r.epoch, .slice r.sa r.spans.length r.sc, .int .i64 r.frm, .int .i64 r.til, .slice r.ea r.ents.length r.ec] 46) = W2 at hga hRo x2 y2 b2 HB2 hs2 hC2
 have HW2 : Hid (w1.alloc (.cells #[.int .u8 r.kind, .int .u32 r.id, .int .u32 r.at_, .slice r.na r.nodes.length r.nc, .slice r.fa r.facts.length r.fc, .int .u32 r.epoch, .slice r.sa r.spans.length r.sc, .int .i64 r.frm, .int .i64 r.til, .slice r.ea r.ents.length r.ec] 46) = W2) := hW2
 clear hn' hW2 hga
 go_wp2_with fail
 change Calls _ _ #[rcV r] _ _
 rw [HW2.out]
 refine hC2.mono ?_
 rintro e w3 ⟨rfl, g3⟩
 have x3 := x2.below g3
 have y3 := y2.below g3
 have b3 := b2.below g3
 have hR3 : RcOwn (w.heap.size + 3) w3 r := hRo.far (grown_below g3) (far_none _ _) (far_none _ _) (far_none _ _) (far_none _ _)
 have HB1 : Aside (Below w.heap.size w w3) := HB2.out.trans (g3.mono HB2.out.size)
 have hs3 : w1.heap.size + 1 ≤ w3.heap.size := by have := g3.size; omega
 clear hC2 x2 y2 b2 hRo g3 HW2 q0 cy0 zy0
 clear cx0 zx0 cx1 zx1 cx2 zx2 cx3 zx3 cx4 zx4 cx5 zx5 cx6 zx6 cx7 zx7 cx8 zx8 cx9 zx9
 have cx0 := x3.cell (j := 0) rfl
 have zx0 := x3.frz 0
 have cb0 := b3.cell (j := 0) rfl
 have cx1 := x3.cell (j := 1) rfl
 have zx1 := x3.frz 1
 have cb1 := b3.cell (j := 1) rfl
 have cx2 := x3.cell (j := 2) rfl
 have zx2 := x3.frz 2
 have cb2 := b3.cell (j := 2) rfl
 have cx3 := x3.cell (j := 3) rfl
 have zx3 := x3.frz 3
 have cb3 := b3.cell (j := 3) rfl
 have cx4 := x3.cell (j := 4) rfl
 have zx4 := x3.frz 4
 have cb4 := b3.cell (j := 4) rfl
 have cx5 := x3.cell (j := 5) rfl
 have zx5 := x3.frz 5
 have cb5 := b3.cell (j := 5) rfl
 have cx6 := x3.cell (j := 6) rfl
 have zx6 := x3.frz 6
 have cb6 := b3.cell (j := 6) rfl
 have cx7 := x3.cell (j := 7) rfl
 have zx7 := x3.frz 7
 have cb7 := b3.cell (j := 7) rfl
 have cx8 := x3.cell (j := 8) rfl
 have zx8 := x3.frz 8
 have cb8 := b3.cell (j := 8) rfl
 have cx9 := x3.cell (j := 9) rfl
 have zx9 := x3.frz 9
 have cb9 := b3.cell (j := 9) rfl
 have cy0 := y3.cell (j := 0) rfl
 have zy0 := y3.frz 0
 clear x3 y3 b3 hR3
 go_wp2
 refine leaves_cons (f := 71) (args := #[.pointer (some ⟨w.heap.size, 0, none⟩), .pointer (some ⟨w.heap.size + 1, 0, none⟩)]) (by simp) (by simp [go_sem]) ?_
 refine (catch_idle ⟨w.heap.size, 0, none⟩ ⟨w.heap.size + 1, 0, none⟩ _).mono ?_
 rintro e u' w'' ⟨rfl, rfl, rfl⟩
 simp [Leaves, settle, results, Tryz.results49, go_sem, *]
 refine ⟨rfl, ?_⟩
 repeat (first | with_reducible exact HB1.out | (with_reducible refine Below.alloc ?_ (by first | omega | (simp; omega)) _) | (with_reducible refine Below.setCell ?_ (by first | exact nrQ _ | (simp; done) | omega | (simp; omega)) _))

theorem decode_good (w : World) (a : Option Addr) (n c : Nat) (l : List UInt8) (hI : ByIn w a l) (hA : l ≠ [] → ∀ p, a = some p → p.block < w.heap.size) (hn : l.length = n) (hc : n ≤ c) (h6 : n ≤ 60000) (x : PRec) (rest : List UInt8) (hp : pRec l = some (x, rest)) (hr0 : rest.length = 0) (hsnd : sndRec x = true) :
  Calls Tryz.prog 49 #[.slice a n c] w fun e w' => ∃ r, e = .returned (.tuple #[rcV r, .int .u16 0]) ∧ pr r = x ∧ OwnIn w' r ∧ Below w.heap.size w w' := by
 have hlow : l ≠ [] → ∀ p, a = some p → p.block < w.heap.size + 2 := fun h0 p hp => by have := hA h0 p hp; omega
 have hb0 : Below w.heap.size w (((w.alloc (.cells #[.int .u8 0, .int .u32 0, .int .u32 0, .slice none 0 0, .slice none 0 0, .int .u32 0, .slice none 0 0, .int .i64 0, .int .i64 0, .slice none 0 0] 46)).alloc (.cells #[.int .u16 0] 32)).alloc (.cells #[.slice a n c] 131)) := by (repeat (first | with_reducible exact Below.refl _ _ | (with_reducible refine Below.drew ?_) | (with_reducible refine Below.alloc ?_ (by first | omega | (simp; done) | (simp; omega)) _) | (with_reducible refine Below.setCell ?_ (by first | exact nrQ _ | omega | (simp; done) | (simp; omega)) _)))
 have hx0 : Boxed (((w.alloc (.cells #[.int .u8 0, .int .u32 0, .int .u32 0, .slice none 0 0, .slice none 0 0, .int .u32 0, .slice none 0 0, .int .i64 0, .int .i64 0, .slice none 0 0] 46)).alloc (.cells #[.int .u16 0] 32)).alloc (.cells #[.slice a n c] 131)) w.heap.size recZ 46 := ((Boxed.new w recZ 46).grown (World.grownBy_alloc _ _ none) (by simp)).grown (World.grownBy_alloc _ _ none) (by simp)
 have hy0 : Boxed (((w.alloc (.cells #[.int .u8 0, .int .u32 0, .int .u32 0, .slice none 0 0, .slice none 0 0, .int .u32 0, .slice none 0 0, .int .i64 0, .int .i64 0, .slice none 0 0] 46)).alloc (.cells #[.int .u16 0] 32)).alloc (.cells #[.slice a n c] 131)) (w.heap.size + 1) #[.int .u16 0] 32 := by
  have := (Boxed.new (w.alloc (.cells #[.int .u8 0, .int .u32 0, .int .u32 0, .slice none 0 0, .slice none 0 0, .int .u32 0, .slice none 0 0, .int .i64 0, .int .i64 0, .slice none 0 0] 46)) #[.int .u16 0] 32).grown (World.grownBy_alloc _ (.cells #[.slice a n c] 131) none) (by simp)
  simpa using this
 have hbx : Boxed (((w.alloc (.cells #[.int .u8 0, .int .u32 0, .int .u32 0, .slice none 0 0, .slice none 0 0, .int .u32 0, .slice none 0 0, .int .i64 0, .int .i64 0, .slice none 0 0] 46)).alloc (.cells #[.int .u16 0] 32)).alloc (.cells #[.slice a n c] 131)) (w.heap.size + 2) #[.slice a n c] 131 := by
  have := Boxed.new ((w.alloc (.cells #[.int .u8 0, .int .u32 0, .int .u32 0, .slice none 0 0, .slice none 0 0, .int .u32 0, .slice none 0 0, .int .i64 0, .int .i64 0, .slice none 0 0] 46)).alloc (.cells #[.int .u16 0] 32)) #[.slice a n c] 131
  simpa using this
 have hsz : (((w.alloc (.cells #[.int .u8 0, .int .u32 0, .int .u32 0, .slice none 0 0, .slice none 0 0, .int .u32 0, .slice none 0 0, .int .i64 0, .int .i64 0, .slice none 0 0] 46)).alloc (.cells #[.int .u16 0] 32)).alloc (.cells #[.slice a n c] 131)).heap.size = w.heap.size + 3 := by simp
 have hRd : RdL (w.heap.size + 2) (((w.alloc (.cells #[.int .u8 0, .int .u32 0, .int .u32 0, .slice none 0 0, .slice none 0 0, .int .u32 0, .slice none 0 0, .int .i64 0, .int .i64 0, .slice none 0 0] 46)).alloc (.cells #[.int .u16 0] 32)).alloc (.cells #[.slice a n c] 131)) l := ⟨a, n, c, hbx, hn, hc, hlow, hI.keep hb0⟩
 generalize hWW : ((w.alloc (.cells #[.int .u8 0, .int .u32 0, .int .u32 0, .slice none 0 0, .slice none 0 0, .int .u32 0, .slice none 0 0, .int .i64 0, .int .i64 0, .slice none 0 0] 46)).alloc (.cells #[.int .u16 0] 32)).alloc (.cells #[.slice a n c] 131) = W0 at hb0 hx0 hy0 hbx hRd hsz
 have HW : Hid (_ = W0) := hWW
 have hC1 := readRec_any (w.heap.size + 2) (w.heap.size + 3) (by omega) W0 l (by omega) hRd (by omega)
 have hlz : ¬ (60000 : Int) < (n : Int) := by omega
 have H0 : Aside (Below w.heap.size w W0) := hb0
 clear hWW hb0 hlow hRd hbx hI hA
 have hmf : ∀ (fn : Fn) (first cap : Array Value) (w : World), (Instr.makeFunc fn first cap).run Tryz.prog w = .ok (.func fn first cap) w := fun _ _ _ _ => rfl
 go_enter_defers Tryz.func49, Tryz.ntmps49
 go_wp2_with fail
 rw [HW.out]
 refine hC1.mono ?_
 intro e w1 hP
 obtain ⟨v1, rfl, ⟨r, rfl, hpr, hO⟩, hW1⟩ := hP.got hp
 have x1 := hx0.grown hW1.grown (by simp only [ne_eq, oiQ]; omega)
 have y1 := hy0.grown hW1.grown (by simp only [ne_eq, oiQ]; omega)
 have HB1 : Aside (Below w.heap.size w w1) := below_one H0.out H0.out.size hW1.grown (by omega)
 obtain ⟨a', n', c', hr⟩ := hW1.rdr
 have q0 := hr.cell
 have hn' : n' = rest.length := hr.len.symm
 have hs1 : w.heap.size + 3 ≤ w1.heap.size := by have := hW1.grown.size; omega
 have hl0 : w.heap.size < w1.heap.size := by omega
 have hl1 : w.heap.size + 1 < w1.heap.size := by omega
 have hl2 : w.heap.size + 2 < w1.heap.size := by omega
 have HO : Aside (RcOwn (w.heap.size + 3) w1 r ∧ pr r = x) := ⟨hO, hpr⟩
 have HX : Aside (Boxed w1 w.heap.size recZ 46 ∧ Boxed w1 (w.heap.size + 1) #[.int .u16 0] 32) := ⟨x1, y1⟩
 have cx0 := x1.cell (j := 0) rfl
 have zx0 := x1.frz 0
 have cx1 := x1.cell (j := 1) rfl
 have zx1 := x1.frz 1
 have cx2 := x1.cell (j := 2) rfl
 have zx2 := x1.frz 2
 have cx3 := x1.cell (j := 3) rfl
 have zx3 := x1.frz 3
 have cx4 := x1.cell (j := 4) rfl
 have zx4 := x1.frz 4
 have cx5 := x1.cell (j := 5) rfl
 have zx5 := x1.frz 5
 have cx6 := x1.cell (j := 6) rfl
 have zx6 := x1.frz 6
 have cx7 := x1.cell (j := 7) rfl
 have zx7 := x1.frz 7
 have cx8 := x1.cell (j := 8) rfl
 have zx8 := x1.frz 8
 have cx9 := x1.cell (j := 9) rfl
 have zx9 := x1.frz 9
 have cy0 := y1.cell (j := 0) rfl
 have zy0 := y1.frz 0
 clear hC1 hP HW hx0 hy0 H0 hW1 hr hO hpr x1 y1
 show _
 unfold rcV rcC
 have hnz : ¬ (0 : Int) < (n' : Int) := by omega
 have hga : w1.grownBy (w1.alloc (.cells #[.int .u8 r.kind, .int .u32 r.id, .int .u32 r.at_, .slice r.na r.nodes.length r.nc, .slice r.fa r.facts.length r.fc, .int .u32 r.epoch, .slice r.sa r.spans.length r.sc, .int .i64 r.frm, .int .i64 r.til, .slice r.ea r.ents.length r.ec] 46)) none := World.grownBy_alloc _ _ _
 have hRo : RcOwn (w.heap.size + 3) (w1.alloc (.cells #[.int .u8 r.kind, .int .u32 r.id, .int .u32 r.at_, .slice r.na r.nodes.length r.nc, .slice r.fa r.facts.length r.fc, .int .u32 r.epoch, .slice r.sa r.spans.length r.sc, .int .i64 r.frm, .int .i64 r.til, .slice r.ea r.ents.length r.ec] 46)) r := HO.out.1.far hga (far_none _ _) (far_none _ _) (far_none _ _) (far_none _ _)
 have x2 := HX.out.1.grown hga (by simp)
 have y2 := HX.out.2.grown hga (by simp)
 have b2 := Boxed.new w1 #[.int .u8 r.kind, .int .u32 r.id, .int .u32 r.at_, .slice r.na r.nodes.length r.nc, .slice r.fa r.facts.length r.fc, .int .u32 r.epoch, .slice r.sa r.spans.length r.sc, .int .i64 r.frm, .int .i64 r.til, .slice r.ea r.ents.length r.ec] 46
 have HB2 : Aside (Below w.heap.size w (w1.alloc (.cells #[.int .u8 r.kind, .int .u32 r.id, .int .u32 r.at_, .slice r.na r.nodes.length r.nc, .slice r.fa r.facts.length r.fc, .int .u32 r.epoch, .slice r.sa r.spans.length r.sc, .int .i64 r.frm, .int .i64 r.til, .slice r.ea r.ents.length r.ec] 46))) := HB1.out.alloc (by omega) _
 have hs2 : (w1.alloc (.cells #[.int .u8 r.kind, .int .u32 r.id, .int .u32 r.at_, .slice r.na r.nodes.length r.nc, .slice r.fa r.facts.length r.fc, .int .u32 r.epoch, .slice r.sa r.spans.length r.sc, .int .i64 r.frm, .int .i64 r.til, .slice r.ea r.ents.length r.ec] 46)).heap.size = w1.heap.size + 1 := by simp
 have hC2 := sound_any _ r hRo.recIn
 rw [HO.out.2, hsnd] at hC2
 generalize hW2 : w1.alloc (.cells #[.int .u8 r.kind, .int .u32 r.id, .int .u32 r.at_, .slice r.na r.nodes.length r.nc, .slice r.fa r.facts.length r.fc, .int .u32 r.epoch, .slice r.sa r.spans.length r.sc, .int .i64 r.frm, .int .i64 r.til, .slice r.ea r.ents.length r.ec] 46) = W2 at hga hRo x2 y2 b2 HB2 hs2 hC2
 have HW2 : Hid (w1.alloc (.cells #[.int .u8 r.kind, .int .u32 r.id, .int .u32 r.at_, .slice r.na r.nodes.length r.nc, .slice r.fa r.facts.length r.fc, .int .u32 r.epoch, .slice r.sa r.spans.length r.sc, .int .i64 r.frm, .int .i64 r.til, .slice r.ea r.ents.length r.ec] 46) = W2) := hW2
 clear hn' hW2 hga
 go_wp2_with fail
 change Calls _ _ #[rcV r] _ _
 rw [HW2.out]
 refine hC2.mono ?_
 rintro e w3 ⟨rfl, g3⟩
 have x3 := x2.below g3
 have y3 := y2.below g3
 have b3 := b2.below g3
 have hR3 : RcOwn (w.heap.size + 3) w3 r := hRo.far (grown_below g3) (far_none _ _) (far_none _ _) (far_none _ _) (far_none _ _)
 have HB1 : Aside (Below w.heap.size w w3) := HB2.out.trans (g3.mono HB2.out.size)
 have hs3 : w1.heap.size + 1 ≤ w3.heap.size := by have := g3.size; omega
 clear hC2 x2 y2 b2 hRo g3 HW2 q0 cy0 zy0
 clear cx0 zx0 cx1 zx1 cx2 zx2 cx3 zx3 cx4 zx4 cx5 zx5 cx6 zx6 cx7 zx7 cx8 zx8 cx9 zx9
 have cx0 := x3.cell (j := 0) rfl
 have zx0 := x3.frz 0
 have cb0 := b3.cell (j := 0) rfl
 have cx1 := x3.cell (j := 1) rfl
 have zx1 := x3.frz 1
 have cb1 := b3.cell (j := 1) rfl
 have cx2 := x3.cell (j := 2) rfl
 have zx2 := x3.frz 2
 have cb2 := b3.cell (j := 2) rfl
 have cx3 := x3.cell (j := 3) rfl
 have zx3 := x3.frz 3
 have cb3 := b3.cell (j := 3) rfl
 have cx4 := x3.cell (j := 4) rfl
 have zx4 := x3.frz 4
 have cb4 := b3.cell (j := 4) rfl
 have cx5 := x3.cell (j := 5) rfl
 have zx5 := x3.frz 5
 have cb5 := b3.cell (j := 5) rfl
 have cx6 := x3.cell (j := 6) rfl
 have zx6 := x3.frz 6
 have cb6 := b3.cell (j := 6) rfl
 have cx7 := x3.cell (j := 7) rfl
 have zx7 := x3.frz 7
 have cb7 := b3.cell (j := 7) rfl
 have cx8 := x3.cell (j := 8) rfl
 have zx8 := x3.frz 8
 have cb8 := b3.cell (j := 8) rfl
 have cx9 := x3.cell (j := 9) rfl
 have zx9 := x3.frz 9
 have cb9 := b3.cell (j := 9) rfl
 have cy0 := y3.cell (j := 0) rfl
 have zy0 := y3.frz 0
 have HF : Aside (∀ W4 W5, w3.grownBy W4 (some w.heap.size) → W4.grownBy W5 (some (w.heap.size + 1)) → OwnIn W5 r) := fun W4 W5 g1 g2 => by
  have h1 := hR3.far g1 (x3.far (by decide)) (x3.far (by decide)) (x3.far (by decide)) (x3.far (by decide))
  have y4 := y3.grown g1 (by simp)
  exact ⟨_, h1.far g2 (y4.far (by decide)) (y4.far (by decide)) (y4.far (by decide)) (y4.far (by decide))⟩
 clear x3 y3 b3 hR3
 go_wp2
 refine leaves_cons (f := 71) (args := #[.pointer (some ⟨w.heap.size, 0, none⟩), .pointer (some ⟨w.heap.size + 1, 0, none⟩)]) (by simp) (by simp [go_sem]) ?_
 refine (catch_idle ⟨w.heap.size, 0, none⟩ ⟨w.heap.size + 1, 0, none⟩ _).mono ?_
 rintro e u' w'' ⟨rfl, rfl, rfl⟩
 simp only [Leaves, settle, results, Tryz.results49]
 refine ⟨.tuple #[rcV r, .int .u16 0], ?_, ?_⟩
 ·simp [rcV, rcC, go_sem, *]
 ·refine ⟨r, rfl, HO.out.2, HF.out _ _ ?_ (grown_at _ _ _ _), ?_⟩
  ·iterate 9 (refine grown_trans ?_ (grown_at _ _ _ _))
   exact grown_at _ _ _ _
  ·repeat (first | with_reducible exact HB1.out | (with_reducible refine Below.alloc ?_ (by first | omega | (simp; omega)) _) | (with_reducible refine Below.setCell ?_ (by first | exact nrQ _ | (simp; done) | omega | (simp; omega)) _))

def dec (l : List UInt8) : Option PRec := (pRec l).bind fun y => if y.2.length = 0 ∧ sndRec y.1 = true then some y.1 else none
theorem decode_none (w : World) (a : Option Addr) (n c : Nat) (l : List UInt8) (hI : ByIn w a l) (hA : l ≠ [] → ∀ p, a = some p → p.block < w.heap.size) (hn : l.length = n) (hc : n ≤ c) (h6 : n ≤ 60000) (h : dec l = none) :
  Calls Tryz.prog 49 #[.slice a n c] w fun e w' => e = .returned (.tuple #[.agg recZ, .int .u16 70]) ∧ Below w.heap.size w w' := by
 cases hp : pRec l with
 | none => exact decode_miss w a n c l hI hA hn hc h6 hp
 | some q =>
  obtain ⟨x, rest⟩ := q
  by_cases hr : rest.length = 0
  ·cases hs : sndRec x with
   | false => exact decode_bad w a n c l hI hA hn hc h6 x rest hp hr hs
   | true => unfold dec at h; rw [hp] at h; simp only [Option.bind_some] at h; rw [if_pos ⟨hr, hs⟩] at h; cases h
  ·exact decode_rest w a n c l hI hA hn hc h6 x rest hp (by omega)
theorem decode_own (w : World) (a : Option Addr) (n c : Nat) (l : List UInt8) (hI : ByIn w a l) (hA : l ≠ [] → ∀ p, a = some p → p.block < w.heap.size) (hn : l.length = n) (hc : n ≤ c) (h6 : n ≤ 60000) (x : PRec) (h : dec l = some x) :
  Calls Tryz.prog 49 #[.slice a n c] w fun e w' => ∃ r, e = .returned (.tuple #[rcV r, .int .u16 0]) ∧ pr r = x ∧ OwnIn w' r ∧ Below w.heap.size w w' := by
 cases hp : pRec l with
 | none => unfold dec at h; rw [hp] at h; cases h
 | some q =>
  obtain ⟨y, rest⟩ := q
  unfold dec at h
  rw [hp] at h
  simp only [Option.bind_some] at h
  split at h
  ·rename_i hh
   injection h with h
   subst h
   exact decode_good w a n c l hI hA hn hc h6 y rest hp hh.1 hh.2
  ·cases h
theorem dec_recB {x : PRec} (h : sndRec x = true) (ht : Typed x) : dec (recB x) = some x := by
 have := pRec_dec x h ht []
 rw [List.append_nil] at this
 unfold dec
 rw [this]
 simp [h]
theorem dec_is {l : List UInt8} {x : PRec} (h : dec l = some x) : l = recB x ∧ sndRec x = true := by
 unfold dec at h
 obtain ⟨⟨y, rest⟩, h1, h2⟩ := Option.bind_eq_some_iff.1 h
 split at h2
 ·rename_i hh
  injection h2 with h2
  simp only at h2 hh
  subst h2
  have e := pRec_enc l y rest h1
  rw [List.eq_nil_of_length_eq_zero hh.1, List.append_nil] at e
  exact ⟨e, hh.2⟩
 ·cases h2
end code
namespace code
open dims (nth Ints ret_bool)
theorem pow_eight (k : Nat) : 2 ^ (8 * k) = 256 ^ k := by rw [Nat.pow_mul]
theorem byte_at (X k : Nat) : ((X : Int) / 2 ^ (8 * k) % 256) = ((X / 256 ^ k % 256 : Nat) : Int) := by
 have e : ((2 : Int) ^ (8 * k)) = ((256 ^ k : Nat) : Int) := by rw [← pow_eight]; simp
 rw [e]; simp

theorem put_any (B size X : Nat) (hX : X < 18446744073709551616) (hs : size ≤ 8) (v : Value) (l : List UInt8) (w : World) (ho : Bs B w v l) (hB : B ≤ w.heap.size) (hl : l.length ≤ 1000000000) :
  Calls Tryz.prog 56 #[v, .int .u64 X, .int .i64 size] w fun e w' => ∃ v', e = .returned v' ∧ Bs B w' v' (l ++ putB X size) ∧ Gr w v w' v' := by
 obtain ⟨i0, hi, hz0, hz1, hz2⟩ := info_parts info_u8
 have H : Aside (Bs B w v l) := ho
 clear ho
 go_enter Tryz.func56, Tryz.ntmps56
 go_wp2_with fail
 go_loopg [0, 7] size (fun g1 vv vi wr => ∃ (k : Nat) (j : Int), vi = .int .i64 j ∧ Aside (j = (k : Int) - 1) ∧ k ≤ size ∧ k ≤ g1 ∧ Aside (∃ done, done ++ putB X k = l ++ putB X size ∧ Bs B wr vv done ∧ Gr w v wr vv))
 case atStart => exact ⟨size, _, rfl, by go_num, nrQ _, nrQ _, l, rfl, H.out, Gr.refl _ _⟩
 case round =>
  obtain ⟨k, j, rfl, hj, hk, hg1, SK⟩ := hrel
  rcases k with _ | k
  ·have hjz : ¬ 0 ≤ j := by have := hj.out; omega
   have S2 : Aside (Bs B wr u0 (l ++ putB X size) ∧ Gr w v wr u0) := by
    obtain ⟨done, hd, h1, h2⟩ := SK.out
    rw [putB, List.append_nil] at hd
    rw [← hd]; exact ⟨h1, h2⟩
   clear SK hj
   go_wp2
   go_ret
   exact ⟨_, rfl, S2.out.1, S2.out.2⟩
  ·have hjz : 0 ≤ j := by have := hj.out; omega
   have hj2 : j = (k : Int) := by have := hj.out; omega
   subst hj2
   obtain ⟨done, hd, hown, hgr⟩ := SK.out
   have hlen : done.length ≤ l.length + 8 := by
    have := congrArg List.length hd
    simp only [laQ, putB_len] at this
    omega
   have HBS : Aside (B ≤ wr.heap.size) := ntQ hB hgr.grown.size
   obtain ⟨n, hn⟩ : ∃ n, done.length = n := ⟨_, rfl⟩
   have HN : Hid (done.length = n) := hn
   have hown2 : wr.ownsRow B 5 1 u0 n (Lib.byteCells done) := by rw [← hn]; exact hown
   rw [hn] at hlen
   have HG : Aside (Gr w v wr u0) := hgr
   have HD : Hid (done ++ putB X (k + 1) = l ++ putB X size) := hd
   clear SK hj hd hown hgr hn
   go_wp2_with (at_builtin; refine wpList_append_lies _ rfl _ _ 54 rfl B 5 i0 _ 1 1 Tryz.underlying54 hi hz0 hz1 hz2 rfl (by decide) _ n _ rfl (hown2.alloc _) ⟨wr.heap.size, 0, none⟩ 1 1 [_] rfl rfl (cell_one_new _ _ _) (by intro u hu; simp at hu; subst hu; rfl) (by omega) (by unfold maxLen; omega) (by omega) (by have := HBS.out; simp; omega) (wr.heap.size + 1) (by simp) ?_; intro g c3 w3 hown3 hgrow hat hglt)
   have S3 : Aside (Bs B w3 (.slice (some ⟨g, 0, none⟩) (n + 1) c3) (done ++ [UInt8.ofNat (X / 256 ^ k)]) ∧ Gr w v w3 (.slice (some ⟨g, 0, none⟩) (n + 1) c3)) := by
    obtain ⟨p1, p2⟩ := Bs.push HN.out (x := X / 256 ^ k) (byte_at X k) hown3 hgrow hat
    exact ⟨p1, HG.out.trans p2⟩
   clear hown3 hgrow hat hglt hown2
   go_wp2
   go_roundg k
   case measure => omega
   case rel =>
    refine ⟨k, _, rfl, by go_num, by omega, nrQ _, _, ?_, S3.out.1, S3.out.2⟩
    rw [apQ, ← HD.out]; simp [putB]

theorem lay_int (B size : Nat) (x : Int) (hx : -9223372036854775808 ≤ x ∧ x ≤ 9223372036854775807) (hs : size ≤ 8) (v : Value) (l : List UInt8) (w : World) (ho : Bs B w v l) (hB : B ≤ w.heap.size) (hl : l.length ≤ 1000000000) :
  Calls Tryz.prog 125 #[v, .int .i64 size, .int .i64 x] w fun e w' => ∃ v', e = .returned v' ∧ Bs B w' v' (l ++ putI x size) ∧ Gr w v w' v' := by
 unfold putI
 obtain ⟨X, hX⟩ : ∃ X : Nat, (x % 18446744073709551616).toNat = X := ⟨_, rfl⟩
 have HX : Hid (x % 18446744073709551616 = (X : Int)) := by show _ = _; omega
 rw [hX]
 clear hX
 obtain ⟨i0, hi, hz0, hz1, hz2⟩ := info_parts info_u8
 have H : Aside (Bs B w v l) := ho
 clear ho
 go_enter Tryz.func125, Tryz.ntmps125
 go_wp2_with fail
 go_loopg [0, 7] size (fun g1 vv vi wr => ∃ (k : Nat) (j : Int), vi = .int .i64 j ∧ Aside (j = (k : Int) - 1) ∧ k ≤ size ∧ k ≤ g1 ∧ Aside (∃ done, done ++ putB X k = l ++ putB X size ∧ Bs B wr vv done ∧ Gr w v wr vv))
 case atStart => exact ⟨size, _, rfl, by go_num, nrQ _, nrQ _, l, rfl, H.out, Gr.refl _ _⟩
 case round =>
  obtain ⟨k, j, rfl, hj, hk, hg1, SK⟩ := hrel
  rcases k with _ | k
  ·have hjz : ¬ 0 ≤ j := by have := hj.out; omega
   have S2 : Aside (Bs B wr u0 (l ++ putB X size) ∧ Gr w v wr u0) := by
    obtain ⟨done, hd, h1, h2⟩ := SK.out
    rw [putB, List.append_nil] at hd
    rw [← hd]; exact ⟨h1, h2⟩
   clear SK hj
   go_wp2
   go_ret
   exact ⟨_, rfl, S2.out.1, S2.out.2⟩
  ·have hjz : 0 ≤ j := by have := hj.out; omega
   have hj2 : j = (k : Int) := by have := hj.out; omega
   subst hj2
   obtain ⟨done, hd, hown, hgr⟩ := SK.out
   have hlen : done.length ≤ l.length + 8 := by
    have := congrArg List.length hd
    simp only [laQ, putB_len] at this
    omega
   have HBS : Aside (B ≤ wr.heap.size) := ntQ hB hgr.grown.size
   obtain ⟨n, hn⟩ : ∃ n, done.length = n := ⟨_, rfl⟩
   have HN : Hid (done.length = n) := hn
   have hown2 : wr.ownsRow B 5 1 u0 n (Lib.byteCells done) := by rw [← hn]; exact hown
   rw [hn] at hlen
   have HG : Aside (Gr w v wr u0) := hgr
   have HD : Hid (done ++ putB X (k + 1) = l ++ putB X size) := hd
   clear SK hj hd hown hgr hn
   go_wp2_with (at_builtin; refine wpList_append_lies _ rfl _ _ 54 rfl B 5 i0 _ 1 1 Tryz.underlying54 hi hz0 hz1 hz2 rfl (by decide) _ n _ rfl (hown2.alloc _) ⟨wr.heap.size, 0, none⟩ 1 1 [_] rfl rfl (cell_one_new _ _ _) (by intro u hu; simp at hu; subst hu; rfl) (by omega) (by unfold maxLen; omega) (by omega) (by have := HBS.out; simp; omega) (wr.heap.size + 1) (by simp) ?_; intro g c3 w3 hown3 hgrow hat hglt)
   have S3 : Aside (Bs B w3 (.slice (some ⟨g, 0, none⟩) (n + 1) c3) (done ++ [UInt8.ofNat (X / 256 ^ k)]) ∧ Gr w v w3 (.slice (some ⟨g, 0, none⟩) (n + 1) c3)) := by
    have hw : IntKind.u64.wrap x = (X : Int) := by have := HX.out; simp [IntKind.wrap, IntKind.signed, IntKind.bits]; omega
    have hw2 : x % 18446744073709551616 = (X : Int) := HX.out
    have hw3 : (0 ≤ x) → x = (X : Int) := by have := HX.out; omega
    first | rw [hw] at hown3 | rw [hw2] at hown3 | rw [hw3 hx.1] at hown3
    obtain ⟨p1, p2⟩ := Bs.push HN.out (x := X / 256 ^ k) (byte_at X k) hown3 hgrow hat
    exact ⟨p1, HG.out.trans p2⟩
   clear hown3 hgrow hat hglt hown2
   go_wp2
   go_roundg k
   case measure => omega
   case rel =>
    refine ⟨k, _, rfl, by go_num, by omega, nrQ _, _, ?_, S3.out.1, S3.out.2⟩
    rw [apQ, ← HD.out]; simp [putB]

theorem lay_int64 (B size : Nat) (x : Int) (hx : -9223372036854775808 ≤ x ∧ x ≤ 9223372036854775807) (hs : size ≤ 8) (v : Value) (l : List UInt8) (w : World) (ho : Bs B w v l) (hB : B ≤ w.heap.size) (hl : l.length ≤ 1000000000) :
  Calls Tryz.prog 132 #[v, .int .i64 size, .int .i64 x] w fun e w' => ∃ v', e = .returned v' ∧ Bs B w' v' (l ++ putI x size) ∧ Gr w v w' v' := by
 unfold putI
 obtain ⟨X, hX⟩ : ∃ X : Nat, (x % 18446744073709551616).toNat = X := ⟨_, rfl⟩
 have HX : Hid (x % 18446744073709551616 = (X : Int)) := by show _ = _; omega
 rw [hX]
 clear hX
 obtain ⟨i0, hi, hz0, hz1, hz2⟩ := info_parts info_u8
 have H : Aside (Bs B w v l) := ho
 clear ho
 go_enter Tryz.func132, Tryz.ntmps132
 go_wp2_with fail
 go_loopg [0, 7] size (fun g1 vv vi wr => ∃ (k : Nat) (j : Int), vi = .int .i64 j ∧ Aside (j = (k : Int) - 1) ∧ k ≤ size ∧ k ≤ g1 ∧ Aside (∃ done, done ++ putB X k = l ++ putB X size ∧ Bs B wr vv done ∧ Gr w v wr vv))
 case atStart => exact ⟨size, _, rfl, by go_num, nrQ _, nrQ _, l, rfl, H.out, Gr.refl _ _⟩
 case round =>
  obtain ⟨k, j, rfl, hj, hk, hg1, SK⟩ := hrel
  rcases k with _ | k
  ·have hjz : ¬ 0 ≤ j := by have := hj.out; omega
   have S2 : Aside (Bs B wr u0 (l ++ putB X size) ∧ Gr w v wr u0) := by
    obtain ⟨done, hd, h1, h2⟩ := SK.out
    rw [putB, List.append_nil] at hd
    rw [← hd]; exact ⟨h1, h2⟩
   clear SK hj
   go_wp2
   go_ret
   exact ⟨_, rfl, S2.out.1, S2.out.2⟩
  ·have hjz : 0 ≤ j := by have := hj.out; omega
   have hj2 : j = (k : Int) := by have := hj.out; omega
   subst hj2
   obtain ⟨done, hd, hown, hgr⟩ := SK.out
   have hlen : done.length ≤ l.length + 8 := by
    have := congrArg List.length hd
    simp only [laQ, putB_len] at this
    omega
   have HBS : Aside (B ≤ wr.heap.size) := ntQ hB hgr.grown.size
   obtain ⟨n, hn⟩ : ∃ n, done.length = n := ⟨_, rfl⟩
   have HN : Hid (done.length = n) := hn
   have hown2 : wr.ownsRow B 5 1 u0 n (Lib.byteCells done) := by rw [← hn]; exact hown
   rw [hn] at hlen
   have HG : Aside (Gr w v wr u0) := hgr
   have HD : Hid (done ++ putB X (k + 1) = l ++ putB X size) := hd
   clear SK hj hd hown hgr hn
   go_wp2_with (at_builtin; refine wpList_append_lies _ rfl _ _ 54 rfl B 5 i0 _ 1 1 Tryz.underlying54 hi hz0 hz1 hz2 rfl (by decide) _ n _ rfl (hown2.alloc _) ⟨wr.heap.size, 0, none⟩ 1 1 [_] rfl rfl (cell_one_new _ _ _) (by intro u hu; simp at hu; subst hu; rfl) (by omega) (by unfold maxLen; omega) (by omega) (by have := HBS.out; simp; omega) (wr.heap.size + 1) (by simp) ?_; intro g c3 w3 hown3 hgrow hat hglt)
   have S3 : Aside (Bs B w3 (.slice (some ⟨g, 0, none⟩) (n + 1) c3) (done ++ [UInt8.ofNat (X / 256 ^ k)]) ∧ Gr w v w3 (.slice (some ⟨g, 0, none⟩) (n + 1) c3)) := by
    have hw : IntKind.u64.wrap x = (X : Int) := by have := HX.out; simp [IntKind.wrap, IntKind.signed, IntKind.bits]; omega
    have hw2 : x % 18446744073709551616 = (X : Int) := HX.out
    have hw3 : (0 ≤ x) → x = (X : Int) := by have := HX.out; omega
    first | rw [hw] at hown3 | rw [hw2] at hown3 | rw [hw3 hx.1] at hown3
    obtain ⟨p1, p2⟩ := Bs.push HN.out (x := X / 256 ^ k) (byte_at X k) hown3 hgrow hat
    exact ⟨p1, HG.out.trans p2⟩
   clear hown3 hgrow hat hglt hown2
   go_wp2
   go_roundg k
   case measure => omega
   case rel =>
    refine ⟨k, _, rfl, by go_num, by omega, nrQ _, _, ?_, S3.out.1, S3.out.2⟩
    rw [apQ, ← HD.out]; simp [putB]

theorem lay_u8 (B size : Nat) (x : Int) (hx : 0 ≤ x ∧ x ≤ 255) (hs : size ≤ 8) (v : Value) (l : List UInt8) (w : World) (ho : Bs B w v l) (hB : B ≤ w.heap.size) (hl : l.length ≤ 1000000000) :
  Calls Tryz.prog 117 #[v, .int .i64 size, .int .u8 x] w fun e w' => ∃ v', e = .returned v' ∧ Bs B w' v' (l ++ putI x size) ∧ Gr w v w' v' := by
 unfold putI
 obtain ⟨X, hX⟩ : ∃ X : Nat, (x % 18446744073709551616).toNat = X := ⟨_, rfl⟩
 have HX : Hid (x % 18446744073709551616 = (X : Int)) := by show _ = _; omega
 rw [hX]
 clear hX
 obtain ⟨i0, hi, hz0, hz1, hz2⟩ := info_parts info_u8
 have H : Aside (Bs B w v l) := ho
 clear ho
 go_enter Tryz.func117, Tryz.ntmps117
 go_wp2_with fail
 go_loopg [0, 7] size (fun g1 vv vi wr => ∃ (k : Nat) (j : Int), vi = .int .i64 j ∧ Aside (j = (k : Int) - 1) ∧ k ≤ size ∧ k ≤ g1 ∧ Aside (∃ done, done ++ putB X k = l ++ putB X size ∧ Bs B wr vv done ∧ Gr w v wr vv))
 case atStart => exact ⟨size, _, rfl, by go_num, nrQ _, nrQ _, l, rfl, H.out, Gr.refl _ _⟩
 case round =>
  obtain ⟨k, j, rfl, hj, hk, hg1, SK⟩ := hrel
  rcases k with _ | k
  ·have hjz : ¬ 0 ≤ j := by have := hj.out; omega
   have S2 : Aside (Bs B wr u0 (l ++ putB X size) ∧ Gr w v wr u0) := by
    obtain ⟨done, hd, h1, h2⟩ := SK.out
    rw [putB, List.append_nil] at hd
    rw [← hd]; exact ⟨h1, h2⟩
   clear SK hj
   go_wp2
   go_ret
   exact ⟨_, rfl, S2.out.1, S2.out.2⟩
  ·have hjz : 0 ≤ j := by have := hj.out; omega
   have hj2 : j = (k : Int) := by have := hj.out; omega
   subst hj2
   obtain ⟨done, hd, hown, hgr⟩ := SK.out
   have hlen : done.length ≤ l.length + 8 := by
    have := congrArg List.length hd
    simp only [laQ, putB_len] at this
    omega
   have HBS : Aside (B ≤ wr.heap.size) := ntQ hB hgr.grown.size
   obtain ⟨n, hn⟩ : ∃ n, done.length = n := ⟨_, rfl⟩
   have HN : Hid (done.length = n) := hn
   have hown2 : wr.ownsRow B 5 1 u0 n (Lib.byteCells done) := by rw [← hn]; exact hown
   rw [hn] at hlen
   have HG : Aside (Gr w v wr u0) := hgr
   have HD : Hid (done ++ putB X (k + 1) = l ++ putB X size) := hd
   clear SK hj hd hown hgr hn
   go_wp2_with (at_builtin; refine wpList_append_lies _ rfl _ _ 54 rfl B 5 i0 _ 1 1 Tryz.underlying54 hi hz0 hz1 hz2 rfl (by decide) _ n _ rfl (hown2.alloc _) ⟨wr.heap.size, 0, none⟩ 1 1 [_] rfl rfl (cell_one_new _ _ _) (by intro u hu; simp at hu; subst hu; rfl) (by omega) (by unfold maxLen; omega) (by omega) (by have := HBS.out; simp; omega) (wr.heap.size + 1) (by simp) ?_; intro g c3 w3 hown3 hgrow hat hglt)
   have S3 : Aside (Bs B w3 (.slice (some ⟨g, 0, none⟩) (n + 1) c3) (done ++ [UInt8.ofNat (X / 256 ^ k)]) ∧ Gr w v w3 (.slice (some ⟨g, 0, none⟩) (n + 1) c3)) := by
    have hw : IntKind.u64.wrap x = (X : Int) := by have := HX.out; simp [IntKind.wrap, IntKind.signed, IntKind.bits]; omega
    have hw2 : x % 18446744073709551616 = (X : Int) := HX.out
    have hw3 : (0 ≤ x) → x = (X : Int) := by have := HX.out; omega
    first | rw [hw] at hown3 | rw [hw2] at hown3 | rw [hw3 hx.1] at hown3
    obtain ⟨p1, p2⟩ := Bs.push HN.out (x := X / 256 ^ k) (byte_at X k) hown3 hgrow hat
    exact ⟨p1, HG.out.trans p2⟩
   clear hown3 hgrow hat hglt hown2
   go_wp2
   go_roundg k
   case measure => omega
   case rel =>
    refine ⟨k, _, rfl, by go_num, by omega, nrQ _, _, ?_, S3.out.1, S3.out.2⟩
    rw [apQ, ← HD.out]; simp [putB]

theorem lay_u32 (B size : Nat) (x : Int) (hx : 0 ≤ x ∧ x ≤ 4294967295) (hs : size ≤ 8) (v : Value) (l : List UInt8) (w : World) (ho : Bs B w v l) (hB : B ≤ w.heap.size) (hl : l.length ≤ 1000000000) :
  Calls Tryz.prog 118 #[v, .int .i64 size, .int .u32 x] w fun e w' => ∃ v', e = .returned v' ∧ Bs B w' v' (l ++ putI x size) ∧ Gr w v w' v' := by
 unfold putI
 obtain ⟨X, hX⟩ : ∃ X : Nat, (x % 18446744073709551616).toNat = X := ⟨_, rfl⟩
 have HX : Hid (x % 18446744073709551616 = (X : Int)) := by show _ = _; omega
 rw [hX]
 clear hX
 obtain ⟨i0, hi, hz0, hz1, hz2⟩ := info_parts info_u8
 have H : Aside (Bs B w v l) := ho
 clear ho
 go_enter Tryz.func118, Tryz.ntmps118
 go_wp2_with fail
 go_loopg [0, 7] size (fun g1 vv vi wr => ∃ (k : Nat) (j : Int), vi = .int .i64 j ∧ Aside (j = (k : Int) - 1) ∧ k ≤ size ∧ k ≤ g1 ∧ Aside (∃ done, done ++ putB X k = l ++ putB X size ∧ Bs B wr vv done ∧ Gr w v wr vv))
 case atStart => exact ⟨size, _, rfl, by go_num, nrQ _, nrQ _, l, rfl, H.out, Gr.refl _ _⟩
 case round =>
  obtain ⟨k, j, rfl, hj, hk, hg1, SK⟩ := hrel
  rcases k with _ | k
  ·have hjz : ¬ 0 ≤ j := by have := hj.out; omega
   have S2 : Aside (Bs B wr u0 (l ++ putB X size) ∧ Gr w v wr u0) := by
    obtain ⟨done, hd, h1, h2⟩ := SK.out
    rw [putB, List.append_nil] at hd
    rw [← hd]; exact ⟨h1, h2⟩
   clear SK hj
   go_wp2
   go_ret
   exact ⟨_, rfl, S2.out.1, S2.out.2⟩
  ·have hjz : 0 ≤ j := by have := hj.out; omega
   have hj2 : j = (k : Int) := by have := hj.out; omega
   subst hj2
   obtain ⟨done, hd, hown, hgr⟩ := SK.out
   have hlen : done.length ≤ l.length + 8 := by
    have := congrArg List.length hd
    simp only [laQ, putB_len] at this
    omega
   have HBS : Aside (B ≤ wr.heap.size) := ntQ hB hgr.grown.size
   obtain ⟨n, hn⟩ : ∃ n, done.length = n := ⟨_, rfl⟩
   have HN : Hid (done.length = n) := hn
   have hown2 : wr.ownsRow B 5 1 u0 n (Lib.byteCells done) := by rw [← hn]; exact hown
   rw [hn] at hlen
   have HG : Aside (Gr w v wr u0) := hgr
   have HD : Hid (done ++ putB X (k + 1) = l ++ putB X size) := hd
   clear SK hj hd hown hgr hn
   go_wp2_with (at_builtin; refine wpList_append_lies _ rfl _ _ 54 rfl B 5 i0 _ 1 1 Tryz.underlying54 hi hz0 hz1 hz2 rfl (by decide) _ n _ rfl (hown2.alloc _) ⟨wr.heap.size, 0, none⟩ 1 1 [_] rfl rfl (cell_one_new _ _ _) (by intro u hu; simp at hu; subst hu; rfl) (by omega) (by unfold maxLen; omega) (by omega) (by have := HBS.out; simp; omega) (wr.heap.size + 1) (by simp) ?_; intro g c3 w3 hown3 hgrow hat hglt)
   have S3 : Aside (Bs B w3 (.slice (some ⟨g, 0, none⟩) (n + 1) c3) (done ++ [UInt8.ofNat (X / 256 ^ k)]) ∧ Gr w v w3 (.slice (some ⟨g, 0, none⟩) (n + 1) c3)) := by
    have hw : IntKind.u64.wrap x = (X : Int) := by have := HX.out; simp [IntKind.wrap, IntKind.signed, IntKind.bits]; omega
    have hw2 : x % 18446744073709551616 = (X : Int) := HX.out
    have hw3 : (0 ≤ x) → x = (X : Int) := by have := HX.out; omega
    first | rw [hw] at hown3 | rw [hw2] at hown3 | rw [hw3 hx.1] at hown3
    obtain ⟨p1, p2⟩ := Bs.push HN.out (x := X / 256 ^ k) (byte_at X k) hown3 hgrow hat
    exact ⟨p1, HG.out.trans p2⟩
   clear hown3 hgrow hat hglt hown2
   go_wp2
   go_roundg k
   case measure => omega
   case rel =>
    refine ⟨k, _, rfl, by go_num, by omega, nrQ _, _, ?_, S3.out.1, S3.out.2⟩
    rw [apQ, ← HD.out]; simp [putB]
def Lays {α : Type} (w0 : World) (f : Nat) (val : α → Value) (enc : α → List UInt8) (x : α) : Prop :=
 ∀ W V L, Below w0.heap.size w0 W → Bs w0.heap.size W V L → L.length + (enc x).length ≤ 60000 → Calls Tryz.prog f #[V, val x] W fun e W' => ∃ V', e = .returned V' ∧ Bs w0.heap.size W' V' (L ++ enc x) ∧ Gr W V W' V'

theorem layAll_int (w0 : World) (f : Nat) (enc : Int → List UInt8) (a : Option Addr) (xs : List Int) (n c size : Nat) (hI : Ints w0 a xs) (hn : xs.length = n) (hs : size ≤ 8) (eg : ∀ args w, (callFunc f args).run Tryz.prog w = .ok (.enter f args) w) (hf : ∀ x ∈ xs, Lays w0 f (Value.int .i64) enc x)
  (w : World) (v : Value) (l : List UInt8) (hb : Below w0.heap.size w0 w) (ho : Bs w0.heap.size w v l) (hm : n ≤ 60000) (hl : l.length + size + (xs.flatMap enc).length ≤ 60000) :
  Calls Tryz.prog 119 #[v, .int .i64 size, .slice a n c, .func (.func f) #[] #[]] w fun e w' => ∃ v', e = .returned v' ∧ Bs w0.heap.size w' v' (l ++ (putI xs.length size ++ xs.flatMap enc)) ∧ Gr w v w' v' := by
 have hB := hb.size
 have hC := lay_int w0.heap.size size n (by omega) hs v l w ho hB (by omega)
 have H : Aside (Ints w0 a xs ∧ xs.length = n ∧ (∀ x ∈ xs, Lays w0 f (Value.int .i64) enc x) ∧ Below w0.heap.size w0 w ∧ Bs w0.heap.size w v l) := ⟨hI, hn, hf, hb, ho⟩
 have HL : Aside (l.length + size + (xs.flatMap enc).length ≤ 60000) := hl
 clear hI hn hf hb ho hl
 go_enter Tryz.func119, Tryz.ntmps119
 go_wp2_with (go_at_call 125; refine hC.mono ?_; rintro e w1 ⟨v1, rfl, hown1, hgr1⟩; refine Hid.out ?_)
 refine hid ?_
 have S1 : Aside (Bs w0.heap.size w1 v1 (l ++ (putI xs.length size ++ (xs.take 0).flatMap enc)) ∧ Gr w v w1 v1) := by
  refine ⟨?_, hgr1⟩
  rw [H.out.2.1]
  simpa using hown1
 clear hown1 hgr1 hC
 go_wp2_with fail
 go_loopg [0, 18] n (fun g1 vv vi wr => ∃ (k : Nat), vi = .int .i64 k ∧ k ≤ n ∧ n - k ≤ g1 ∧ Aside (Bs w0.heap.size wr vv (l ++ (putI xs.length size ++ (xs.take k).flatMap enc)) ∧ Gr w v wr vv))
 case atStart => exact ⟨0, rfl, Nat.zero_le _, nrQ _, S1⟩
 case round =>
  clear S1
  obtain ⟨k, rfl, hk, hg1, SK⟩ := hrel
  have HBW : Aside (Below w0.heap.size w0 wr) := H.out.2.2.2.1.trans (SK.out.2.below H.out.2.2.2.2 H.out.2.2.2.1.size)
  by_cases hlt : k < n
  ·have hltz : (k : Int) < (n : Int) := by omega
   have hkl : k < xs.length := by rw [H.out.2.1]; exact hlt
   obtain ⟨b, off, ha, hc⟩ := (H.out.1.keep HBW.out).get hkl
   subst ha
   have hcc := hc k hkl
   clear hc
   have hmem : nth xs k ∈ xs := nth_mem hkl
   have HT : Hid ((xs.take (k + 1)).flatMap enc = (xs.take k).flatMap enc ++ enc (nth xs k)) := by show _ = _; rw [take_nth xs k hkl, List.flatMap_append]; simp
   have hlen2 : (l ++ (putI xs.length size ++ (xs.take k).flatMap enc)).length + (enc (nth xs k)).length ≤ 60000 := by
    have h1 := flat_take enc xs (k + 1)
    rw [HT.out] at h1
    have h2 := HL.out
    simp only [laQ, putI_len] at h1 ⊢
    omega
   obtain ⟨va, vc, hvv⟩ := Bs.form SK.out.1
   generalize hD : l ++ (putI xs.length size ++ (xs.take k).flatMap enc) = D at SK hlen2 hvv
   obtain ⟨m, hmD⟩ : ∃ m, D.length = m := ⟨_, rfl⟩
   rw [hmD] at hvv
   subst hvv
   have hmz : ¬ (60000 : Int) < (m : Int) := by omega
   have HDD : Hid (l ++ (putI xs.length size ++ (xs.take k).flatMap enc) = D) := hD
   clear hD
   have hF := fun W (hW : Below wr.heap.size wr W) => H.out.2.2.1 _ hmem W (.slice va m vc) D (HBW.out.trans (hW.mono HBW.out.size)) (SK.out.1.keep hW) hlen2
   clear hlen2 hmem hmD
   have r0 := hcc
   clear hcc
   generalize nth xs k = x at r0 hF HT
   go_wp2_with fail
   refine (hF _ (by (repeat (first | with_reducible exact Below.refl _ _ | (with_reducible refine Below.drew ?_) | (with_reducible refine Below.alloc ?_ (by first | omega | (simp; done) | (simp; omega)) _) | (with_reducible refine Below.setCell ?_ (by first | exact nrQ _ | omega | (simp; done) | (simp; omega)) _))))).mono ?_
   rintro e w2 ⟨v2, rfl, hown2, hgr2⟩
   have S2 : Aside (Bs w0.heap.size w2 v2 (l ++ (putI xs.length size ++ (xs.take (k + 1)).flatMap enc)) ∧ Gr w v w2 v2) := by
    refine ⟨?_, SK.out.2.trans ((Gr.of_below _ (by (repeat (first | with_reducible exact Below.refl _ _ | (with_reducible refine Below.drew ?_) | (with_reducible refine Below.alloc ?_ (by first | omega | (simp; done) | (simp; omega)) _) | (with_reducible refine Below.setCell ?_ (by first | exact nrQ _ | omega | (simp; done) | (simp; omega)) _))))).trans hgr2)⟩
    rw [HT.out, ← apQ (putI _ _), ← apQ l, HDD.out]; exact hown2
   clear hown2 hgr2 hF
   go_wp2
   go_roundg (n - (k + 1))
   case measure => omega
   case rel => exact ⟨k + 1, by go_num, by omega, by omega, S2⟩
  ·have hltz : ¬ (k : Int) < (n : Int) := by omega
   have S2 : Aside (Bs w0.heap.size wr u0 (l ++ (putI xs.length size ++ xs.flatMap enc)) ∧ Gr w v wr u0) := by
    have h := SK.out
    rw [List.take_of_length_le (by rw [H.out.2.1]; omega)] at h
    exact h
   clear SK
   go_wp2
   go_ret
   exact ⟨_, rfl, S2.out.1, S2.out.2⟩

theorem layAll_fact (w0 : World) (f : Nat) (enc : Ft → List UInt8) (a : Option Addr) (xs : List Ft) (n c size : Nat) (hI : FactsIn w0 a xs) (hn : xs.length = n) (hs : size ≤ 8) (eg : ∀ args w, (callFunc f args).run Tryz.prog w = .ok (.enter f args) w) (hf : ∀ x ∈ xs, Lays w0 f ftV enc x)
  (w : World) (v : Value) (l : List UInt8) (hb : Below w0.heap.size w0 w) (ho : Bs w0.heap.size w v l) (hm : n ≤ 60000) (hl : l.length + size + (xs.flatMap enc).length ≤ 60000) :
  Calls Tryz.prog 121 #[v, .int .i64 size, .slice a n c, .func (.func f) #[] #[]] w fun e w' => ∃ v', e = .returned v' ∧ Bs w0.heap.size w' v' (l ++ (putI xs.length size ++ xs.flatMap enc)) ∧ Gr w v w' v' := by
 have hB := hb.size
 have hC := lay_int w0.heap.size size n (by omega) hs v l w ho hB (by omega)
 have H : Aside (FactsIn w0 a xs ∧ xs.length = n ∧ (∀ x ∈ xs, Lays w0 f ftV enc x) ∧ Below w0.heap.size w0 w ∧ Bs w0.heap.size w v l) := ⟨hI, hn, hf, hb, ho⟩
 have HL : Aside (l.length + size + (xs.flatMap enc).length ≤ 60000) := hl
 clear hI hn hf hb ho hl
 go_enter Tryz.func121, Tryz.ntmps121
 go_wp2_with (go_at_call 125; refine hC.mono ?_; rintro e w1 ⟨v1, rfl, hown1, hgr1⟩; refine Hid.out ?_)
 refine hid ?_
 have S1 : Aside (Bs w0.heap.size w1 v1 (l ++ (putI xs.length size ++ (xs.take 0).flatMap enc)) ∧ Gr w v w1 v1) := by
  refine ⟨?_, hgr1⟩
  rw [H.out.2.1]
  simpa using hown1
 clear hown1 hgr1 hC
 go_wp2_with fail
 go_loopg [0, 18] n (fun g1 vv vi wr => ∃ (k : Nat), vi = .int .i64 k ∧ k ≤ n ∧ n - k ≤ g1 ∧ Aside (Bs w0.heap.size wr vv (l ++ (putI xs.length size ++ (xs.take k).flatMap enc)) ∧ Gr w v wr vv))
 case atStart => exact ⟨0, rfl, Nat.zero_le _, nrQ _, S1⟩
 case round =>
  clear S1
  obtain ⟨k, rfl, hk, hg1, SK⟩ := hrel
  have HBW : Aside (Below w0.heap.size w0 wr) := H.out.2.2.2.1.trans (SK.out.2.below H.out.2.2.2.2 H.out.2.2.2.1.size)
  by_cases hlt : k < n
  ·have hltz : (k : Int) < (n : Int) := by omega
   have hkl : k < xs.length := by rw [H.out.2.1]; exact hlt
   obtain ⟨b, off, ha, hc⟩ := (H.out.1.keep HBW.out).get hkl
   subst ha
   have hcc := hc k hkl
   clear hc
   have hmem : ftn xs k ∈ xs := ftn_mem hkl
   have HT : Hid ((xs.take (k + 1)).flatMap enc = (xs.take k).flatMap enc ++ enc (ftn xs k)) := by show _ = _; rw [take_ftn xs k hkl, List.flatMap_append]; simp
   have hlen2 : (l ++ (putI xs.length size ++ (xs.take k).flatMap enc)).length + (enc (ftn xs k)).length ≤ 60000 := by
    have h1 := flat_take enc xs (k + 1)
    rw [HT.out] at h1
    have h2 := HL.out
    simp only [laQ, putI_len] at h1 ⊢
    omega
   obtain ⟨va, vc, hvv⟩ := Bs.form SK.out.1
   generalize hD : l ++ (putI xs.length size ++ (xs.take k).flatMap enc) = D at SK hlen2 hvv
   obtain ⟨m, hmD⟩ : ∃ m, D.length = m := ⟨_, rfl⟩
   rw [hmD] at hvv
   subst hvv
   have hmz : ¬ (60000 : Int) < (m : Int) := by omega
   have HDD : Hid (l ++ (putI xs.length size ++ (xs.take k).flatMap enc) = D) := hD
   clear hD
   have hF := fun W (hW : Below wr.heap.size wr W) => H.out.2.2.1 _ hmem W (.slice va m vc) D (HBW.out.trans (hW.mono HBW.out.size)) (SK.out.1.keep hW) hlen2
   clear hlen2 hmem hmD
   obtain ⟨r0, r1, -⟩ := hcc
   unfold ftV at hF
   generalize (ftn xs k).a = x0 at r0 hF
   generalize (ftn xs k).k.length = x1 at r0 hF
   generalize (ftn xs k).cap = x2 at r0 hF
   generalize (ftn xs k).v = x3 at r1 hF
   go_wp2_with fail
   refine (hF _ (by (repeat (first | with_reducible exact Below.refl _ _ | (with_reducible refine Below.drew ?_) | (with_reducible refine Below.alloc ?_ (by first | omega | (simp; done) | (simp; omega)) _) | (with_reducible refine Below.setCell ?_ (by first | exact nrQ _ | omega | (simp; done) | (simp; omega)) _))))).mono ?_
   rintro e w2 ⟨v2, rfl, hown2, hgr2⟩
   have S2 : Aside (Bs w0.heap.size w2 v2 (l ++ (putI xs.length size ++ (xs.take (k + 1)).flatMap enc)) ∧ Gr w v w2 v2) := by
    refine ⟨?_, SK.out.2.trans ((Gr.of_below _ (by (repeat (first | with_reducible exact Below.refl _ _ | (with_reducible refine Below.drew ?_) | (with_reducible refine Below.alloc ?_ (by first | omega | (simp; done) | (simp; omega)) _) | (with_reducible refine Below.setCell ?_ (by first | exact nrQ _ | omega | (simp; done) | (simp; omega)) _))))).trans hgr2)⟩
    rw [HT.out, ← apQ (putI _ _), ← apQ l, HDD.out]; exact hown2
   clear hown2 hgr2 hF
   go_wp2
   go_roundg (n - (k + 1))
   case measure => omega
   case rel => exact ⟨k + 1, by go_num, by omega, by omega, S2⟩
  ·have hltz : ¬ (k : Int) < (n : Int) := by omega
   have S2 : Aside (Bs w0.heap.size wr u0 (l ++ (putI xs.length size ++ xs.flatMap enc)) ∧ Gr w v wr u0) := by
    have h := SK.out
    rw [List.take_of_length_le (by rw [H.out.2.1]; omega)] at h
    exact h
   clear SK
   go_wp2
   go_ret
   exact ⟨_, rfl, S2.out.1, S2.out.2⟩

theorem layAll_span (w0 : World) (f : Nat) (enc : PSpan → List UInt8) (a : Option Addr) (xs : List PSpan) (n c size : Nat) (hI : SpansIn w0 a xs) (hn : xs.length = n) (hs : size ≤ 8) (eg : ∀ args w, (callFunc f args).run Tryz.prog w = .ok (.enter f args) w) (hf : ∀ x ∈ xs, Lays w0 f spV enc x)
  (w : World) (v : Value) (l : List UInt8) (hb : Below w0.heap.size w0 w) (ho : Bs w0.heap.size w v l) (hm : n ≤ 60000) (hl : l.length + size + (xs.flatMap enc).length ≤ 60000) :
  Calls Tryz.prog 123 #[v, .int .i64 size, .slice a n c, .func (.func f) #[] #[]] w fun e w' => ∃ v', e = .returned v' ∧ Bs w0.heap.size w' v' (l ++ (putI xs.length size ++ xs.flatMap enc)) ∧ Gr w v w' v' := by
 have hB := hb.size
 have hC := lay_int w0.heap.size size n (by omega) hs v l w ho hB (by omega)
 have H : Aside (SpansIn w0 a xs ∧ xs.length = n ∧ (∀ x ∈ xs, Lays w0 f spV enc x) ∧ Below w0.heap.size w0 w ∧ Bs w0.heap.size w v l) := ⟨hI, hn, hf, hb, ho⟩
 have HL : Aside (l.length + size + (xs.flatMap enc).length ≤ 60000) := hl
 clear hI hn hf hb ho hl
 go_enter Tryz.func123, Tryz.ntmps123
 go_wp2_with (go_at_call 125; refine hC.mono ?_; rintro e w1 ⟨v1, rfl, hown1, hgr1⟩; refine Hid.out ?_)
 refine hid ?_
 have S1 : Aside (Bs w0.heap.size w1 v1 (l ++ (putI xs.length size ++ (xs.take 0).flatMap enc)) ∧ Gr w v w1 v1) := by
  refine ⟨?_, hgr1⟩
  rw [H.out.2.1]
  simpa using hown1
 clear hown1 hgr1 hC
 go_wp2_with fail
 go_loopg [0, 18] n (fun g1 vv vi wr => ∃ (k : Nat), vi = .int .i64 k ∧ k ≤ n ∧ n - k ≤ g1 ∧ Aside (Bs w0.heap.size wr vv (l ++ (putI xs.length size ++ (xs.take k).flatMap enc)) ∧ Gr w v wr vv))
 case atStart => exact ⟨0, rfl, Nat.zero_le _, nrQ _, S1⟩
 case round =>
  clear S1
  obtain ⟨k, rfl, hk, hg1, SK⟩ := hrel
  have HBW : Aside (Below w0.heap.size w0 wr) := H.out.2.2.2.1.trans (SK.out.2.below H.out.2.2.2.2 H.out.2.2.2.1.size)
  by_cases hlt : k < n
  ·have hltz : (k : Int) < (n : Int) := by omega
   have hkl : k < xs.length := by rw [H.out.2.1]; exact hlt
   obtain ⟨b, off, ha, hc⟩ := (H.out.1.keep HBW.out).get hkl
   subst ha
   have hcc := hc k hkl
   clear hc
   have hmem : spn xs k ∈ xs := spn_mem hkl
   have HT : Hid ((xs.take (k + 1)).flatMap enc = (xs.take k).flatMap enc ++ enc (spn xs k)) := by show _ = _; rw [take_spn xs k hkl, List.flatMap_append]; simp
   have hlen2 : (l ++ (putI xs.length size ++ (xs.take k).flatMap enc)).length + (enc (spn xs k)).length ≤ 60000 := by
    have h1 := flat_take enc xs (k + 1)
    rw [HT.out] at h1
    have h2 := HL.out
    simp only [laQ, putI_len] at h1 ⊢
    omega
   obtain ⟨va, vc, hvv⟩ := Bs.form SK.out.1
   generalize hD : l ++ (putI xs.length size ++ (xs.take k).flatMap enc) = D at SK hlen2 hvv
   obtain ⟨m, hmD⟩ : ∃ m, D.length = m := ⟨_, rfl⟩
   rw [hmD] at hvv
   subst hvv
   have hmz : ¬ (60000 : Int) < (m : Int) := by omega
   have HDD : Hid (l ++ (putI xs.length size ++ (xs.take k).flatMap enc) = D) := hD
   clear hD
   have hF := fun W (hW : Below wr.heap.size wr W) => H.out.2.2.1 _ hmem W (.slice va m vc) D (HBW.out.trans (hW.mono HBW.out.size)) (SK.out.1.keep hW) hlen2
   clear hlen2 hmem hmD
   obtain ⟨r0, r1, -⟩ := hcc
   unfold spV at hF
   generalize (spn xs k).1 = x0 at r0 hF
   generalize (spn xs k).2 = x1 at r1 hF
   go_wp2_with fail
   refine (hF _ (by (repeat (first | with_reducible exact Below.refl _ _ | (with_reducible refine Below.drew ?_) | (with_reducible refine Below.alloc ?_ (by first | omega | (simp; done) | (simp; omega)) _) | (with_reducible refine Below.setCell ?_ (by first | exact nrQ _ | omega | (simp; done) | (simp; omega)) _))))).mono ?_
   rintro e w2 ⟨v2, rfl, hown2, hgr2⟩
   have S2 : Aside (Bs w0.heap.size w2 v2 (l ++ (putI xs.length size ++ (xs.take (k + 1)).flatMap enc)) ∧ Gr w v w2 v2) := by
    refine ⟨?_, SK.out.2.trans ((Gr.of_below _ (by (repeat (first | with_reducible exact Below.refl _ _ | (with_reducible refine Below.drew ?_) | (with_reducible refine Below.alloc ?_ (by first | omega | (simp; done) | (simp; omega)) _) | (with_reducible refine Below.setCell ?_ (by first | exact nrQ _ | omega | (simp; done) | (simp; omega)) _))))).trans hgr2)⟩
    rw [HT.out, ← apQ (putI _ _), ← apQ l, HDD.out]; exact hown2
   clear hown2 hgr2 hF
   go_wp2
   go_roundg (n - (k + 1))
   case measure => omega
   case rel => exact ⟨k + 1, by go_num, by omega, by omega, S2⟩
  ·have hltz : ¬ (k : Int) < (n : Int) := by omega
   have S2 : Aside (Bs w0.heap.size wr u0 (l ++ (putI xs.length size ++ xs.flatMap enc)) ∧ Gr w v wr u0) := by
    have h := SK.out
    rw [List.take_of_length_le (by rw [H.out.2.1]; omega)] at h
    exact h
   clear SK
   go_wp2
   go_ret
   exact ⟨_, rfl, S2.out.1, S2.out.2⟩

theorem layAll_ent (w0 : World) (f : Nat) (enc : Et → List UInt8) (a : Option Addr) (xs : List Et) (n c size : Nat) (hI : EntsIn w0 a xs) (hn : xs.length = n) (hs : size ≤ 8) (eg : ∀ args w, (callFunc f args).run Tryz.prog w = .ok (.enter f args) w) (hf : ∀ x ∈ xs, Lays w0 f etV enc x)
  (w : World) (v : Value) (l : List UInt8) (hb : Below w0.heap.size w0 w) (ho : Bs w0.heap.size w v l) (hm : n ≤ 60000) (hl : l.length + size + (xs.flatMap enc).length ≤ 60000) :
  Calls Tryz.prog 126 #[v, .int .i64 size, .slice a n c, .func (.func f) #[] #[]] w fun e w' => ∃ v', e = .returned v' ∧ Bs w0.heap.size w' v' (l ++ (putI xs.length size ++ xs.flatMap enc)) ∧ Gr w v w' v' := by
 have hB := hb.size
 have hC := lay_int w0.heap.size size n (by omega) hs v l w ho hB (by omega)
 have H : Aside (EntsIn w0 a xs ∧ xs.length = n ∧ (∀ x ∈ xs, Lays w0 f etV enc x) ∧ Below w0.heap.size w0 w ∧ Bs w0.heap.size w v l) := ⟨hI, hn, hf, hb, ho⟩
 have HL : Aside (l.length + size + (xs.flatMap enc).length ≤ 60000) := hl
 clear hI hn hf hb ho hl
 go_enter Tryz.func126, Tryz.ntmps126
 go_wp2_with (go_at_call 125; refine hC.mono ?_; rintro e w1 ⟨v1, rfl, hown1, hgr1⟩; refine Hid.out ?_)
 refine hid ?_
 have S1 : Aside (Bs w0.heap.size w1 v1 (l ++ (putI xs.length size ++ (xs.take 0).flatMap enc)) ∧ Gr w v w1 v1) := by
  refine ⟨?_, hgr1⟩
  rw [H.out.2.1]
  simpa using hown1
 clear hown1 hgr1 hC
 go_wp2_with fail
 go_loopg [0, 18] n (fun g1 vv vi wr => ∃ (k : Nat), vi = .int .i64 k ∧ k ≤ n ∧ n - k ≤ g1 ∧ Aside (Bs w0.heap.size wr vv (l ++ (putI xs.length size ++ (xs.take k).flatMap enc)) ∧ Gr w v wr vv))
 case atStart => exact ⟨0, rfl, Nat.zero_le _, nrQ _, S1⟩
 case round =>
  clear S1
  obtain ⟨k, rfl, hk, hg1, SK⟩ := hrel
  have HBW : Aside (Below w0.heap.size w0 wr) := H.out.2.2.2.1.trans (SK.out.2.below H.out.2.2.2.2 H.out.2.2.2.1.size)
  by_cases hlt : k < n
  ·have hltz : (k : Int) < (n : Int) := by omega
   have hkl : k < xs.length := by rw [H.out.2.1]; exact hlt
   obtain ⟨b, off, ha, hc⟩ := (H.out.1.keep HBW.out).get hkl
   subst ha
   have hcc := hc k hkl
   clear hc
   have hmem : etn xs k ∈ xs := etn_mem hkl
   have HT : Hid ((xs.take (k + 1)).flatMap enc = (xs.take k).flatMap enc ++ enc (etn xs k)) := by show _ = _; rw [take_etn xs k hkl, List.flatMap_append]; simp
   have hlen2 : (l ++ (putI xs.length size ++ (xs.take k).flatMap enc)).length + (enc (etn xs k)).length ≤ 60000 := by
    have h1 := flat_take enc xs (k + 1)
    rw [HT.out] at h1
    have h2 := HL.out
    simp only [laQ, putI_len] at h1 ⊢
    omega
   obtain ⟨va, vc, hvv⟩ := Bs.form SK.out.1
   generalize hD : l ++ (putI xs.length size ++ (xs.take k).flatMap enc) = D at SK hlen2 hvv
   obtain ⟨m, hmD⟩ : ∃ m, D.length = m := ⟨_, rfl⟩
   rw [hmD] at hvv
   subst hvv
   have hmz : ¬ (60000 : Int) < (m : Int) := by omega
   have HDD : Hid (l ++ (putI xs.length size ++ (xs.take k).flatMap enc) = D) := hD
   clear hD
   have hF := fun W (hW : Below wr.heap.size wr W) => H.out.2.2.1 _ hmem W (.slice va m vc) D (HBW.out.trans (hW.mono HBW.out.size)) (SK.out.1.keep hW) hlen2
   clear hlen2 hmem hmD
   obtain ⟨r0, r1, -⟩ := hcc
   unfold etV at hF
   generalize (etn xs k).t = x0 at r0 hF
   generalize (etn xs k).a = x1 at r1 hF
   generalize (etn xs k).fs.length = x2 at r1 hF
   generalize (etn xs k).cap = x3 at r1 hF
   go_wp2_with fail
   refine (hF _ (by (repeat (first | with_reducible exact Below.refl _ _ | (with_reducible refine Below.drew ?_) | (with_reducible refine Below.alloc ?_ (by first | omega | (simp; done) | (simp; omega)) _) | (with_reducible refine Below.setCell ?_ (by first | exact nrQ _ | omega | (simp; done) | (simp; omega)) _))))).mono ?_
   rintro e w2 ⟨v2, rfl, hown2, hgr2⟩
   have S2 : Aside (Bs w0.heap.size w2 v2 (l ++ (putI xs.length size ++ (xs.take (k + 1)).flatMap enc)) ∧ Gr w v w2 v2) := by
    refine ⟨?_, SK.out.2.trans ((Gr.of_below _ (by (repeat (first | with_reducible exact Below.refl _ _ | (with_reducible refine Below.drew ?_) | (with_reducible refine Below.alloc ?_ (by first | omega | (simp; done) | (simp; omega)) _) | (with_reducible refine Below.setCell ?_ (by first | exact nrQ _ | omega | (simp; done) | (simp; omega)) _))))).trans hgr2)⟩
    rw [HT.out, ← apQ (putI _ _), ← apQ l, HDD.out]; exact hown2
   clear hown2 hgr2 hF
   go_wp2
   go_roundg (n - (k + 1))
   case measure => omega
   case rel => exact ⟨k + 1, by go_num, by omega, by omega, S2⟩
  ·have hltz : ¬ (k : Int) < (n : Int) := by omega
   have S2 : Aside (Bs w0.heap.size wr u0 (l ++ (putI xs.length size ++ xs.flatMap enc)) ∧ Gr w v wr u0) := by
    have h := SK.out
    rw [List.take_of_length_le (by rw [H.out.2.1]; omega)] at h
    exact h
   clear SK
   go_wp2
   go_ret
   exact ⟨_, rfl, S2.out.1, S2.out.2⟩
end code
end Go.Proofs.YtlcjllgfpfldlaaGreat
