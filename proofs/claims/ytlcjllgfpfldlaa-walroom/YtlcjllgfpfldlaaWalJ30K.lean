/-
 A record laid as bytes: the program's layRec.
 The program's Encode.
 The chapter's example holds: the contract of the statements' own 'known'.
-/
import Derived.Test.YtlcjllgfpfldlaaWalJ29K
import Derived.Test.YtlcjllgfpfldlaaWalJ27K
import Derived.Test.YtlcjllgfpfldlaaWalJ28K
namespace Go.Proofs.Ytlcjllgfpfldlaa.code
open Go.ChangeShapes Go.WideShapes Go.ChangeAt Go.RowKit Go.Deep
open Go.Proofs.Ytlcjllgfpfldlaa.dims (nth Ints cell_lt vals vals_len vals_get own_below own_mono own_out RowOut ret_bool)
set_option linter.unusedVariables false
set_option maxRecDepth 100000
set_option linter.unusedSimpArgs false

theorem spans_ok {w : World} {a : Option Addr} {ss : List PSpan} (h : SpansIn w a ss) : ∀ s ∈ ss, I64 s.1 ∧ I64 s.2 := fun f hf => by
 obtain ⟨i, hi, rfl⟩ := List.mem_iff_getElem.1 hf
 obtain ⟨b, off, -, hc⟩ := h.get hi
 rw [← spn_eq hi]; exact (hc i hi).2.2

set_option maxHeartbeats 8000000 in
theorem layRec_1 (w : World) (r : Rc) (hR : RecIn w r) (hk : r.kind = 1) (hl : (recB (pr r)).length ≤ 60000) :
  Calls Try.prog 79 #[rcV r] w fun e w' => ∃ v', e = .returned v' ∧ Bs w.heap.size w' v' (recB (pr r)) ∧ Below w.heap.size w w' := by
 obtain ⟨kind, id, at_, na, nc, nodes, fa, fc, facts, epoch, sa, sc, spans, frm, til, ea, ec, ents⟩ := r
 simp only at hk
 subst hk
 have E : Hid (recB (pr ⟨1, id, at_, na, nc, nodes, fa, fc, facts, epoch, sa, sc, spans, frm, til, ea, ec, ents⟩) = putI 1 1 ++ (putI id 4 ++ (putI nodes.length 1 ++ (nodes.flatMap (putI · 1) ++ (putI facts.length 4 ++ facts.flatMap (fun f => factB (pf f))))))) := by
  show _ = _
  simp [recB, bodyB, pr, nodesB, factsB, mapB, entsB, flatF_map, flatE_map]
 rw [E.out] at hl
 simp only [List.length_append, List.length_nil, putI_len] at hl
 have l1 := flatN_len nodes
 have l2 := flatF_least facts
 have l3 := flatS_least spans
 have l4 := flatE_least ents
 have hb0 : Below w.heap.size w (w.alloc (.cells #[(.int .u8 1), (.int .u32 id), (.int .u32 at_), (.slice na nodes.length nc), (.slice fa facts.length fc), (.int .u32 epoch), (.slice sa spans.length sc), (.int .i64 frm), (.int .i64 til), (.slice ea ents.length ec)] 44)) := by (repeat (first | with_reducible exact Below.refl _ _ | (with_reducible refine Below.drew ?_) | (with_reducible refine Below.alloc ?_ (by first | omega | (simp; done) | (simp; omega)) _) | (with_reducible refine Below.setCell ?_ (by first | exact Nat.le_refl _ | omega | (simp; done) | (simp; omega)) _)))
 have hR0 := hR.keep hb0
 have hcell : ∀ W, Below (w.heap.size + 1) (w.alloc (.cells #[(.int .u8 1), (.int .u32 id), (.int .u32 at_), (.slice na nodes.length nc), (.slice fa facts.length fc), (.int .u32 epoch), (.slice sa spans.length sc), (.int .i64 frm), (.int .i64 til), (.slice ea ents.length ec)] 44)) W → ∀ j x, #[(.int .u8 1), (.int .u32 id), (.int .u32 at_), (.slice na nodes.length nc), (.slice fa facts.length fc), (.int .u32 epoch), (.slice sa spans.length sc), (.int .i64 frm), (.int .i64 til), (.slice ea ents.length ec)][j]? = some x → W.cell? ⟨w.heap.size, j, none⟩ = some x := by
  intro W hW j x hx
  rw [hW.cell (p := ⟨w.heap.size, j, none⟩) (by simp)]
  simpa [go_sem] using hx
 have hsz : (w.alloc (.cells #[(.int .u8 1), (.int .u32 id), (.int .u32 at_), (.slice na nodes.length nc), (.slice fa facts.length fc), (.int .u32 epoch), (.slice sa spans.length sc), (.int .i64 frm), (.int .i64 til), (.slice ea ents.length ec)] 44)).heap.size = w.heap.size + 1 := by simp
 generalize hW0 : w.alloc (.cells #[(.int .u8 1), (.int .u32 id), (.int .u32 at_), (.slice na nodes.length nc), (.slice fa facts.length fc), (.int .u32 epoch), (.slice sa spans.length sc), (.int .i64 frm), (.int .i64 til), (.slice ea ents.length ec)] 44) = W0 at hb0 hR0 hcell hsz
 rw [← hsz] at hcell
 have HR : Aside (RecIn W0 _) := hR0
 have H0 : Aside (Below w.heap.size w W0) := hb0
 obtain ⟨nn, hnn⟩ : ∃ nn, nodes.length = nn := ⟨_, rfl⟩
 have HN : Hid (nodes.length = nn) := hnn
 obtain ⟨fn, hfn⟩ : ∃ fn, facts.length = fn := ⟨_, rfl⟩
 have HF : Hid (facts.length = fn) := hfn
 obtain ⟨sn, hsn⟩ : ∃ sn, spans.length = sn := ⟨_, rfl⟩
 have HS : Hid (spans.length = sn) := hsn
 obtain ⟨en, hen⟩ : ∃ en, ents.length = en := ⟨_, rfl⟩
 have HE : Hid (ents.length = en) := hen
 show Calls _ _ #[.agg #[(.int .u8 1), (.int .u32 id), (.int .u32 at_), (.slice na nodes.length nc), (.slice fa facts.length fc), (.int .u32 epoch), (.slice sa spans.length sc), (.int .i64 frm), (.int .i64 til), (.slice ea ents.length ec)]] _ _
 rw [hnn, hfn, hsn, hen] at hW0 hcell ⊢
 have HC : Aside (∀ W, Below W0.heap.size W0 W → _) := hcell
 have HW : Hid (_ = W0) := hW0
 have b0 := Below.refl W0.heap.size W0
 have h0 := Bs.nil W0.heap.size W0
 have s0 : w.heap.size < W0.heap.size := by omega
 clear hR hR0 hb0 hcell hsz hW0 hnn hfn hsn hen
 go_enter Try.func79, Try.ntmps79
 go_wp2_with fail
 rw [HW.out]
 have hC1 := lay_u8 W0.heap.size 1 1 HR.out.kind (by omega) (.slice none 0 0) _ W0 h0 b0.size (by (try simp only [List.length_append, List.length_nil, putI_len]); have e1 := HN.out; have e2 := HF.out; have e3 := HS.out; have e4 := HE.out; omega)
 have q1 := HC.out W0 b0 0 _ rfl
 go_wp2_with (go_at_call 87; refine hC1.mono ?_; rintro e w1 ⟨v1, rfl, h1, g1⟩; refine Hid.out ?_)
 refine hid ?_
 have b1 : Below W0.heap.size W0 w1 := b0.trans (g1.below h0 b0.size)
 clear hC1 q1 g1
 have hC2 := lay_u32 W0.heap.size 4 id HR.out.id (by omega) v1 _ w1 h1 b1.size (by (try simp only [List.length_append, List.length_nil, putI_len]); have e1 := HN.out; have e2 := HF.out; have e3 := HS.out; have e4 := HE.out; omega)
 have q2 := HC.out w1 b1 1 _ rfl
 go_wp2_with (go_at_call 88; refine hC2.mono ?_; rintro e w2 ⟨v2, rfl, h2, g2⟩; refine Hid.out ?_)
 refine hid ?_
 have b2 : Below W0.heap.size W0 w2 := b1.trans (g2.below h1 b1.size)
 have qk := HC.out w2 b2 0 _ rfl
 clear hC2 q2 g2
 have hC3 := layAll_int W0 90 (putI · 1) na nodes nn nc 1 HR.out.nodes HN.out (by omega) (fun _ _ => rfl) (fun x hx => layNode_any W0 x (HR.out.nok x hx)) w2 v2 _ b2 h2 (by (try simp only [List.length_append, List.length_nil, putI_len]); have e1 := HN.out; have e2 := HF.out; have e3 := HS.out; have e4 := HE.out; omega) (by (try simp only [List.length_append, List.length_nil, putI_len]); have e1 := HN.out; have e2 := HF.out; have e3 := HS.out; have e4 := HE.out; omega)
 have q3 := HC.out w2 b2 3 _ rfl
 go_wp2_with (go_at_call 89; refine hC3.mono ?_; rintro e w3 ⟨v3, rfl, h3, g3⟩; refine Hid.out ?_)
 refine hid ?_
 have b3 : Below W0.heap.size W0 w3 := b2.trans (g3.below h2 b2.size)
 clear hC3 q3 g3
 have hC4 := layAll_fact W0 92 (fun f => factB (pf f)) fa facts fn fc 4 HR.out.facts HF.out (by omega) (fun _ _ => rfl) (fun f hf => layFact_any W0 f (HR.out.facts.ok f hf)) w3 v3 _ b3 h3 (by (try simp only [List.length_append, List.length_nil, putI_len]); have e1 := HN.out; have e2 := HF.out; have e3 := HS.out; have e4 := HE.out; omega) (by (try simp only [List.length_append, List.length_nil, putI_len]); have e1 := HN.out; have e2 := HF.out; have e3 := HS.out; have e4 := HE.out; omega)
 have q4 := HC.out w3 b3 4 _ rfl
 go_wp2_with (go_at_call 91; refine hC4.mono ?_; rintro e w4 ⟨v4, rfl, h4, g4⟩; refine Hid.out ?_)
 refine hid ?_
 have b4 : Below W0.heap.size W0 w4 := b3.trans (g4.below h3 b3.size)
 clear hC4 q4 g4
 go_wp2
 go_ret
 refine ⟨_, rfl, ?_, H0.out.trans (b4.mono H0.out.size)⟩
 rw [E.out]
 have := own_mono h4 H0.out.size
 unfold Bs
 simpa [List.append_assoc] using this

set_option maxHeartbeats 8000000 in
theorem layRec_2 (w : World) (r : Rc) (hR : RecIn w r) (hk : r.kind = 2) (hl : (recB (pr r)).length ≤ 60000) :
  Calls Try.prog 79 #[rcV r] w fun e w' => ∃ v', e = .returned v' ∧ Bs w.heap.size w' v' (recB (pr r)) ∧ Below w.heap.size w w' := by
 obtain ⟨kind, id, at_, na, nc, nodes, fa, fc, facts, epoch, sa, sc, spans, frm, til, ea, ec, ents⟩ := r
 simp only at hk
 subst hk
 have E : Hid (recB (pr ⟨2, id, at_, na, nc, nodes, fa, fc, facts, epoch, sa, sc, spans, frm, til, ea, ec, ents⟩) = putI 2 1 ++ (putI id 4 ++ (putI at_ 4 ++ (putI nodes.length 1 ++ nodes.flatMap (putI · 1))))) := by
  show _ = _
  simp [recB, bodyB, pr, nodesB, factsB, mapB, entsB, flatF_map, flatE_map]
 rw [E.out] at hl
 simp only [List.length_append, List.length_nil, putI_len] at hl
 have l1 := flatN_len nodes
 have l2 := flatF_least facts
 have l3 := flatS_least spans
 have l4 := flatE_least ents
 have hb0 : Below w.heap.size w (w.alloc (.cells #[(.int .u8 2), (.int .u32 id), (.int .u32 at_), (.slice na nodes.length nc), (.slice fa facts.length fc), (.int .u32 epoch), (.slice sa spans.length sc), (.int .i64 frm), (.int .i64 til), (.slice ea ents.length ec)] 44)) := by (repeat (first | with_reducible exact Below.refl _ _ | (with_reducible refine Below.drew ?_) | (with_reducible refine Below.alloc ?_ (by first | omega | (simp; done) | (simp; omega)) _) | (with_reducible refine Below.setCell ?_ (by first | exact Nat.le_refl _ | omega | (simp; done) | (simp; omega)) _)))
 have hR0 := hR.keep hb0
 have hcell : ∀ W, Below (w.heap.size + 1) (w.alloc (.cells #[(.int .u8 2), (.int .u32 id), (.int .u32 at_), (.slice na nodes.length nc), (.slice fa facts.length fc), (.int .u32 epoch), (.slice sa spans.length sc), (.int .i64 frm), (.int .i64 til), (.slice ea ents.length ec)] 44)) W → ∀ j x, #[(.int .u8 2), (.int .u32 id), (.int .u32 at_), (.slice na nodes.length nc), (.slice fa facts.length fc), (.int .u32 epoch), (.slice sa spans.length sc), (.int .i64 frm), (.int .i64 til), (.slice ea ents.length ec)][j]? = some x → W.cell? ⟨w.heap.size, j, none⟩ = some x := by
  intro W hW j x hx
  rw [hW.cell (p := ⟨w.heap.size, j, none⟩) (by simp)]
  simpa [go_sem] using hx
 have hsz : (w.alloc (.cells #[(.int .u8 2), (.int .u32 id), (.int .u32 at_), (.slice na nodes.length nc), (.slice fa facts.length fc), (.int .u32 epoch), (.slice sa spans.length sc), (.int .i64 frm), (.int .i64 til), (.slice ea ents.length ec)] 44)).heap.size = w.heap.size + 1 := by simp
 generalize hW0 : w.alloc (.cells #[(.int .u8 2), (.int .u32 id), (.int .u32 at_), (.slice na nodes.length nc), (.slice fa facts.length fc), (.int .u32 epoch), (.slice sa spans.length sc), (.int .i64 frm), (.int .i64 til), (.slice ea ents.length ec)] 44) = W0 at hb0 hR0 hcell hsz
 rw [← hsz] at hcell
 have HR : Aside (RecIn W0 _) := hR0
 have H0 : Aside (Below w.heap.size w W0) := hb0
 obtain ⟨nn, hnn⟩ : ∃ nn, nodes.length = nn := ⟨_, rfl⟩
 have HN : Hid (nodes.length = nn) := hnn
 obtain ⟨fn, hfn⟩ : ∃ fn, facts.length = fn := ⟨_, rfl⟩
 have HF : Hid (facts.length = fn) := hfn
 obtain ⟨sn, hsn⟩ : ∃ sn, spans.length = sn := ⟨_, rfl⟩
 have HS : Hid (spans.length = sn) := hsn
 obtain ⟨en, hen⟩ : ∃ en, ents.length = en := ⟨_, rfl⟩
 have HE : Hid (ents.length = en) := hen
 show Calls _ _ #[.agg #[(.int .u8 2), (.int .u32 id), (.int .u32 at_), (.slice na nodes.length nc), (.slice fa facts.length fc), (.int .u32 epoch), (.slice sa spans.length sc), (.int .i64 frm), (.int .i64 til), (.slice ea ents.length ec)]] _ _
 rw [hnn, hfn, hsn, hen] at hW0 hcell ⊢
 have HC : Aside (∀ W, Below W0.heap.size W0 W → _) := hcell
 have HW : Hid (_ = W0) := hW0
 have b0 := Below.refl W0.heap.size W0
 have h0 := Bs.nil W0.heap.size W0
 have s0 : w.heap.size < W0.heap.size := by omega
 clear hR hR0 hb0 hcell hsz hW0 hnn hfn hsn hen
 go_enter Try.func79, Try.ntmps79
 go_wp2_with fail
 rw [HW.out]
 have hC1 := lay_u8 W0.heap.size 1 2 HR.out.kind (by omega) (.slice none 0 0) _ W0 h0 b0.size (by (try simp only [List.length_append, List.length_nil, putI_len]); have e1 := HN.out; have e2 := HF.out; have e3 := HS.out; have e4 := HE.out; omega)
 have q1 := HC.out W0 b0 0 _ rfl
 go_wp2_with (go_at_call 87; refine hC1.mono ?_; rintro e w1 ⟨v1, rfl, h1, g1⟩; refine Hid.out ?_)
 refine hid ?_
 have b1 : Below W0.heap.size W0 w1 := b0.trans (g1.below h0 b0.size)
 clear hC1 q1 g1
 have hC2 := lay_u32 W0.heap.size 4 id HR.out.id (by omega) v1 _ w1 h1 b1.size (by (try simp only [List.length_append, List.length_nil, putI_len]); have e1 := HN.out; have e2 := HF.out; have e3 := HS.out; have e4 := HE.out; omega)
 have q2 := HC.out w1 b1 1 _ rfl
 go_wp2_with (go_at_call 88; refine hC2.mono ?_; rintro e w2 ⟨v2, rfl, h2, g2⟩; refine Hid.out ?_)
 refine hid ?_
 have b2 : Below W0.heap.size W0 w2 := b1.trans (g2.below h1 b1.size)
 have qk := HC.out w2 b2 0 _ rfl
 clear hC2 q2 g2
 have hC3 := lay_u32 W0.heap.size 4 at_ HR.out.at_ (by omega) v2 _ w2 h2 b2.size (by (try simp only [List.length_append, List.length_nil, putI_len]); have e1 := HN.out; have e2 := HF.out; have e3 := HS.out; have e4 := HE.out; omega)
 have q3 := HC.out w2 b2 2 _ rfl
 go_wp2_with (go_at_call 88; refine hC3.mono ?_; rintro e w3 ⟨v3, rfl, h3, g3⟩; refine Hid.out ?_)
 refine hid ?_
 have b3 : Below W0.heap.size W0 w3 := b2.trans (g3.below h2 b2.size)
 clear hC3 q3 g3
 have hC4 := layAll_int W0 90 (putI · 1) na nodes nn nc 1 HR.out.nodes HN.out (by omega) (fun _ _ => rfl) (fun x hx => layNode_any W0 x (HR.out.nok x hx)) w3 v3 _ b3 h3 (by (try simp only [List.length_append, List.length_nil, putI_len]); have e1 := HN.out; have e2 := HF.out; have e3 := HS.out; have e4 := HE.out; omega) (by (try simp only [List.length_append, List.length_nil, putI_len]); have e1 := HN.out; have e2 := HF.out; have e3 := HS.out; have e4 := HE.out; omega)
 have q4 := HC.out w3 b3 3 _ rfl
 go_wp2_with (go_at_call 89; refine hC4.mono ?_; rintro e w4 ⟨v4, rfl, h4, g4⟩; refine Hid.out ?_)
 refine hid ?_
 have b4 : Below W0.heap.size W0 w4 := b3.trans (g4.below h3 b3.size)
 clear hC4 q4 g4
 go_wp2
 go_ret
 refine ⟨_, rfl, ?_, H0.out.trans (b4.mono H0.out.size)⟩
 rw [E.out]
 have := own_mono h4 H0.out.size
 unfold Bs
 simpa [List.append_assoc] using this

set_option maxHeartbeats 8000000 in
theorem layRec_6 (w : World) (r : Rc) (hR : RecIn w r) (hk : r.kind = 6) (hl : (recB (pr r)).length ≤ 60000) :
  Calls Try.prog 79 #[rcV r] w fun e w' => ∃ v', e = .returned v' ∧ Bs w.heap.size w' v' (recB (pr r)) ∧ Below w.heap.size w w' := by
 obtain ⟨kind, id, at_, na, nc, nodes, fa, fc, facts, epoch, sa, sc, spans, frm, til, ea, ec, ents⟩ := r
 simp only at hk
 subst hk
 have E : Hid (recB (pr ⟨6, id, at_, na, nc, nodes, fa, fc, facts, epoch, sa, sc, spans, frm, til, ea, ec, ents⟩) = putI 6 1 ++ (putI id 4 ++ (putI epoch 4 ++ (putI spans.length 1 ++ spans.flatMap spanB)))) := by
  show _ = _
  simp [recB, bodyB, pr, nodesB, factsB, mapB, entsB, flatF_map, flatE_map]
 rw [E.out] at hl
 simp only [List.length_append, List.length_nil, putI_len] at hl
 have l1 := flatN_len nodes
 have l2 := flatF_least facts
 have l3 := flatS_least spans
 have l4 := flatE_least ents
 have hb0 : Below w.heap.size w (w.alloc (.cells #[(.int .u8 6), (.int .u32 id), (.int .u32 at_), (.slice na nodes.length nc), (.slice fa facts.length fc), (.int .u32 epoch), (.slice sa spans.length sc), (.int .i64 frm), (.int .i64 til), (.slice ea ents.length ec)] 44)) := by (repeat (first | with_reducible exact Below.refl _ _ | (with_reducible refine Below.drew ?_) | (with_reducible refine Below.alloc ?_ (by first | omega | (simp; done) | (simp; omega)) _) | (with_reducible refine Below.setCell ?_ (by first | exact Nat.le_refl _ | omega | (simp; done) | (simp; omega)) _)))
 have hR0 := hR.keep hb0
 have hcell : ∀ W, Below (w.heap.size + 1) (w.alloc (.cells #[(.int .u8 6), (.int .u32 id), (.int .u32 at_), (.slice na nodes.length nc), (.slice fa facts.length fc), (.int .u32 epoch), (.slice sa spans.length sc), (.int .i64 frm), (.int .i64 til), (.slice ea ents.length ec)] 44)) W → ∀ j x, #[(.int .u8 6), (.int .u32 id), (.int .u32 at_), (.slice na nodes.length nc), (.slice fa facts.length fc), (.int .u32 epoch), (.slice sa spans.length sc), (.int .i64 frm), (.int .i64 til), (.slice ea ents.length ec)][j]? = some x → W.cell? ⟨w.heap.size, j, none⟩ = some x := by
  intro W hW j x hx
  rw [hW.cell (p := ⟨w.heap.size, j, none⟩) (by simp)]
  simpa [go_sem] using hx
 have hsz : (w.alloc (.cells #[(.int .u8 6), (.int .u32 id), (.int .u32 at_), (.slice na nodes.length nc), (.slice fa facts.length fc), (.int .u32 epoch), (.slice sa spans.length sc), (.int .i64 frm), (.int .i64 til), (.slice ea ents.length ec)] 44)).heap.size = w.heap.size + 1 := by simp
 generalize hW0 : w.alloc (.cells #[(.int .u8 6), (.int .u32 id), (.int .u32 at_), (.slice na nodes.length nc), (.slice fa facts.length fc), (.int .u32 epoch), (.slice sa spans.length sc), (.int .i64 frm), (.int .i64 til), (.slice ea ents.length ec)] 44) = W0 at hb0 hR0 hcell hsz
 rw [← hsz] at hcell
 have HR : Aside (RecIn W0 _) := hR0
 have H0 : Aside (Below w.heap.size w W0) := hb0
 obtain ⟨nn, hnn⟩ : ∃ nn, nodes.length = nn := ⟨_, rfl⟩
 have HN : Hid (nodes.length = nn) := hnn
 obtain ⟨fn, hfn⟩ : ∃ fn, facts.length = fn := ⟨_, rfl⟩
 have HF : Hid (facts.length = fn) := hfn
 obtain ⟨sn, hsn⟩ : ∃ sn, spans.length = sn := ⟨_, rfl⟩
 have HS : Hid (spans.length = sn) := hsn
 obtain ⟨en, hen⟩ : ∃ en, ents.length = en := ⟨_, rfl⟩
 have HE : Hid (ents.length = en) := hen
 show Calls _ _ #[.agg #[(.int .u8 6), (.int .u32 id), (.int .u32 at_), (.slice na nodes.length nc), (.slice fa facts.length fc), (.int .u32 epoch), (.slice sa spans.length sc), (.int .i64 frm), (.int .i64 til), (.slice ea ents.length ec)]] _ _
 rw [hnn, hfn, hsn, hen] at hW0 hcell ⊢
 have HC : Aside (∀ W, Below W0.heap.size W0 W → _) := hcell
 have HW : Hid (_ = W0) := hW0
 have b0 := Below.refl W0.heap.size W0
 have h0 := Bs.nil W0.heap.size W0
 have s0 : w.heap.size < W0.heap.size := by omega
 clear hR hR0 hb0 hcell hsz hW0 hnn hfn hsn hen
 go_enter Try.func79, Try.ntmps79
 go_wp2_with fail
 rw [HW.out]
 have hC1 := lay_u8 W0.heap.size 1 6 HR.out.kind (by omega) (.slice none 0 0) _ W0 h0 b0.size (by (try simp only [List.length_append, List.length_nil, putI_len]); have e1 := HN.out; have e2 := HF.out; have e3 := HS.out; have e4 := HE.out; omega)
 have q1 := HC.out W0 b0 0 _ rfl
 go_wp2_with (go_at_call 87; refine hC1.mono ?_; rintro e w1 ⟨v1, rfl, h1, g1⟩; refine Hid.out ?_)
 refine hid ?_
 have b1 : Below W0.heap.size W0 w1 := b0.trans (g1.below h0 b0.size)
 clear hC1 q1 g1
 have hC2 := lay_u32 W0.heap.size 4 id HR.out.id (by omega) v1 _ w1 h1 b1.size (by (try simp only [List.length_append, List.length_nil, putI_len]); have e1 := HN.out; have e2 := HF.out; have e3 := HS.out; have e4 := HE.out; omega)
 have q2 := HC.out w1 b1 1 _ rfl
 go_wp2_with (go_at_call 88; refine hC2.mono ?_; rintro e w2 ⟨v2, rfl, h2, g2⟩; refine Hid.out ?_)
 refine hid ?_
 have b2 : Below W0.heap.size W0 w2 := b1.trans (g2.below h1 b1.size)
 have qk := HC.out w2 b2 0 _ rfl
 clear hC2 q2 g2
 have hC3 := lay_u32 W0.heap.size 4 epoch HR.out.epoch (by omega) v2 _ w2 h2 b2.size (by (try simp only [List.length_append, List.length_nil, putI_len]); have e1 := HN.out; have e2 := HF.out; have e3 := HS.out; have e4 := HE.out; omega)
 have q3 := HC.out w2 b2 5 _ rfl
 go_wp2_with (go_at_call 88; refine hC3.mono ?_; rintro e w3 ⟨v3, rfl, h3, g3⟩; refine Hid.out ?_)
 refine hid ?_
 have b3 : Below W0.heap.size W0 w3 := b2.trans (g3.below h2 b2.size)
 clear hC3 q3 g3
 have hC4 := layAll_span W0 94 spanB sa spans sn sc 1 HR.out.spans HS.out (by omega) (fun _ _ => rfl) (fun s hs => laySpan_any W0 s (spans_ok HR.out.spans s hs).1 (spans_ok HR.out.spans s hs).2) w3 v3 _ b3 h3 (by (try simp only [List.length_append, List.length_nil, putI_len]); have e1 := HN.out; have e2 := HF.out; have e3 := HS.out; have e4 := HE.out; omega) (by (try simp only [List.length_append, List.length_nil, putI_len]); have e1 := HN.out; have e2 := HF.out; have e3 := HS.out; have e4 := HE.out; omega)
 have q4 := HC.out w3 b3 6 _ rfl
 go_wp2_with (go_at_call 93; refine hC4.mono ?_; rintro e w4 ⟨v4, rfl, h4, g4⟩; refine Hid.out ?_)
 refine hid ?_
 have b4 : Below W0.heap.size W0 w4 := b3.trans (g4.below h3 b3.size)
 clear hC4 q4 g4
 go_wp2
 go_ret
 refine ⟨_, rfl, ?_, H0.out.trans (b4.mono H0.out.size)⟩
 rw [E.out]
 have := own_mono h4 H0.out.size
 unfold Bs
 simpa [List.append_assoc] using this

set_option maxHeartbeats 8000000 in
theorem layRec_7 (w : World) (r : Rc) (hR : RecIn w r) (hk : r.kind = 7) (hl : (recB (pr r)).length ≤ 60000) :
  Calls Try.prog 79 #[rcV r] w fun e w' => ∃ v', e = .returned v' ∧ Bs w.heap.size w' v' (recB (pr r)) ∧ Below w.heap.size w w' := by
 obtain ⟨kind, id, at_, na, nc, nodes, fa, fc, facts, epoch, sa, sc, spans, frm, til, ea, ec, ents⟩ := r
 simp only at hk
 subst hk
 have E : Hid (recB (pr ⟨7, id, at_, na, nc, nodes, fa, fc, facts, epoch, sa, sc, spans, frm, til, ea, ec, ents⟩) = putI 7 1 ++ (putI id 4 ++ (putI frm 4 ++ (putI til 4 ++ (putI ents.length 4 ++ ents.flatMap (fun e => entB (pe e))))))) := by
  show _ = _
  simp [recB, bodyB, pr, nodesB, factsB, mapB, entsB, flatF_map, flatE_map]
 rw [E.out] at hl
 simp only [List.length_append, List.length_nil, putI_len] at hl
 have l1 := flatN_len nodes
 have l2 := flatF_least facts
 have l3 := flatS_least spans
 have l4 := flatE_least ents
 have hb0 : Below w.heap.size w (w.alloc (.cells #[(.int .u8 7), (.int .u32 id), (.int .u32 at_), (.slice na nodes.length nc), (.slice fa facts.length fc), (.int .u32 epoch), (.slice sa spans.length sc), (.int .i64 frm), (.int .i64 til), (.slice ea ents.length ec)] 44)) := by (repeat (first | with_reducible exact Below.refl _ _ | (with_reducible refine Below.drew ?_) | (with_reducible refine Below.alloc ?_ (by first | omega | (simp; done) | (simp; omega)) _) | (with_reducible refine Below.setCell ?_ (by first | exact Nat.le_refl _ | omega | (simp; done) | (simp; omega)) _)))
 have hR0 := hR.keep hb0
 have hcell : ∀ W, Below (w.heap.size + 1) (w.alloc (.cells #[(.int .u8 7), (.int .u32 id), (.int .u32 at_), (.slice na nodes.length nc), (.slice fa facts.length fc), (.int .u32 epoch), (.slice sa spans.length sc), (.int .i64 frm), (.int .i64 til), (.slice ea ents.length ec)] 44)) W → ∀ j x, #[(.int .u8 7), (.int .u32 id), (.int .u32 at_), (.slice na nodes.length nc), (.slice fa facts.length fc), (.int .u32 epoch), (.slice sa spans.length sc), (.int .i64 frm), (.int .i64 til), (.slice ea ents.length ec)][j]? = some x → W.cell? ⟨w.heap.size, j, none⟩ = some x := by
  intro W hW j x hx
  rw [hW.cell (p := ⟨w.heap.size, j, none⟩) (by simp)]
  simpa [go_sem] using hx
 have hsz : (w.alloc (.cells #[(.int .u8 7), (.int .u32 id), (.int .u32 at_), (.slice na nodes.length nc), (.slice fa facts.length fc), (.int .u32 epoch), (.slice sa spans.length sc), (.int .i64 frm), (.int .i64 til), (.slice ea ents.length ec)] 44)).heap.size = w.heap.size + 1 := by simp
 generalize hW0 : w.alloc (.cells #[(.int .u8 7), (.int .u32 id), (.int .u32 at_), (.slice na nodes.length nc), (.slice fa facts.length fc), (.int .u32 epoch), (.slice sa spans.length sc), (.int .i64 frm), (.int .i64 til), (.slice ea ents.length ec)] 44) = W0 at hb0 hR0 hcell hsz
 rw [← hsz] at hcell
 have HR : Aside (RecIn W0 _) := hR0
 have H0 : Aside (Below w.heap.size w W0) := hb0
 obtain ⟨nn, hnn⟩ : ∃ nn, nodes.length = nn := ⟨_, rfl⟩
 have HN : Hid (nodes.length = nn) := hnn
 obtain ⟨fn, hfn⟩ : ∃ fn, facts.length = fn := ⟨_, rfl⟩
 have HF : Hid (facts.length = fn) := hfn
 obtain ⟨sn, hsn⟩ : ∃ sn, spans.length = sn := ⟨_, rfl⟩
 have HS : Hid (spans.length = sn) := hsn
 obtain ⟨en, hen⟩ : ∃ en, ents.length = en := ⟨_, rfl⟩
 have HE : Hid (ents.length = en) := hen
 show Calls _ _ #[.agg #[(.int .u8 7), (.int .u32 id), (.int .u32 at_), (.slice na nodes.length nc), (.slice fa facts.length fc), (.int .u32 epoch), (.slice sa spans.length sc), (.int .i64 frm), (.int .i64 til), (.slice ea ents.length ec)]] _ _
 rw [hnn, hfn, hsn, hen] at hW0 hcell ⊢
 have HC : Aside (∀ W, Below W0.heap.size W0 W → _) := hcell
 have HW : Hid (_ = W0) := hW0
 have b0 := Below.refl W0.heap.size W0
 have h0 := Bs.nil W0.heap.size W0
 have s0 : w.heap.size < W0.heap.size := by omega
 clear hR hR0 hb0 hcell hsz hW0 hnn hfn hsn hen
 go_enter Try.func79, Try.ntmps79
 go_wp2_with fail
 rw [HW.out]
 have hC1 := lay_u8 W0.heap.size 1 7 HR.out.kind (by omega) (.slice none 0 0) _ W0 h0 b0.size (by (try simp only [List.length_append, List.length_nil, putI_len]); have e1 := HN.out; have e2 := HF.out; have e3 := HS.out; have e4 := HE.out; omega)
 have q1 := HC.out W0 b0 0 _ rfl
 go_wp2_with (go_at_call 87; refine hC1.mono ?_; rintro e w1 ⟨v1, rfl, h1, g1⟩; refine Hid.out ?_)
 refine hid ?_
 have b1 : Below W0.heap.size W0 w1 := b0.trans (g1.below h0 b0.size)
 clear hC1 q1 g1
 have hC2 := lay_u32 W0.heap.size 4 id HR.out.id (by omega) v1 _ w1 h1 b1.size (by (try simp only [List.length_append, List.length_nil, putI_len]); have e1 := HN.out; have e2 := HF.out; have e3 := HS.out; have e4 := HE.out; omega)
 have q2 := HC.out w1 b1 1 _ rfl
 go_wp2_with (go_at_call 88; refine hC2.mono ?_; rintro e w2 ⟨v2, rfl, h2, g2⟩; refine Hid.out ?_)
 refine hid ?_
 have b2 : Below W0.heap.size W0 w2 := b1.trans (g2.below h1 b1.size)
 have qk := HC.out w2 b2 0 _ rfl
 clear hC2 q2 g2
 have hC3 := lay_int W0.heap.size 4 frm HR.out.frm (by omega) v2 _ w2 h2 b2.size (by (try simp only [List.length_append, List.length_nil, putI_len]); have e1 := HN.out; have e2 := HF.out; have e3 := HS.out; have e4 := HE.out; omega)
 have q3 := HC.out w2 b2 7 _ rfl
 go_wp2_with (go_at_call 95; refine hC3.mono ?_; rintro e w3 ⟨v3, rfl, h3, g3⟩; refine Hid.out ?_)
 refine hid ?_
 have b3 : Below W0.heap.size W0 w3 := b2.trans (g3.below h2 b2.size)
 clear hC3 q3 g3
 have hC4 := lay_int W0.heap.size 4 til HR.out.til (by omega) v3 _ w3 h3 b3.size (by (try simp only [List.length_append, List.length_nil, putI_len]); have e1 := HN.out; have e2 := HF.out; have e3 := HS.out; have e4 := HE.out; omega)
 have q4 := HC.out w3 b3 8 _ rfl
 go_wp2_with (go_at_call 95; refine hC4.mono ?_; rintro e w4 ⟨v4, rfl, h4, g4⟩; refine Hid.out ?_)
 refine hid ?_
 have b4 : Below W0.heap.size W0 w4 := b3.trans (g4.below h3 b3.size)
 clear hC4 q4 g4
 have hC5 := layAll_ent W0 97 (fun e => entB (pe e)) ea ents en ec 4 HR.out.ents HE.out (by omega) (fun _ _ => rfl) (fun e he => layEntry_any W0 e (HR.out.ents.ok e he)) w4 v4 _ b4 h4 (by (try simp only [List.length_append, List.length_nil, putI_len]); have e1 := HN.out; have e2 := HF.out; have e3 := HS.out; have e4 := HE.out; omega) (by (try simp only [List.length_append, List.length_nil, putI_len]); have e1 := HN.out; have e2 := HF.out; have e3 := HS.out; have e4 := HE.out; omega)
 have q5 := HC.out w4 b4 9 _ rfl
 go_wp2_with (go_at_call 96; refine hC5.mono ?_; rintro e w5 ⟨v5, rfl, h5, g5⟩; refine Hid.out ?_)
 refine hid ?_
 have b5 : Below W0.heap.size W0 w5 := b4.trans (g5.below h4 b4.size)
 clear hC5 q5 g5
 go_wp2
 go_ret
 refine ⟨_, rfl, ?_, H0.out.trans (b5.mono H0.out.size)⟩
 rw [E.out]
 have := own_mono h5 H0.out.size
 unfold Bs
 simpa [List.append_assoc] using this

set_option maxHeartbeats 8000000 in
theorem layRec_no (w : World) (r : Rc) (hR : RecIn w r) (k1 : (r.kind == 1) = false) (k2 : (r.kind == 2) = false) (k6 : (r.kind == 6) = false) (k7 : (r.kind == 7) = false) (hl : (recB (pr r)).length ≤ 60000) :
  Calls Try.prog 79 #[rcV r] w fun e w' => ∃ v', e = .returned v' ∧ Bs w.heap.size w' v' (recB (pr r)) ∧ Below w.heap.size w w' := by
 obtain ⟨kind, id, at_, na, nc, nodes, fa, fc, facts, epoch, sa, sc, spans, frm, til, ea, ec, ents⟩ := r
 simp only at k1 k2 k6 k7
 have E : Hid (recB (pr ⟨kind, id, at_, na, nc, nodes, fa, fc, facts, epoch, sa, sc, spans, frm, til, ea, ec, ents⟩) = putI kind 1 ++ (putI id 4 ++ ([]))) := by
  have e1 : ¬ kind = 1 := by simpa using k1
  have e2 : ¬ kind = 2 := by simpa using k2
  have e6 : ¬ kind = 6 := by simpa using k6
  have e7 : ¬ kind = 7 := by simpa using k7
  show _ = _
  simp [recB, bodyB, pr, e1, e2, e6, e7]
 rw [E.out] at hl
 simp only [List.length_append, List.length_nil, putI_len] at hl
 have l1 := flatN_len nodes
 have l2 := flatF_least facts
 have l3 := flatS_least spans
 have l4 := flatE_least ents
 have hb0 : Below w.heap.size w (w.alloc (.cells #[(.int .u8 kind), (.int .u32 id), (.int .u32 at_), (.slice na nodes.length nc), (.slice fa facts.length fc), (.int .u32 epoch), (.slice sa spans.length sc), (.int .i64 frm), (.int .i64 til), (.slice ea ents.length ec)] 44)) := by (repeat (first | with_reducible exact Below.refl _ _ | (with_reducible refine Below.drew ?_) | (with_reducible refine Below.alloc ?_ (by first | omega | (simp; done) | (simp; omega)) _) | (with_reducible refine Below.setCell ?_ (by first | exact Nat.le_refl _ | omega | (simp; done) | (simp; omega)) _)))
 have hR0 := hR.keep hb0
 have hcell : ∀ W, Below (w.heap.size + 1) (w.alloc (.cells #[(.int .u8 kind), (.int .u32 id), (.int .u32 at_), (.slice na nodes.length nc), (.slice fa facts.length fc), (.int .u32 epoch), (.slice sa spans.length sc), (.int .i64 frm), (.int .i64 til), (.slice ea ents.length ec)] 44)) W → ∀ j x, #[(.int .u8 kind), (.int .u32 id), (.int .u32 at_), (.slice na nodes.length nc), (.slice fa facts.length fc), (.int .u32 epoch), (.slice sa spans.length sc), (.int .i64 frm), (.int .i64 til), (.slice ea ents.length ec)][j]? = some x → W.cell? ⟨w.heap.size, j, none⟩ = some x := by
  intro W hW j x hx
  rw [hW.cell (p := ⟨w.heap.size, j, none⟩) (by simp)]
  simpa [go_sem] using hx
 have hsz : (w.alloc (.cells #[(.int .u8 kind), (.int .u32 id), (.int .u32 at_), (.slice na nodes.length nc), (.slice fa facts.length fc), (.int .u32 epoch), (.slice sa spans.length sc), (.int .i64 frm), (.int .i64 til), (.slice ea ents.length ec)] 44)).heap.size = w.heap.size + 1 := by simp
 generalize hW0 : w.alloc (.cells #[(.int .u8 kind), (.int .u32 id), (.int .u32 at_), (.slice na nodes.length nc), (.slice fa facts.length fc), (.int .u32 epoch), (.slice sa spans.length sc), (.int .i64 frm), (.int .i64 til), (.slice ea ents.length ec)] 44) = W0 at hb0 hR0 hcell hsz
 rw [← hsz] at hcell
 have HR : Aside (RecIn W0 _) := hR0
 have H0 : Aside (Below w.heap.size w W0) := hb0
 obtain ⟨nn, hnn⟩ : ∃ nn, nodes.length = nn := ⟨_, rfl⟩
 have HN : Hid (nodes.length = nn) := hnn
 obtain ⟨fn, hfn⟩ : ∃ fn, facts.length = fn := ⟨_, rfl⟩
 have HF : Hid (facts.length = fn) := hfn
 obtain ⟨sn, hsn⟩ : ∃ sn, spans.length = sn := ⟨_, rfl⟩
 have HS : Hid (spans.length = sn) := hsn
 obtain ⟨en, hen⟩ : ∃ en, ents.length = en := ⟨_, rfl⟩
 have HE : Hid (ents.length = en) := hen
 show Calls _ _ #[.agg #[(.int .u8 kind), (.int .u32 id), (.int .u32 at_), (.slice na nodes.length nc), (.slice fa facts.length fc), (.int .u32 epoch), (.slice sa spans.length sc), (.int .i64 frm), (.int .i64 til), (.slice ea ents.length ec)]] _ _
 rw [hnn, hfn, hsn, hen] at hW0 hcell ⊢
 have HC : Aside (∀ W, Below W0.heap.size W0 W → _) := hcell
 have HW : Hid (_ = W0) := hW0
 have b0 := Below.refl W0.heap.size W0
 have h0 := Bs.nil W0.heap.size W0
 have s0 : w.heap.size < W0.heap.size := by omega
 clear hR hR0 hb0 hcell hsz hW0 hnn hfn hsn hen
 go_enter Try.func79, Try.ntmps79
 go_wp2_with fail
 rw [HW.out]
 have hC1 := lay_u8 W0.heap.size 1 kind HR.out.kind (by omega) (.slice none 0 0) _ W0 h0 b0.size (by (try simp only [List.length_append, List.length_nil, putI_len]); have e1 := HN.out; have e2 := HF.out; have e3 := HS.out; have e4 := HE.out; omega)
 have q1 := HC.out W0 b0 0 _ rfl
 go_wp2_with (go_at_call 87; refine hC1.mono ?_; rintro e w1 ⟨v1, rfl, h1, g1⟩; refine Hid.out ?_)
 refine hid ?_
 have b1 : Below W0.heap.size W0 w1 := b0.trans (g1.below h0 b0.size)
 clear hC1 q1 g1
 have hC2 := lay_u32 W0.heap.size 4 id HR.out.id (by omega) v1 _ w1 h1 b1.size (by (try simp only [List.length_append, List.length_nil, putI_len]); have e1 := HN.out; have e2 := HF.out; have e3 := HS.out; have e4 := HE.out; omega)
 have q2 := HC.out w1 b1 1 _ rfl
 go_wp2_with (go_at_call 88; refine hC2.mono ?_; rintro e w2 ⟨v2, rfl, h2, g2⟩; refine Hid.out ?_)
 refine hid ?_
 have b2 : Below W0.heap.size W0 w2 := b1.trans (g2.below h1 b1.size)
 have qk := HC.out w2 b2 0 _ rfl
 clear hC2 q2 g2
 go_wp2
 go_ret
 refine ⟨_, rfl, ?_, H0.out.trans (b2.mono H0.out.size)⟩
 rw [E.out]
 have := own_mono h2 H0.out.size
 unfold Bs
 simpa [List.append_assoc] using this

theorem layRec_any (w : World) (r : Rc) (hR : RecIn w r) (hl : (recB (pr r)).length ≤ 60000) :
  Calls Try.prog 79 #[rcV r] w fun e w' => ∃ v', e = .returned v' ∧ Bs w.heap.size w' v' (recB (pr r)) ∧ Below w.heap.size w w' := by
 by_cases k1 : r.kind = 1
 ·exact layRec_1 w r hR k1 hl
 by_cases k2 : r.kind = 2
 ·exact layRec_2 w r hR k2 hl
 by_cases k6 : r.kind = 6
 ·exact layRec_6 w r hR k6 hl
 by_cases k7 : r.kind = 7
 ·exact layRec_7 w r hR k7 hl
 exact layRec_no w r hR (by simpa using k1) (by simpa using k2) (by simpa using k6) (by simpa using k7) hl
end Go.Proofs.Ytlcjllgfpfldlaa.code

namespace Go.Proofs.Ytlcjllgfpfldlaa.code
open Go.ChangeShapes Go.WideShapes Go.ChangeAt Go.RowKit Go.Deep
open Go.Proofs.Ytlcjllgfpfldlaa.dims (nth Ints cell_lt vals vals_len vals_get own_below own_mono own_out RowOut ret_bool)
set_option linter.unusedVariables false
set_option maxRecDepth 100000

theorem rec_box (w : World) (r : Rc) (t : TypeId) : ∀ j x, (rcC r)[j]? = some x → (w.alloc (.cells (rcC r) t)).cell? ⟨w.heap.size, j, none⟩ = some x := by
 intro j x hx
 simpa [go_sem] using hx

set_option maxHeartbeats 8000000 in
theorem encode_ok (w : World) (r : Rc) (hR : RecIn w r) (hs : sndRec (pr r) = true) (hl : (recB (pr r)).length ≤ 60000) :
  Calls Try.prog 52 #[rcV r] w fun e w' => ∃ v, e = .returned (.tuple #[v, .int .u16 0]) ∧ Bs w.heap.size w' v (recB (pr r)) ∧ Below w.heap.size w w' := by
 have hB : Below w.heap.size w (w.alloc (.cells (rcC r) 44)) := (Below.refl _ _).alloc (Nat.le_refl _) _
 have hR0 := hR.keep hB
 have hsz : (w.alloc (.cells (rcC r) 44)).heap.size = w.heap.size + 1 := by simp
 have hC1 := sound_any _ r hR0
 rw [hs] at hC1
 have hq0 := rec_box w r 44
 generalize hW0 : w.alloc (.cells (rcC r) 44) = W0 at hB hR0 hsz hC1 hq0
 have hW1 : w.alloc (.cells #[.int .u8 r.kind, .int .u32 r.id, .int .u32 r.at_, .slice r.na r.nodes.length r.nc, .slice r.fa r.facts.length r.fc, .int .u32 r.epoch, .slice r.sa r.spans.length r.sc, .int .i64 r.frm, .int .i64 r.til, .slice r.ea r.ents.length r.ec] 44) = W0 := hW0
 have HW : Hid (_ = W0) := hW1
 have HR : Aside (RecIn W0 r ∧ (recB (pr r)).length ≤ 60000 ∧ Below w.heap.size w W0) := ⟨hR0, hl, hB⟩
 clear hW0 hW1 hR hR0 hB hs
 show Calls _ _ #[.agg #[.int .u8 r.kind, .int .u32 r.id, .int .u32 r.at_, .slice r.na r.nodes.length r.nc, .slice r.fa r.facts.length r.fc, .int .u32 r.epoch, .slice r.sa r.spans.length r.sc, .int .i64 r.frm, .int .i64 r.til, .slice r.ea r.ents.length r.ec]] _ _
 go_enter Try.func52, Try.ntmps52
 go_wp2_with fail
 rw [HW.out]
 refine hC1.mono ?_
 rintro e w1 ⟨rfl, g1⟩
 have q : ∀ j x, (rcC r)[j]? = some x → w1.cell? ⟨w.heap.size, j, none⟩ = some x := fun j x hx => (g1.cell (p := ⟨w.heap.size, j, none⟩) (by simp; omega)).trans (hq0 j x hx)
 have q0 := q 0 _ rfl
 have q1 := q 1 _ rfl
 have q2 := q 2 _ rfl
 have q3 := q 3 _ rfl
 have q4 := q 4 _ rfl
 have q5 := q 5 _ rfl
 have q6 := q 6 _ rfl
 have q7 := q 7 _ rfl
 have q8 := q 8 _ rfl
 have q9 := q 9 _ rfl
 have hC2 := layRec_any w1 r (HR.out.1.keep g1) HR.out.2.1
 have HB : Aside (Below w.heap.size w w1) := HR.out.2.2.trans (g1.mono HR.out.2.2.size)
 clear q hq0 g1 hC1
 go_wp2_with (go_at_call 79; refine hC2.mono ?_; rintro e w2 ⟨v, rfl, hown, g2⟩; refine Hid.out ?_)
 refine hid ?_
 obtain ⟨va, vc, rfl⟩ := Bs.form hown
 have HO : Aside (Bs w.heap.size w2 (.slice va (recB (pr r)).length vc) (recB (pr r)) ∧ Below w.heap.size w w2) := ⟨own_mono hown HB.out.size, HB.out.trans (g2.mono HB.out.size)⟩
 clear hC2 hown g2 q0 q1 q2 q3 q4 q5 q6 q7 q8 q9
 have hlz : ¬ (60000 : Int) < ((recB (pr r)).length : Int) := by have := HR.out.2.1; omega
 go_wp2
 go_ret2
 exact ⟨_, rfl, HO.out.1, HO.out.2⟩

set_option maxHeartbeats 8000000 in
theorem encode_no (w : World) (r : Rc) (hR : RecIn w r) (hs : sndRec (pr r) = false) :
  Calls Try.prog 52 #[rcV r] w fun e w' => e = .returned (.tuple #[.slice none 0 0, .int .u16 1]) ∧ Below w.heap.size w w' := by
 have hB : Below w.heap.size w (w.alloc (.cells (rcC r) 44)) := (Below.refl _ _).alloc (Nat.le_refl _) _
 have hC1 := sound_any _ r (hR.keep hB)
 rw [hs] at hC1
 generalize hW0 : w.alloc (.cells (rcC r) 44) = W0 at hB hC1
 have hW1 : w.alloc (.cells #[.int .u8 r.kind, .int .u32 r.id, .int .u32 r.at_, .slice r.na r.nodes.length r.nc, .slice r.fa r.facts.length r.fc, .int .u32 r.epoch, .slice r.sa r.spans.length r.sc, .int .i64 r.frm, .int .i64 r.til, .slice r.ea r.ents.length r.ec] 44) = W0 := hW0
 have HW : Hid (_ = W0) := hW1
 have HB : Aside (Below w.heap.size w W0) := hB
 clear hW0 hW1 hR hB hs
 show Calls _ _ #[.agg #[.int .u8 r.kind, .int .u32 r.id, .int .u32 r.at_, .slice r.na r.nodes.length r.nc, .slice r.fa r.facts.length r.fc, .int .u32 r.epoch, .slice r.sa r.spans.length r.sc, .int .i64 r.frm, .int .i64 r.til, .slice r.ea r.ents.length r.ec]] _ _
 go_enter Try.func52, Try.ntmps52
 go_wp2_with fail
 rw [HW.out]
 refine hC1.mono ?_
 rintro e w1 ⟨rfl, g1⟩
 clear hC1
 go_wp2
 go_ret2
 exact ⟨rfl, HB.out.trans (g1.mono HB.out.size)⟩
end Go.Proofs.Ytlcjllgfpfldlaa.code

namespace Go.Proofs.Ytlcjllgfpfldlaa.code
open Go.ChangeShapes Go.WideShapes Go.ChangeAt Go.RowKit Go.Deep
open Go.Proofs.Ytlcjllgfpfldlaa.dims (nth Ints cell_lt vals vals_len vals_get own_below own_mono own_out RowOut ret_bool)
set_option linter.unusedVariables false
set_option maxRecDepth 100000
set_option linter.unusedSimpArgs false

/-- bytes of a call's own can be read -/
structure BytesAt (w : World) (a : Option Addr) (n c : Nat) (l : List UInt8) : Prop where
 mem : ByIn w a l
 low : l ≠ [] → ∀ p, a = some p → p.block < w.heap.size
 len : l.length = n
 cap : n ≤ c
theorem BytesAt.keep {w w1 : World} {a : Option Addr} {n c : Nat} {l : List UInt8} (h : BytesAt w a n c l) (hb : Below w.heap.size w w1) : BytesAt w1 a n c l := ⟨h.mem.keep hb, fun h0 p hp => Nat.lt_of_lt_of_le (h.low h0 p hp) hb.size, h.len, h.cap⟩
theorem Bs.bytes {B : Nat} {w : World} {v : Value} {l : List UInt8} (h : Bs B w v l) : ∃ a c, v = .slice a l.length c ∧ BytesAt w a l.length c l := by
 rcases h.2 with ⟨h1, h2⟩ | ⟨g, cap, cur, h1, _, hg, hc, _⟩
 ·have : l = [] := List.eq_nil_of_length_eq_zero h2
  subst this
  exact ⟨none, 0, h1, .inl rfl, (fun _ p hp => by cases hp), rfl, by simp⟩
 ·refine ⟨some ⟨g, 0, none⟩, cap, h1, .inr ⟨g, 0, rfl, fun i hi => ?_⟩, fun _ p hp => ?_, rfl, hc⟩
  ·have := World.ownsRow.cells h (g := g) (by rw [h1]; rfl) i (.int .u8 (bth l i)) (by simp [Lib.byteCells, bth, hi])
   rw [show (⟨g, 0, none⟩ : Addr).add i = ⟨g, 0 + i, none⟩ by by_cases e : i = 0 <;> simp [Addr.add, e]] at this
   exact this
  ·injection hp with hp
   subst hp
   exact (Array.getElem?_eq_some_iff.1 hg).1
theorem str_of {w : World} {a : Option Addr} {l : List UInt8} (h : ByIn w a l) (n c : Nat) (hn : l.length = n) : (convert 33 9 (.slice a n c)).run Try.prog w = .ok (.string ⟨l.toArray⟩) w := by
 subst hn
 rcases h with rfl | ⟨b, off, rfl, hc⟩
 ·show (convert 33 9 (.slice a 0 c)).run Try.prog w = _
  rw [run_convert_bytes_string w 33 9 5 a 0 c Try.underlying33 Try.underlying5 Try.underlying9]
  cases a <;> rfl
 ·refine run_convert_bytes_back (P := Try.prog) w 33 9 5 ⟨b, off, none⟩ c l Try.underlying33 Try.underlying5 Try.underlying9 fun j hj => ?_
  rw [show (⟨b, off, none⟩ : Addr).add j = ⟨b, off + j, none⟩ by by_cases e : j = 0 <;> simp [Addr.add, e], hc j hj]
  simp [bth, hj]

def exA : Rc := ⟨3, 5, 0, none, 0, [], none, 0, [], 0, none, 0, [], 0, 0, none, 0, []⟩
theorem exA_in (w : World) : RecIn w exA := ⟨by simp [exA], by simp [exA, U32], by simp [exA, U32], .inl rfl, by simp [exA], by simp [exA], .inl rfl, by simp [exA], by simp [exA, U32], .inl rfl, by simp [exA], by simp [exA, I64], by simp [exA, I64], .inl rfl, by simp [exA]⟩
theorem exA_snd : sndRec (pr exA) = true := by kernel_rfl
theorem exA_B : recB (pr exA) = [3, 0, 0, 0, 5] := by kernel_rfl
end Go.Proofs.Ytlcjllgfpfldlaa.code
