/-
  A record laid as bytes: the program's layRec.
-/
import Derived.Test.YtlokamblbhooaaaCodeLayRec
namespace Go.Proofs.Ytlokamblbhooaaa.code
open Go.ChangeShapes Go.WideShapes Go.ChangeAt Go.RowKit Go.Deep
open Go.Proofs.Ytlokamblbhooaaa.dims (nth Ints cell_lt vals vals_len vals_get vals_one vals_app own_below own_mono own_out own_apart RowOut ret_bool ret_int)
set_option linter.unusedVariables false
set_option maxRecDepth 100000
set_option linter.unusedSimpArgs false

theorem spans_ok {w : World} {a : Option Addr} {ss : List PSpan} (h : SpansIn w a ss) : ∀ s ∈ ss, I64 s.1 ∧ I64 s.2 := fun f hf => by
  obtain ⟨i, hi, rfl⟩ := List.mem_iff_getElem.1 hf
  obtain ⟨b, off, -, hc⟩ := h.get hi
  rw [← spn_eq hi]; exact (hc i hi).2.2

set_option maxHeartbeats 8000000 in
theorem layRec_1 (w : World) (r : Rc) (hR : RecIn w r) (hk : r.kind = 1) (hl : (recB (pr r)).length ≤ 60000) :
    Calls Try.prog 20 #[rcV r] w fun e w' => ∃ v', e = .returned v' ∧ Bs w.heap.size w' v' (recB (pr r)) ∧ Below w.heap.size w w' := by
  obtain ⟨kind, id, at_, na, nc, nodes, fa, fc, facts, epoch, sa, sc, spans, frm, til, ea, ec, ents⟩ := r
  simp only at hk
  subst hk
  have E : Hid (recB (pr ⟨1, id, at_, na, nc, nodes, fa, fc, facts, epoch, sa, sc, spans, frm, til, ea, ec, ents⟩) = putI 1 1 ++ (putI id 4 ++ (putI nodes.length 1 ++ (nodes.flatMap (putI · 1) ++ (putI facts.length 4 ++ facts.flatMap (fun f => factB (pf f))))))) := by
    show _ = _
    simp [recB, bodyB, pr, nodesB, factsB, mapB, entsB, flatF_map, flatE_map]
  rw [E.out] at hl
  simp only [List.length_append, List.length_nil, putI_len] at hl
  have l1 := flatN_len nodes
  have l2 := flatF_least facts
  have l3 := flatS_least spans
  have l4 := flatE_least ents
  have hb0 : Below w.heap.size w (w.alloc (.cells #[(.int .u8 1), (.int .u32 id), (.int .u32 at_), (.slice na nodes.length nc), (.slice fa facts.length fc), (.int .u32 epoch), (.slice sa spans.length sc), (.int .i64 frm), (.int .i64 til), (.slice ea ents.length ec)] 30)) := by (repeat (first | with_reducible exact Below.refl _ _ | (with_reducible refine Below.drew ?_) | (with_reducible refine Below.alloc ?_ (by first | omega | (simp; done) | (simp; omega)) _) | (with_reducible refine Below.setCell ?_ (by first | exact Nat.le_refl _ | omega | (simp; done) | (simp; omega)) _)))
  have hR0 := hR.keep hb0
  have hcell : ∀ W, Below (w.heap.size + 1) (w.alloc (.cells #[(.int .u8 1), (.int .u32 id), (.int .u32 at_), (.slice na nodes.length nc), (.slice fa facts.length fc), (.int .u32 epoch), (.slice sa spans.length sc), (.int .i64 frm), (.int .i64 til), (.slice ea ents.length ec)] 30)) W → ∀ j x, #[(.int .u8 1), (.int .u32 id), (.int .u32 at_), (.slice na nodes.length nc), (.slice fa facts.length fc), (.int .u32 epoch), (.slice sa spans.length sc), (.int .i64 frm), (.int .i64 til), (.slice ea ents.length ec)][j]? = some x → W.cell? ⟨w.heap.size, j, none⟩ = some x := by
    intro W hW j x hx
    rw [hW.cell (p := ⟨w.heap.size, j, none⟩) (by simp)]
    simpa [go_sem] using hx
  have hsz : (w.alloc (.cells #[(.int .u8 1), (.int .u32 id), (.int .u32 at_), (.slice na nodes.length nc), (.slice fa facts.length fc), (.int .u32 epoch), (.slice sa spans.length sc), (.int .i64 frm), (.int .i64 til), (.slice ea ents.length ec)] 30)).heap.size = w.heap.size + 1 := by simp
  generalize hW0 : w.alloc (.cells #[(.int .u8 1), (.int .u32 id), (.int .u32 at_), (.slice na nodes.length nc), (.slice fa facts.length fc), (.int .u32 epoch), (.slice sa spans.length sc), (.int .i64 frm), (.int .i64 til), (.slice ea ents.length ec)] 30) = W0 at hb0 hR0 hcell hsz
  rw [← hsz] at hcell
  have HR : Aside (RecIn W0 _) := hR0
  have H0 : Aside (Below w.heap.size w W0) := hb0
  obtain ⟨nn, hnn⟩ : ∃ nn, nodes.length = nn := ⟨_, rfl⟩
  have HN : Hid (nodes.length = nn) := hnn
  obtain ⟨fn, hfn⟩ : ∃ fn, facts.length = fn := ⟨_, rfl⟩
  have HF : Hid (facts.length = fn) := hfn
  obtain ⟨sn, hsn⟩ : ∃ sn, spans.length = sn := ⟨_, rfl⟩
  have HS : Hid (spans.length = sn) := hsn
  obtain ⟨en, hen⟩ : ∃ en, ents.length = en := ⟨_, rfl⟩
  have HE : Hid (ents.length = en) := hen
  show Calls _ _ #[.agg #[(.int .u8 1), (.int .u32 id), (.int .u32 at_), (.slice na nodes.length nc), (.slice fa facts.length fc), (.int .u32 epoch), (.slice sa spans.length sc), (.int .i64 frm), (.int .i64 til), (.slice ea ents.length ec)]] _ _
  rw [hnn, hfn, hsn, hen] at hW0 hcell ⊢
  have HC : Aside (∀ W, Below W0.heap.size W0 W → _) := hcell
  have HW : Hid (_ = W0) := hW0
  have b0 := Below.refl W0.heap.size W0
  have h0 := Bs.nil W0.heap.size W0
  have s0 : w.heap.size < W0.heap.size := by omega
  clear hR hR0 hb0 hcell hsz hW0 hnn hfn hsn hen
  go_enter Try.func20, Try.ntmps20
  go_wp2_with fail
  rw [HW.out]
  have hC1 := lay_u8 W0.heap.size 1 1 HR.out.kind (by omega) (.slice none 0 0) _ W0 h0 b0.size (by (try simp only [List.length_append, List.length_nil, putI_len]); have e1 := HN.out; have e2 := HF.out; have e3 := HS.out; have e4 := HE.out; omega)
  have q1 := HC.out W0 b0 0 _ rfl
  go_wp2_with (go_at_call 45; refine hC1.mono ?_; rintro e w1 ⟨v1, rfl, h1, g1⟩; refine Hid.out ?_)
  refine hid ?_
  have b1 : Below W0.heap.size W0 w1 := b0.trans (g1.below h0 b0.size)
  clear hC1 q1 g1
  have hC2 := lay_u32 W0.heap.size 4 id HR.out.id (by omega) v1 _ w1 h1 b1.size (by (try simp only [List.length_append, List.length_nil, putI_len]); have e1 := HN.out; have e2 := HF.out; have e3 := HS.out; have e4 := HE.out; omega)
  have q2 := HC.out w1 b1 1 _ rfl
  go_wp2_with (go_at_call 46; refine hC2.mono ?_; rintro e w2 ⟨v2, rfl, h2, g2⟩; refine Hid.out ?_)
  refine hid ?_
  have b2 : Below W0.heap.size W0 w2 := b1.trans (g2.below h1 b1.size)
  have qk := HC.out w2 b2 0 _ rfl
  clear hC2 q2 g2
  have hC3 := layAll_int W0 48 (putI · 1) na nodes nn nc 1 HR.out.nodes HN.out (by omega) (fun _ _ => rfl) (fun x hx => layNode_any W0 x (HR.out.nok x hx)) w2 v2 _ b2 h2 (by (try simp only [List.length_append, List.length_nil, putI_len]); have e1 := HN.out; have e2 := HF.out; have e3 := HS.out; have e4 := HE.out; omega) (by (try simp only [List.length_append, List.length_nil, putI_len]); have e1 := HN.out; have e2 := HF.out; have e3 := HS.out; have e4 := HE.out; omega)
  have q3 := HC.out w2 b2 3 _ rfl
  go_wp2_with (go_at_call 47; refine hC3.mono ?_; rintro e w3 ⟨v3, rfl, h3, g3⟩; refine Hid.out ?_)
  refine hid ?_
  have b3 : Below W0.heap.size W0 w3 := b2.trans (g3.below h2 b2.size)
  clear hC3 q3 g3
  have hC4 := layAll_fact W0 50 (fun f => factB (pf f)) fa facts fn fc 4 HR.out.facts HF.out (by omega) (fun _ _ => rfl) (fun f hf => layFact_any W0 f (HR.out.facts.ok f hf)) w3 v3 _ b3 h3 (by (try simp only [List.length_append, List.length_nil, putI_len]); have e1 := HN.out; have e2 := HF.out; have e3 := HS.out; have e4 := HE.out; omega) (by (try simp only [List.length_append, List.length_nil, putI_len]); have e1 := HN.out; have e2 := HF.out; have e3 := HS.out; have e4 := HE.out; omega)
  have q4 := HC.out w3 b3 4 _ rfl
  go_wp2_with (go_at_call 49; refine hC4.mono ?_; rintro e w4 ⟨v4, rfl, h4, g4⟩; refine Hid.out ?_)
  refine hid ?_
  have b4 : Below W0.heap.size W0 w4 := b3.trans (g4.below h3 b3.size)
  clear hC4 q4 g4
  go_wp2
  go_ret
  refine ⟨_, rfl, ?_, H0.out.trans (b4.mono H0.out.size)⟩
  rw [E.out]
  have := own_mono h4 H0.out.size
  unfold Bs
  simpa [List.append_assoc] using this

set_option maxHeartbeats 8000000 in
theorem layRec_2 (w : World) (r : Rc) (hR : RecIn w r) (hk : r.kind = 2) (hl : (recB (pr r)).length ≤ 60000) :
    Calls Try.prog 20 #[rcV r] w fun e w' => ∃ v', e = .returned v' ∧ Bs w.heap.size w' v' (recB (pr r)) ∧ Below w.heap.size w w' := by
  obtain ⟨kind, id, at_, na, nc, nodes, fa, fc, facts, epoch, sa, sc, spans, frm, til, ea, ec, ents⟩ := r
  simp only at hk
  subst hk
  have E : Hid (recB (pr ⟨2, id, at_, na, nc, nodes, fa, fc, facts, epoch, sa, sc, spans, frm, til, ea, ec, ents⟩) = putI 2 1 ++ (putI id 4 ++ (putI at_ 4 ++ (putI nodes.length 1 ++ nodes.flatMap (putI · 1))))) := by
    show _ = _
    simp [recB, bodyB, pr, nodesB, factsB, mapB, entsB, flatF_map, flatE_map]
  rw [E.out] at hl
  simp only [List.length_append, List.length_nil, putI_len] at hl
  have l1 := flatN_len nodes
  have l2 := flatF_least facts
  have l3 := flatS_least spans
  have l4 := flatE_least ents
  have hb0 : Below w.heap.size w (w.alloc (.cells #[(.int .u8 2), (.int .u32 id), (.int .u32 at_), (.slice na nodes.length nc), (.slice fa facts.length fc), (.int .u32 epoch), (.slice sa spans.length sc), (.int .i64 frm), (.int .i64 til), (.slice ea ents.length ec)] 30)) := by (repeat (first | with_reducible exact Below.refl _ _ | (with_reducible refine Below.drew ?_) | (with_reducible refine Below.alloc ?_ (by first | omega | (simp; done) | (simp; omega)) _) | (with_reducible refine Below.setCell ?_ (by first | exact Nat.le_refl _ | omega | (simp; done) | (simp; omega)) _)))
  have hR0 := hR.keep hb0
  have hcell : ∀ W, Below (w.heap.size + 1) (w.alloc (.cells #[(.int .u8 2), (.int .u32 id), (.int .u32 at_), (.slice na nodes.length nc), (.slice fa facts.length fc), (.int .u32 epoch), (.slice sa spans.length sc), (.int .i64 frm), (.int .i64 til), (.slice ea ents.length ec)] 30)) W → ∀ j x, #[(.int .u8 2), (.int .u32 id), (.int .u32 at_), (.slice na nodes.length nc), (.slice fa facts.length fc), (.int .u32 epoch), (.slice sa spans.length sc), (.int .i64 frm), (.int .i64 til), (.slice ea ents.length ec)][j]? = some x → W.cell? ⟨w.heap.size, j, none⟩ = some x := by
    intro W hW j x hx
    rw [hW.cell (p := ⟨w.heap.size, j, none⟩) (by simp)]
    simpa [go_sem] using hx
  have hsz : (w.alloc (.cells #[(.int .u8 2), (.int .u32 id), (.int .u32 at_), (.slice na nodes.length nc), (.slice fa facts.length fc), (.int .u32 epoch), (.slice sa spans.length sc), (.int .i64 frm), (.int .i64 til), (.slice ea ents.length ec)] 30)).heap.size = w.heap.size + 1 := by simp
  generalize hW0 : w.alloc (.cells #[(.int .u8 2), (.int .u32 id), (.int .u32 at_), (.slice na nodes.length nc), (.slice fa facts.length fc), (.int .u32 epoch), (.slice sa spans.length sc), (.int .i64 frm), (.int .i64 til), (.slice ea ents.length ec)] 30) = W0 at hb0 hR0 hcell hsz
  rw [← hsz] at hcell
  have HR : Aside (RecIn W0 _) := hR0
  have H0 : Aside (Below w.heap.size w W0) := hb0
  obtain ⟨nn, hnn⟩ : ∃ nn, nodes.length = nn := ⟨_, rfl⟩
  have HN : Hid (nodes.length = nn) := hnn
  obtain ⟨fn, hfn⟩ : ∃ fn, facts.length = fn := ⟨_, rfl⟩
  have HF : Hid (facts.length = fn) := hfn
  obtain ⟨sn, hsn⟩ : ∃ sn, spans.length = sn := ⟨_, rfl⟩
  have HS : Hid (spans.length = sn) := hsn
  obtain ⟨en, hen⟩ : ∃ en, ents.length = en := ⟨_, rfl⟩
  have HE : Hid (ents.length = en) := hen
  show Calls _ _ #[.agg #[(.int .u8 2), (.int .u32 id), (.int .u32 at_), (.slice na nodes.length nc), (.slice fa facts.length fc), (.int .u32 epoch), (.slice sa spans.length sc), (.int .i64 frm), (.int .i64 til), (.slice ea ents.length ec)]] _ _
  rw [hnn, hfn, hsn, hen] at hW0 hcell ⊢
  have HC : Aside (∀ W, Below W0.heap.size W0 W → _) := hcell
  have HW : Hid (_ = W0) := hW0
  have b0 := Below.refl W0.heap.size W0
  have h0 := Bs.nil W0.heap.size W0
  have s0 : w.heap.size < W0.heap.size := by omega
  clear hR hR0 hb0 hcell hsz hW0 hnn hfn hsn hen
  go_enter Try.func20, Try.ntmps20
  go_wp2_with fail
  rw [HW.out]
  have hC1 := lay_u8 W0.heap.size 1 2 HR.out.kind (by omega) (.slice none 0 0) _ W0 h0 b0.size (by (try simp only [List.length_append, List.length_nil, putI_len]); have e1 := HN.out; have e2 := HF.out; have e3 := HS.out; have e4 := HE.out; omega)
  have q1 := HC.out W0 b0 0 _ rfl
  go_wp2_with (go_at_call 45; refine hC1.mono ?_; rintro e w1 ⟨v1, rfl, h1, g1⟩; refine Hid.out ?_)
  refine hid ?_
  have b1 : Below W0.heap.size W0 w1 := b0.trans (g1.below h0 b0.size)
  clear hC1 q1 g1
  have hC2 := lay_u32 W0.heap.size 4 id HR.out.id (by omega) v1 _ w1 h1 b1.size (by (try simp only [List.length_append, List.length_nil, putI_len]); have e1 := HN.out; have e2 := HF.out; have e3 := HS.out; have e4 := HE.out; omega)
  have q2 := HC.out w1 b1 1 _ rfl
  go_wp2_with (go_at_call 46; refine hC2.mono ?_; rintro e w2 ⟨v2, rfl, h2, g2⟩; refine Hid.out ?_)
  refine hid ?_
  have b2 : Below W0.heap.size W0 w2 := b1.trans (g2.below h1 b1.size)
  have qk := HC.out w2 b2 0 _ rfl
  clear hC2 q2 g2
  have hC3 := lay_u32 W0.heap.size 4 at_ HR.out.at_ (by omega) v2 _ w2 h2 b2.size (by (try simp only [List.length_append, List.length_nil, putI_len]); have e1 := HN.out; have e2 := HF.out; have e3 := HS.out; have e4 := HE.out; omega)
  have q3 := HC.out w2 b2 2 _ rfl
  go_wp2_with (go_at_call 46; refine hC3.mono ?_; rintro e w3 ⟨v3, rfl, h3, g3⟩; refine Hid.out ?_)
  refine hid ?_
  have b3 : Below W0.heap.size W0 w3 := b2.trans (g3.below h2 b2.size)
  clear hC3 q3 g3
  have hC4 := layAll_int W0 48 (putI · 1) na nodes nn nc 1 HR.out.nodes HN.out (by omega) (fun _ _ => rfl) (fun x hx => layNode_any W0 x (HR.out.nok x hx)) w3 v3 _ b3 h3 (by (try simp only [List.length_append, List.length_nil, putI_len]); have e1 := HN.out; have e2 := HF.out; have e3 := HS.out; have e4 := HE.out; omega) (by (try simp only [List.length_append, List.length_nil, putI_len]); have e1 := HN.out; have e2 := HF.out; have e3 := HS.out; have e4 := HE.out; omega)
  have q4 := HC.out w3 b3 3 _ rfl
  go_wp2_with (go_at_call 47; refine hC4.mono ?_; rintro e w4 ⟨v4, rfl, h4, g4⟩; refine Hid.out ?_)
  refine hid ?_
  have b4 : Below W0.heap.size W0 w4 := b3.trans (g4.below h3 b3.size)
  clear hC4 q4 g4
  go_wp2
  go_ret
  refine ⟨_, rfl, ?_, H0.out.trans (b4.mono H0.out.size)⟩
  rw [E.out]
  have := own_mono h4 H0.out.size
  unfold Bs
  simpa [List.append_assoc] using this

set_option maxHeartbeats 8000000 in
theorem layRec_6 (w : World) (r : Rc) (hR : RecIn w r) (hk : r.kind = 6) (hl : (recB (pr r)).length ≤ 60000) :
    Calls Try.prog 20 #[rcV r] w fun e w' => ∃ v', e = .returned v' ∧ Bs w.heap.size w' v' (recB (pr r)) ∧ Below w.heap.size w w' := by
  obtain ⟨kind, id, at_, na, nc, nodes, fa, fc, facts, epoch, sa, sc, spans, frm, til, ea, ec, ents⟩ := r
  simp only at hk
  subst hk
  have E : Hid (recB (pr ⟨6, id, at_, na, nc, nodes, fa, fc, facts, epoch, sa, sc, spans, frm, til, ea, ec, ents⟩) = putI 6 1 ++ (putI id 4 ++ (putI epoch 4 ++ (putI spans.length 1 ++ spans.flatMap spanB)))) := by
    show _ = _
    simp [recB, bodyB, pr, nodesB, factsB, mapB, entsB, flatF_map, flatE_map]
  rw [E.out] at hl
  simp only [List.length_append, List.length_nil, putI_len] at hl
  have l1 := flatN_len nodes
  have l2 := flatF_least facts
  have l3 := flatS_least spans
  have l4 := flatE_least ents
  have hb0 : Below w.heap.size w (w.alloc (.cells #[(.int .u8 6), (.int .u32 id), (.int .u32 at_), (.slice na nodes.length nc), (.slice fa facts.length fc), (.int .u32 epoch), (.slice sa spans.length sc), (.int .i64 frm), (.int .i64 til), (.slice ea ents.length ec)] 30)) := by (repeat (first | with_reducible exact Below.refl _ _ | (with_reducible refine Below.drew ?_) | (with_reducible refine Below.alloc ?_ (by first | omega | (simp; done) | (simp; omega)) _) | (with_reducible refine Below.setCell ?_ (by first | exact Nat.le_refl _ | omega | (simp; done) | (simp; omega)) _)))
  have hR0 := hR.keep hb0
  have hcell : ∀ W, Below (w.heap.size + 1) (w.alloc (.cells #[(.int .u8 6), (.int .u32 id), (.int .u32 at_), (.slice na nodes.length nc), (.slice fa facts.length fc), (.int .u32 epoch), (.slice sa spans.length sc), (.int .i64 frm), (.int .i64 til), (.slice ea ents.length ec)] 30)) W → ∀ j x, #[(.int .u8 6), (.int .u32 id), (.int .u32 at_), (.slice na nodes.length nc), (.slice fa facts.length fc), (.int .u32 epoch), (.slice sa spans.length sc), (.int .i64 frm), (.int .i64 til), (.slice ea ents.length ec)][j]? = some x → W.cell? ⟨w.heap.size, j, none⟩ = some x := by
    intro W hW j x hx
    rw [hW.cell (p := ⟨w.heap.size, j, none⟩) (by simp)]
    simpa [go_sem] using hx
  have hsz : (w.alloc (.cells #[(.int .u8 6), (.int .u32 id), (.int .u32 at_), (.slice na nodes.length nc), (.slice fa facts.length fc), (.int .u32 epoch), (.slice sa spans.length sc), (.int .i64 frm), (.int .i64 til), (.slice ea ents.length ec)] 30)).heap.size = w.heap.size + 1 := by simp
  generalize hW0 : w.alloc (.cells #[(.int .u8 6), (.int .u32 id), (.int .u32 at_), (.slice na nodes.length nc), (.slice fa facts.length fc), (.int .u32 epoch), (.slice sa spans.length sc), (.int .i64 frm), (.int .i64 til), (.slice ea ents.length ec)] 30) = W0 at hb0 hR0 hcell hsz
  rw [← hsz] at hcell
  have HR : Aside (RecIn W0 _) := hR0
  have H0 : Aside (Below w.heap.size w W0) := hb0
  obtain ⟨nn, hnn⟩ : ∃ nn, nodes.length = nn := ⟨_, rfl⟩
  have HN : Hid (nodes.length = nn) := hnn
  obtain ⟨fn, hfn⟩ : ∃ fn, facts.length = fn := ⟨_, rfl⟩
  have HF : Hid (facts.length = fn) := hfn
  obtain ⟨sn, hsn⟩ : ∃ sn, spans.length = sn := ⟨_, rfl⟩
  have HS : Hid (spans.length = sn) := hsn
  obtain ⟨en, hen⟩ : ∃ en, ents.length = en := ⟨_, rfl⟩
  have HE : Hid (ents.length = en) := hen
  show Calls _ _ #[.agg #[(.int .u8 6), (.int .u32 id), (.int .u32 at_), (.slice na nodes.length nc), (.slice fa facts.length fc), (.int .u32 epoch), (.slice sa spans.length sc), (.int .i64 frm), (.int .i64 til), (.slice ea ents.length ec)]] _ _
  rw [hnn, hfn, hsn, hen] at hW0 hcell ⊢
  have HC : Aside (∀ W, Below W0.heap.size W0 W → _) := hcell
  have HW : Hid (_ = W0) := hW0
  have b0 := Below.refl W0.heap.size W0
  have h0 := Bs.nil W0.heap.size W0
  have s0 : w.heap.size < W0.heap.size := by omega
  clear hR hR0 hb0 hcell hsz hW0 hnn hfn hsn hen
  go_enter Try.func20, Try.ntmps20
  go_wp2_with fail
  rw [HW.out]
  have hC1 := lay_u8 W0.heap.size 1 6 HR.out.kind (by omega) (.slice none 0 0) _ W0 h0 b0.size (by (try simp only [List.length_append, List.length_nil, putI_len]); have e1 := HN.out; have e2 := HF.out; have e3 := HS.out; have e4 := HE.out; omega)
  have q1 := HC.out W0 b0 0 _ rfl
  go_wp2_with (go_at_call 45; refine hC1.mono ?_; rintro e w1 ⟨v1, rfl, h1, g1⟩; refine Hid.out ?_)
  refine hid ?_
  have b1 : Below W0.heap.size W0 w1 := b0.trans (g1.below h0 b0.size)
  clear hC1 q1 g1
  have hC2 := lay_u32 W0.heap.size 4 id HR.out.id (by omega) v1 _ w1 h1 b1.size (by (try simp only [List.length_append, List.length_nil, putI_len]); have e1 := HN.out; have e2 := HF.out; have e3 := HS.out; have e4 := HE.out; omega)
  have q2 := HC.out w1 b1 1 _ rfl
  go_wp2_with (go_at_call 46; refine hC2.mono ?_; rintro e w2 ⟨v2, rfl, h2, g2⟩; refine Hid.out ?_)
  refine hid ?_
  have b2 : Below W0.heap.size W0 w2 := b1.trans (g2.below h1 b1.size)
  have qk := HC.out w2 b2 0 _ rfl
  clear hC2 q2 g2
  have hC3 := lay_u32 W0.heap.size 4 epoch HR.out.epoch (by omega) v2 _ w2 h2 b2.size (by (try simp only [List.length_append, List.length_nil, putI_len]); have e1 := HN.out; have e2 := HF.out; have e3 := HS.out; have e4 := HE.out; omega)
  have q3 := HC.out w2 b2 5 _ rfl
  go_wp2_with (go_at_call 46; refine hC3.mono ?_; rintro e w3 ⟨v3, rfl, h3, g3⟩; refine Hid.out ?_)
  refine hid ?_
  have b3 : Below W0.heap.size W0 w3 := b2.trans (g3.below h2 b2.size)
  clear hC3 q3 g3
  have hC4 := layAll_span W0 52 spanB sa spans sn sc 1 HR.out.spans HS.out (by omega) (fun _ _ => rfl) (fun s hs => laySpan_any W0 s (spans_ok HR.out.spans s hs).1 (spans_ok HR.out.spans s hs).2) w3 v3 _ b3 h3 (by (try simp only [List.length_append, List.length_nil, putI_len]); have e1 := HN.out; have e2 := HF.out; have e3 := HS.out; have e4 := HE.out; omega) (by (try simp only [List.length_append, List.length_nil, putI_len]); have e1 := HN.out; have e2 := HF.out; have e3 := HS.out; have e4 := HE.out; omega)
  have q4 := HC.out w3 b3 6 _ rfl
  go_wp2_with (go_at_call 51; refine hC4.mono ?_; rintro e w4 ⟨v4, rfl, h4, g4⟩; refine Hid.out ?_)
  refine hid ?_
  have b4 : Below W0.heap.size W0 w4 := b3.trans (g4.below h3 b3.size)
  clear hC4 q4 g4
  go_wp2
  go_ret
  refine ⟨_, rfl, ?_, H0.out.trans (b4.mono H0.out.size)⟩
  rw [E.out]
  have := own_mono h4 H0.out.size
  unfold Bs
  simpa [List.append_assoc] using this

set_option maxHeartbeats 8000000 in
theorem layRec_7 (w : World) (r : Rc) (hR : RecIn w r) (hk : r.kind = 7) (hl : (recB (pr r)).length ≤ 60000) :
    Calls Try.prog 20 #[rcV r] w fun e w' => ∃ v', e = .returned v' ∧ Bs w.heap.size w' v' (recB (pr r)) ∧ Below w.heap.size w w' := by
  obtain ⟨kind, id, at_, na, nc, nodes, fa, fc, facts, epoch, sa, sc, spans, frm, til, ea, ec, ents⟩ := r
  simp only at hk
  subst hk
  have E : Hid (recB (pr ⟨7, id, at_, na, nc, nodes, fa, fc, facts, epoch, sa, sc, spans, frm, til, ea, ec, ents⟩) = putI 7 1 ++ (putI id 4 ++ (putI frm 4 ++ (putI til 4 ++ (putI ents.length 4 ++ ents.flatMap (fun e => entB (pe e))))))) := by
    show _ = _
    simp [recB, bodyB, pr, nodesB, factsB, mapB, entsB, flatF_map, flatE_map]
  rw [E.out] at hl
  simp only [List.length_append, List.length_nil, putI_len] at hl
  have l1 := flatN_len nodes
  have l2 := flatF_least facts
  have l3 := flatS_least spans
  have l4 := flatE_least ents
  have hb0 : Below w.heap.size w (w.alloc (.cells #[(.int .u8 7), (.int .u32 id), (.int .u32 at_), (.slice na nodes.length nc), (.slice fa facts.length fc), (.int .u32 epoch), (.slice sa spans.length sc), (.int .i64 frm), (.int .i64 til), (.slice ea ents.length ec)] 30)) := by (repeat (first | with_reducible exact Below.refl _ _ | (with_reducible refine Below.drew ?_) | (with_reducible refine Below.alloc ?_ (by first | omega | (simp; done) | (simp; omega)) _) | (with_reducible refine Below.setCell ?_ (by first | exact Nat.le_refl _ | omega | (simp; done) | (simp; omega)) _)))
  have hR0 := hR.keep hb0
  have hcell : ∀ W, Below (w.heap.size + 1) (w.alloc (.cells #[(.int .u8 7), (.int .u32 id), (.int .u32 at_), (.slice na nodes.length nc), (.slice fa facts.length fc), (.int .u32 epoch), (.slice sa spans.length sc), (.int .i64 frm), (.int .i64 til), (.slice ea ents.length ec)] 30)) W → ∀ j x, #[(.int .u8 7), (.int .u32 id), (.int .u32 at_), (.slice na nodes.length nc), (.slice fa facts.length fc), (.int .u32 epoch), (.slice sa spans.length sc), (.int .i64 frm), (.int .i64 til), (.slice ea ents.length ec)][j]? = some x → W.cell? ⟨w.heap.size, j, none⟩ = some x := by
    intro W hW j x hx
    rw [hW.cell (p := ⟨w.heap.size, j, none⟩) (by simp)]
    simpa [go_sem] using hx
  have hsz : (w.alloc (.cells #[(.int .u8 7), (.int .u32 id), (.int .u32 at_), (.slice na nodes.length nc), (.slice fa facts.length fc), (.int .u32 epoch), (.slice sa spans.length sc), (.int .i64 frm), (.int .i64 til), (.slice ea ents.length ec)] 30)).heap.size = w.heap.size + 1 := by simp
  generalize hW0 : w.alloc (.cells #[(.int .u8 7), (.int .u32 id), (.int .u32 at_), (.slice na nodes.length nc), (.slice fa facts.length fc), (.int .u32 epoch), (.slice sa spans.length sc), (.int .i64 frm), (.int .i64 til), (.slice ea ents.length ec)] 30) = W0 at hb0 hR0 hcell hsz
  rw [← hsz] at hcell
  have HR : Aside (RecIn W0 _) := hR0
  have H0 : Aside (Below w.heap.size w W0) := hb0
  obtain ⟨nn, hnn⟩ : ∃ nn, nodes.length = nn := ⟨_, rfl⟩
  have HN : Hid (nodes.length = nn) := hnn
  obtain ⟨fn, hfn⟩ : ∃ fn, facts.length = fn := ⟨_, rfl⟩
  have HF : Hid (facts.length = fn) := hfn
  obtain ⟨sn, hsn⟩ : ∃ sn, spans.length = sn := ⟨_, rfl⟩
  have HS : Hid (spans.length = sn) := hsn
  obtain ⟨en, hen⟩ : ∃ en, ents.length = en := ⟨_, rfl⟩
  have HE : Hid (ents.length = en) := hen
  show Calls _ _ #[.agg #[(.int .u8 7), (.int .u32 id), (.int .u32 at_), (.slice na nodes.length nc), (.slice fa facts.length fc), (.int .u32 epoch), (.slice sa spans.length sc), (.int .i64 frm), (.int .i64 til), (.slice ea ents.length ec)]] _ _
  rw [hnn, hfn, hsn, hen] at hW0 hcell ⊢
  have HC : Aside (∀ W, Below W0.heap.size W0 W → _) := hcell
  have HW : Hid (_ = W0) := hW0
  have b0 := Below.refl W0.heap.size W0
  have h0 := Bs.nil W0.heap.size W0
  have s0 : w.heap.size < W0.heap.size := by omega
  clear hR hR0 hb0 hcell hsz hW0 hnn hfn hsn hen
  go_enter Try.func20, Try.ntmps20
  go_wp2_with fail
  rw [HW.out]
  have hC1 := lay_u8 W0.heap.size 1 7 HR.out.kind (by omega) (.slice none 0 0) _ W0 h0 b0.size (by (try simp only [List.length_append, List.length_nil, putI_len]); have e1 := HN.out; have e2 := HF.out; have e3 := HS.out; have e4 := HE.out; omega)
  have q1 := HC.out W0 b0 0 _ rfl
  go_wp2_with (go_at_call 45; refine hC1.mono ?_; rintro e w1 ⟨v1, rfl, h1, g1⟩; refine Hid.out ?_)
  refine hid ?_
  have b1 : Below W0.heap.size W0 w1 := b0.trans (g1.below h0 b0.size)
  clear hC1 q1 g1
  have hC2 := lay_u32 W0.heap.size 4 id HR.out.id (by omega) v1 _ w1 h1 b1.size (by (try simp only [List.length_append, List.length_nil, putI_len]); have e1 := HN.out; have e2 := HF.out; have e3 := HS.out; have e4 := HE.out; omega)
  have q2 := HC.out w1 b1 1 _ rfl
  go_wp2_with (go_at_call 46; refine hC2.mono ?_; rintro e w2 ⟨v2, rfl, h2, g2⟩; refine Hid.out ?_)
  refine hid ?_
  have b2 : Below W0.heap.size W0 w2 := b1.trans (g2.below h1 b1.size)
  have qk := HC.out w2 b2 0 _ rfl
  clear hC2 q2 g2
  have hC3 := lay_int W0.heap.size 4 frm HR.out.frm (by omega) v2 _ w2 h2 b2.size (by (try simp only [List.length_append, List.length_nil, putI_len]); have e1 := HN.out; have e2 := HF.out; have e3 := HS.out; have e4 := HE.out; omega)
  have q3 := HC.out w2 b2 7 _ rfl
  go_wp2_with (go_at_call 53; refine hC3.mono ?_; rintro e w3 ⟨v3, rfl, h3, g3⟩; refine Hid.out ?_)
  refine hid ?_
  have b3 : Below W0.heap.size W0 w3 := b2.trans (g3.below h2 b2.size)
  clear hC3 q3 g3
  have hC4 := lay_int W0.heap.size 4 til HR.out.til (by omega) v3 _ w3 h3 b3.size (by (try simp only [List.length_append, List.length_nil, putI_len]); have e1 := HN.out; have e2 := HF.out; have e3 := HS.out; have e4 := HE.out; omega)
  have q4 := HC.out w3 b3 8 _ rfl
  go_wp2_with (go_at_call 53; refine hC4.mono ?_; rintro e w4 ⟨v4, rfl, h4, g4⟩; refine Hid.out ?_)
  refine hid ?_
  have b4 : Below W0.heap.size W0 w4 := b3.trans (g4.below h3 b3.size)
  clear hC4 q4 g4
  have hC5 := layAll_ent W0 55 (fun e => entB (pe e)) ea ents en ec 4 HR.out.ents HE.out (by omega) (fun _ _ => rfl) (fun e he => layEntry_any W0 e (HR.out.ents.ok e he)) w4 v4 _ b4 h4 (by (try simp only [List.length_append, List.length_nil, putI_len]); have e1 := HN.out; have e2 := HF.out; have e3 := HS.out; have e4 := HE.out; omega) (by (try simp only [List.length_append, List.length_nil, putI_len]); have e1 := HN.out; have e2 := HF.out; have e3 := HS.out; have e4 := HE.out; omega)
  have q5 := HC.out w4 b4 9 _ rfl
  go_wp2_with (go_at_call 54; refine hC5.mono ?_; rintro e w5 ⟨v5, rfl, h5, g5⟩; refine Hid.out ?_)
  refine hid ?_
  have b5 : Below W0.heap.size W0 w5 := b4.trans (g5.below h4 b4.size)
  clear hC5 q5 g5
  go_wp2
  go_ret
  refine ⟨_, rfl, ?_, H0.out.trans (b5.mono H0.out.size)⟩
  rw [E.out]
  have := own_mono h5 H0.out.size
  unfold Bs
  simpa [List.append_assoc] using this

set_option maxHeartbeats 8000000 in
theorem layRec_no (w : World) (r : Rc) (hR : RecIn w r) (k1 : (r.kind == 1) = false) (k2 : (r.kind == 2) = false) (k6 : (r.kind == 6) = false) (k7 : (r.kind == 7) = false) (hl : (recB (pr r)).length ≤ 60000) :
    Calls Try.prog 20 #[rcV r] w fun e w' => ∃ v', e = .returned v' ∧ Bs w.heap.size w' v' (recB (pr r)) ∧ Below w.heap.size w w' := by
  obtain ⟨kind, id, at_, na, nc, nodes, fa, fc, facts, epoch, sa, sc, spans, frm, til, ea, ec, ents⟩ := r
  simp only at k1 k2 k6 k7
  have E : Hid (recB (pr ⟨kind, id, at_, na, nc, nodes, fa, fc, facts, epoch, sa, sc, spans, frm, til, ea, ec, ents⟩) = putI kind 1 ++ (putI id 4 ++ ([]))) := by
    have e1 : ¬ kind = 1 := by simpa using k1
    have e2 : ¬ kind = 2 := by simpa using k2
    have e6 : ¬ kind = 6 := by simpa using k6
    have e7 : ¬ kind = 7 := by simpa using k7
    show _ = _
    simp [recB, bodyB, pr, e1, e2, e6, e7]
  rw [E.out] at hl
  simp only [List.length_append, List.length_nil, putI_len] at hl
  have l1 := flatN_len nodes
  have l2 := flatF_least facts
  have l3 := flatS_least spans
  have l4 := flatE_least ents
  have hb0 : Below w.heap.size w (w.alloc (.cells #[(.int .u8 kind), (.int .u32 id), (.int .u32 at_), (.slice na nodes.length nc), (.slice fa facts.length fc), (.int .u32 epoch), (.slice sa spans.length sc), (.int .i64 frm), (.int .i64 til), (.slice ea ents.length ec)] 30)) := by (repeat (first | with_reducible exact Below.refl _ _ | (with_reducible refine Below.drew ?_) | (with_reducible refine Below.alloc ?_ (by first | omega | (simp; done) | (simp; omega)) _) | (with_reducible refine Below.setCell ?_ (by first | exact Nat.le_refl _ | omega | (simp; done) | (simp; omega)) _)))
  have hR0 := hR.keep hb0
  have hcell : ∀ W, Below (w.heap.size + 1) (w.alloc (.cells #[(.int .u8 kind), (.int .u32 id), (.int .u32 at_), (.slice na nodes.length nc), (.slice fa facts.length fc), (.int .u32 epoch), (.slice sa spans.length sc), (.int .i64 frm), (.int .i64 til), (.slice ea ents.length ec)] 30)) W → ∀ j x, #[(.int .u8 kind), (.int .u32 id), (.int .u32 at_), (.slice na nodes.length nc), (.slice fa facts.length fc), (.int .u32 epoch), (.slice sa spans.length sc), (.int .i64 frm), (.int .i64 til), (.slice ea ents.length ec)][j]? = some x → W.cell? ⟨w.heap.size, j, none⟩ = some x := by
    intro W hW j x hx
    rw [hW.cell (p := ⟨w.heap.size, j, none⟩) (by simp)]
    simpa [go_sem] using hx
  have hsz : (w.alloc (.cells #[(.int .u8 kind), (.int .u32 id), (.int .u32 at_), (.slice na nodes.length nc), (.slice fa facts.length fc), (.int .u32 epoch), (.slice sa spans.length sc), (.int .i64 frm), (.int .i64 til), (.slice ea ents.length ec)] 30)).heap.size = w.heap.size + 1 := by simp
  generalize hW0 : w.alloc (.cells #[(.int .u8 kind), (.int .u32 id), (.int .u32 at_), (.slice na nodes.length nc), (.slice fa facts.length fc), (.int .u32 epoch), (.slice sa spans.length sc), (.int .i64 frm), (.int .i64 til), (.slice ea ents.length ec)] 30) = W0 at hb0 hR0 hcell hsz
  rw [← hsz] at hcell
  have HR : Aside (RecIn W0 _) := hR0
  have H0 : Aside (Below w.heap.size w W0) := hb0
  obtain ⟨nn, hnn⟩ : ∃ nn, nodes.length = nn := ⟨_, rfl⟩
  have HN : Hid (nodes.length = nn) := hnn
  obtain ⟨fn, hfn⟩ : ∃ fn, facts.length = fn := ⟨_, rfl⟩
  have HF : Hid (facts.length = fn) := hfn
  obtain ⟨sn, hsn⟩ : ∃ sn, spans.length = sn := ⟨_, rfl⟩
  have HS : Hid (spans.length = sn) := hsn
  obtain ⟨en, hen⟩ : ∃ en, ents.length = en := ⟨_, rfl⟩
  have HE : Hid (ents.length = en) := hen
  show Calls _ _ #[.agg #[(.int .u8 kind), (.int .u32 id), (.int .u32 at_), (.slice na nodes.length nc), (.slice fa facts.length fc), (.int .u32 epoch), (.slice sa spans.length sc), (.int .i64 frm), (.int .i64 til), (.slice ea ents.length ec)]] _ _
  rw [hnn, hfn, hsn, hen] at hW0 hcell ⊢
  have HC : Aside (∀ W, Below W0.heap.size W0 W → _) := hcell
  have HW : Hid (_ = W0) := hW0
  have b0 := Below.refl W0.heap.size W0
  have h0 := Bs.nil W0.heap.size W0
  have s0 : w.heap.size < W0.heap.size := by omega
  clear hR hR0 hb0 hcell hsz hW0 hnn hfn hsn hen
  go_enter Try.func20, Try.ntmps20
  go_wp2_with fail
  rw [HW.out]
  have hC1 := lay_u8 W0.heap.size 1 kind HR.out.kind (by omega) (.slice none 0 0) _ W0 h0 b0.size (by (try simp only [List.length_append, List.length_nil, putI_len]); have e1 := HN.out; have e2 := HF.out; have e3 := HS.out; have e4 := HE.out; omega)
  have q1 := HC.out W0 b0 0 _ rfl
  go_wp2_with (go_at_call 45; refine hC1.mono ?_; rintro e w1 ⟨v1, rfl, h1, g1⟩; refine Hid.out ?_)
  refine hid ?_
  have b1 : Below W0.heap.size W0 w1 := b0.trans (g1.below h0 b0.size)
  clear hC1 q1 g1
  have hC2 := lay_u32 W0.heap.size 4 id HR.out.id (by omega) v1 _ w1 h1 b1.size (by (try simp only [List.length_append, List.length_nil, putI_len]); have e1 := HN.out; have e2 := HF.out; have e3 := HS.out; have e4 := HE.out; omega)
  have q2 := HC.out w1 b1 1 _ rfl
  go_wp2_with (go_at_call 46; refine hC2.mono ?_; rintro e w2 ⟨v2, rfl, h2, g2⟩; refine Hid.out ?_)
  refine hid ?_
  have b2 : Below W0.heap.size W0 w2 := b1.trans (g2.below h1 b1.size)
  have qk := HC.out w2 b2 0 _ rfl
  clear hC2 q2 g2
  go_wp2
  go_ret
  refine ⟨_, rfl, ?_, H0.out.trans (b2.mono H0.out.size)⟩
  rw [E.out]
  have := own_mono h2 H0.out.size
  unfold Bs
  simpa [List.append_assoc] using this

theorem layRec_any (w : World) (r : Rc) (hR : RecIn w r) (hl : (recB (pr r)).length ≤ 60000) :
    Calls Try.prog 20 #[rcV r] w fun e w' => ∃ v', e = .returned v' ∧ Bs w.heap.size w' v' (recB (pr r)) ∧ Below w.heap.size w w' := by
  by_cases k1 : r.kind = 1
  · exact layRec_1 w r hR k1 hl
  by_cases k2 : r.kind = 2
  · exact layRec_2 w r hR k2 hl
  by_cases k6 : r.kind = 6
  · exact layRec_6 w r hR k6 hl
  by_cases k7 : r.kind = 7
  · exact layRec_7 w r hR k7 hl
  exact layRec_no w r hR (by simpa using k1) (by simpa using k2) (by simpa using k6) (by simpa using k7) hl
end Go.Proofs.Ytlokamblbhooaaa.code
