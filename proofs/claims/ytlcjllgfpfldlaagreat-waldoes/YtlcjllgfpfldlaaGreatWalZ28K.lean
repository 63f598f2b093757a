/-
 A node, a place, a fact, a span, an entry laid behind bytes: the program's functions.
 A record laid as bytes: the program's layRec.
 The program's Encode.
 The chapter's Nodes, Facts, Entries: lists as bytes.
 The chapter's bare: is all of a record nought but what some letters name.
 The chapter's SoundNodes, SoundFacts, SoundEntries, spans.
-/
import Derived.Test.YtlcjllgfpfldlaaGreatWalZ27K
set_option maxHeartbeats 16000000
open Go.ChangeShapes Go.WideShapes Go.ChangeAt Go.RowKit Go.Deep
set_option linter.unusedVariables false
set_option maxRecDepth 100000
namespace Go.Proofs.YtlcjllgfpfldlaaGreat
namespace code
open dims (nth Ints cell_lt own_mono ret_bool)
theorem box_ne {B : Nat} {W : World} {V : Value} {L : List UInt8} (h : Bs B W V L) : some W.heap.size ≠ V.ownBlock := fun e => by have := (World.ownsRow.lt h _ e.symm).2; omega
theorem layNode_any (w0 : World) (x : Int) (hx : I64 x) : Lays w0 120 (Value.int .i64) (putI · 1) x := by
 intro W V L hb ho hl
 have hC := lay_int w0.heap.size 1 x hx (by omega) V L W ho hb.size (by omega)
 go_enter Tryz.func120, Tryz.ntmps120
 go_wp2_with (go_at_call 125; refine hC.mono ?_; rintro e w1 ⟨v1, rfl, h1, h2⟩)
 go_ret
 exact ⟨_, rfl, h1, h2⟩
theorem layPlace_any (w0 : World) (x : Int) (hx : I64 x) : Lays w0 131 (Value.int .i64) (putI · 4) x := by
 intro W V L hb ho hl
 have hC := lay_int w0.heap.size 4 x hx (by omega) V L W ho hb.size (by omega)
 go_enter Tryz.func131, Tryz.ntmps131
 go_wp2_with (go_at_call 125; refine hC.mono ?_; rintro e w1 ⟨v1, rfl, h1, h2⟩)
 go_ret
 exact ⟨_, rfl, h1, h2⟩
theorem flat4_len (l : List Int) : (l.flatMap (putI · 4)).length = 4 * l.length := by
 induction l with
 | nil => rfl
 | cons x l ih => rw [List.flatMap_cons, laQ, ih, putI_len, List.length_cons]; omega
theorem factB_len (f : PFact) : (factB f).length = 9 + 4 * f.1.length := by
 unfold factB
 rw [laQ, laQ, putI_len, putI_len, flat4_len]; omega

theorem layFact_any (w0 : World) (f : Ft) (hf : FtOk w0 f) : Lays w0 122 ftV (fun f => factB (pf f)) f := by
 intro W V L hb ho hl
 simp only [factB_len, pf] at hl
 have hb1 : Below W.heap.size W (W.alloc (.cells #[.slice f.a f.k.length f.cap, .int .i64 f.v] 124)) := by (repeat (first | with_reducible exact Below.refl _ _ | (with_reducible refine Below.drew ?_) | (with_reducible refine Below.alloc ?_ (by first | omega | (simp; done) | (simp; omega)) _) | (with_reducible refine Below.setCell ?_ (by first | exact nrQ _ | omega | (simp; done) | (simp; omega)) _)))
 have hC1 := layAll_int w0 131 (putI · 4) f.a f.k f.k.length f.cap 1 hf.mem rfl (by omega) (fun _ _ => rfl) (fun x hx => layPlace_any w0 x (hf.key x hx)) _ V L (hb.trans (hb1.mono hb.size)) (ho.alloc _) (by omega) (by rw [flat4_len]; omega)
 have H : Aside (FtOk w0 f ∧ Below w0.heap.size w0 W ∧ Bs w0.heap.size W V L) := ⟨hf, hb, ho⟩
 have hne := box_ne ho
 have E : Hid (factB (pf f) = putI f.k.length 1 ++ (f.k.flatMap (putI · 4) ++ putI f.v 8)) := rfl
 show Calls _ _ #[V, .agg #[.slice f.a f.k.length f.cap, .int .i64 f.v]] _ _
 have HN : Aside (I64 f.v) := hf.num
 have hlk : L.length + (9 + 4 * f.k.length) ≤ 60000 := hl
 generalize f.a = fa at hC1
 generalize hk : f.k = fk at hC1 E hlk
 generalize f.cap = fcap at hC1
 generalize hv : f.v = fv at hC1 E HN
 clear hf hb ho hb1 hl hk hv
 go_enter Tryz.func122, Tryz.ntmps122
 go_wp2_with (go_at_call 119; refine hC1.mono ?_; rintro e w2 ⟨v2, rfl, h1, g1⟩; refine Hid.out ?_)
 refine hid ?_
 have r1 : w2.cell? ⟨W.heap.size, 1, none⟩ = some (.int .i64 fv) := g1.cell (by simp [go_sem]) hne
 have hG : Gr W V w2 v2 := (Gr.alloc W V _).trans g1
 have hC2 := lay_int64 w0.heap.size 8 fv HN.out (by omega) v2 _ w2 h1 (ntQ H.out.2.1.size hG.grown.size) (by simp only [laQ, putI_len, flat4_len]; omega)
 clear h1 g1 hC1 hne
 go_wp2_with (go_at_call 132; refine hC2.mono ?_; rintro e w3 ⟨v3, rfl, h3, g3⟩)
 go_ret
 refine ⟨_, rfl, ?_, hG.trans g3⟩
 rw [E.out]; simpa [apQ] using h3

theorem laySpan_any (w0 : World) (s : PSpan) (h1 : I64 s.1) (h2 : I64 s.2) : Lays w0 124 spV spanB s := by
 intro W V L hb ho hl
 obtain ⟨x, y⟩ := s
 have hl2 : L.length + 5 ≤ 60000 := by rw [spanB_len] at hl; exact hl
 have hb1 : Below W.heap.size W (W.alloc (.cells #[.int .i64 x, .int .i64 y] 109)) := by (repeat (first | with_reducible exact Below.refl _ _ | (with_reducible refine Below.drew ?_) | (with_reducible refine Below.alloc ?_ (by first | omega | (simp; done) | (simp; omega)) _) | (with_reducible refine Below.setCell ?_ (by first | exact nrQ _ | omega | (simp; done) | (simp; omega)) _)))
 have hC1 := lay_int w0.heap.size 4 x h1 (by omega) V L _ (ho.alloc (.cells #[.int .i64 x, .int .i64 y] 109)) (by have := hb.size; simp; omega) (by omega)
 have H : Aside (Below w0.heap.size w0 W ∧ I64 y ∧ Bs w0.heap.size W V L) := ⟨hb, h2, ho⟩
 have hne := box_ne ho
 show Calls _ _ #[V, .agg #[.int .i64 x, .int .i64 y]] _ _
 clear hl ho hb1 h1 h2 hb
 go_enter Tryz.func124, Tryz.ntmps124
 go_wp2_with (go_at_call 125; refine hC1.mono ?_; rintro e w2 ⟨v2, rfl, h1, g1⟩; refine Hid.out ?_)
 refine hid ?_
 have r1 : w2.cell? ⟨W.heap.size, 1, none⟩ = some (.int .i64 y) := g1.cell (by simp [go_sem]) hne
 have hG : Gr W V w2 v2 := (Gr.alloc W V _).trans g1
 have hC2 := layNode_any w0 y H.out.2.1 w2 v2 _ (H.out.1.trans (hG.below H.out.2.2 H.out.1.size)) h1 (by simp only [laQ, putI_len]; omega)
 clear h1 g1 hC1 hne
 go_wp2_with (go_at_call 120; refine hC2.mono ?_; rintro e w3 ⟨v3, rfl, h3, g3⟩)
 go_ret
 refine ⟨_, rfl, ?_, hG.trans g3⟩
 simpa [apQ, spanB] using h3

theorem flatF_map (l : List Ft) : (l.map pf).flatMap factB = l.flatMap (fun f => factB (pf f)) := List.flatMap_map _ _ _
theorem flatE_map (l : List Et) : (l.map pe).flatMap entB = l.flatMap (fun e => entB (pe e)) := List.flatMap_map _ _ _
theorem flatF_least (l : List Ft) : l.length ≤ (l.flatMap (fun f => factB (pf f))).length := by
 have := flat_least (e := fun f : Ft => factB (pf f)) (m := 1) (fun x => by have := factB_least (pf x); omega) l
 omega
theorem flatE_least (l : List Et) : l.length ≤ (l.flatMap (fun e => entB (pe e))).length := by
 have := flat_least (e := fun f : Et => entB (pe f)) (m := 1) (fun x => by have := entB_least (pe x); omega) l
 omega
theorem flatS_least (l : List PSpan) : l.length ≤ (l.flatMap spanB).length := by
 have := flat_least (e := spanB) (m := 1) (fun x => by rw [spanB_len]; omega) l
 omega
theorem flatN_len (l : List Int) : (l.flatMap (putI · 1)).length = l.length := by
 induction l with
 | nil => rfl
 | cons x l ih => rw [List.flatMap_cons, laQ, ih, putI_len, List.length_cons]; omega
theorem entB_pe (e : Et) : entB (pe e) = putI e.t 4 ++ (putI e.fs.length 4 ++ e.fs.flatMap (fun f => factB (pf f))) := by
 unfold entB factsB pe
 simp only [flatF_map, List.length_map]

theorem layEntry_any (w0 : World) (f : Et) (hf : EtOk w0 f) : Lays w0 127 etV (fun f => entB (pe f)) f := by
 intro W V L hb ho hl
 simp only [entB_pe, laQ, putI_len] at hl
 have hfl := flatF_least f.fs
 have hb1 : Below W.heap.size W (W.alloc (.cells #[.int .u32 f.t, .slice f.a f.fs.length f.cap] 94)) := by (repeat (first | with_reducible exact Below.refl _ _ | (with_reducible refine Below.drew ?_) | (with_reducible refine Below.alloc ?_ (by first | omega | (simp; done) | (simp; omega)) _) | (with_reducible refine Below.setCell ?_ (by first | exact nrQ _ | omega | (simp; done) | (simp; omega)) _)))
 have hC1 := lay_u32 w0.heap.size 4 f.t hf.num (by omega) V L _ (ho.alloc (.cells #[.int .u32 f.t, .slice f.a f.fs.length f.cap] 94)) (by have := hb.size; simp; omega) (by omega)
 have H : Aside (FactsIn w0 f.a f.fs ∧ Below w0.heap.size w0 W ∧ Bs w0.heap.size W V L) := ⟨hf.mem, hb, ho⟩
 have hne := box_ne ho
 have E : Hid (entB (pe f) = putI f.t 4 ++ (putI f.fs.length 4 ++ f.fs.flatMap (fun f => factB (pf f)))) := entB_pe f
 show Calls _ _ #[V, .agg #[.int .u32 f.t, .slice f.a f.fs.length f.cap]] _ _
 generalize f.a = fa at hC1 H
 generalize hk : f.fs = fs at hC1 E hl hfl H
 generalize f.cap = fcap at hC1
 generalize hv : f.t = ft at hC1 E
 obtain ⟨n, hn⟩ : ∃ n, fs.length = n := ⟨_, rfl⟩
 have HNN : Hid (fs.length = n) := hn
 have hfn : n ≤ 60000 := by omega
 rw [hn] at hC1 ⊢
 clear hf hb ho hb1 hk hv hn
 go_enter Tryz.func127, Tryz.ntmps127
 go_wp2_with (go_at_call 118; refine hC1.mono ?_; rintro e w2 ⟨v2, rfl, h1, g1⟩; refine Hid.out ?_)
 refine hid ?_
 have r1 : w2.cell? ⟨W.heap.size, 1, none⟩ = some (.slice fa n fcap) := g1.cell (by simp [go_sem]) hne
 have hG : Gr W V w2 v2 := (Gr.alloc W V _).trans g1
 have hC2 := layAll_fact w0 122 (fun f => factB (pf f)) fa fs n fcap 4 H.out.1 HNN.out (by omega) (fun _ _ => rfl) (fun f hf => layFact_any w0 f (H.out.1.ok f hf)) w2 v2 _ (H.out.2.1.trans (hG.below H.out.2.2 H.out.2.1.size)) h1 hfn (by simp only [laQ, putI_len]; omega)
 clear h1 g1 hC1 hne hl hfl
 go_wp2_with (go_at_call 121; refine hC2.mono ?_; rintro e w3 ⟨v3, rfl, h3, g3⟩)
 go_ret
 refine ⟨_, rfl, ?_, hG.trans g3⟩
 rw [E.out]; simpa [apQ] using h3
set_option linter.unusedSimpArgs false
theorem spans_ok {w : World} {a : Option Addr} {ss : List PSpan} (h : SpansIn w a ss) : ∀ s ∈ ss, I64 s.1 ∧ I64 s.2 := fun f hf => by
 obtain ⟨i, hi, rfl⟩ := List.mem_iff_getElem.1 hf
 obtain ⟨b, off, -, hc⟩ := h.get hi
 rw [← spn_eq hi]; exact (hc i hi).2.2

theorem layRec_1 (w : World) (r : Rc) (hR : RecIn w r) (hk : r.kind = 1) (hl : (recB (pr r)).length ≤ 60000) :
  Calls Tryz.prog 109 #[rcV r] w fun e w' => ∃ v', e = .returned v' ∧ Bs w.heap.size w' v' (recB (pr r)) ∧ Below w.heap.size w w' := by
 obtain ⟨kind, id, at_, na, nc, nodes, fa, fc, facts, epoch, sa, sc, spans, frm, til, ea, ec, ents⟩ := r
 simp only at hk
 subst hk
 have E : Hid (recB (pr ⟨1, id, at_, na, nc, nodes, fa, fc, facts, epoch, sa, sc, spans, frm, til, ea, ec, ents⟩) = putI 1 1 ++ (putI id 4 ++ (putI nodes.length 1 ++ (nodes.flatMap (putI · 1) ++ (putI facts.length 4 ++ facts.flatMap (fun f => factB (pf f))))))) := by
  show _ = _
  simp [recB, bodyB, pr, nodesB, factsB, mapB, entsB, flatF_map, flatE_map]
 rw [E.out] at hl
 simp only [laQ, List.length_nil, putI_len] at hl
 have l1 := flatN_len nodes
 have l2 := flatF_least facts
 have l3 := flatS_least spans
 have l4 := flatE_least ents
 have hb0 : Below w.heap.size w (w.alloc (.cells #[(.int .u8 1), (.int .u32 id), (.int .u32 at_), (.slice na nodes.length nc), (.slice fa facts.length fc), (.int .u32 epoch), (.slice sa spans.length sc), (.int .i64 frm), (.int .i64 til), (.slice ea ents.length ec)] 46)) := by (repeat (first | with_reducible exact Below.refl _ _ | (with_reducible refine Below.drew ?_) | (with_reducible refine Below.alloc ?_ (by first | omega | (simp; done) | (simp; omega)) _) | (with_reducible refine Below.setCell ?_ (by first | exact nrQ _ | omega | (simp; done) | (simp; omega)) _)))
 have hR0 := hR.keep hb0
 have hcell : ∀ W, Below (w.heap.size + 1) (w.alloc (.cells #[(.int .u8 1), (.int .u32 id), (.int .u32 at_), (.slice na nodes.length nc), (.slice fa facts.length fc), (.int .u32 epoch), (.slice sa spans.length sc), (.int .i64 frm), (.int .i64 til), (.slice ea ents.length ec)] 46)) W → ∀ j x, #[(.int .u8 1), (.int .u32 id), (.int .u32 at_), (.slice na nodes.length nc), (.slice fa facts.length fc), (.int .u32 epoch), (.slice sa spans.length sc), (.int .i64 frm), (.int .i64 til), (.slice ea ents.length ec)][j]? = some x → W.cell? ⟨w.heap.size, j, none⟩ = some x := by
  intro W hW j x hx
  rw [hW.cell (p := ⟨w.heap.size, j, none⟩) (by simp)]
  simpa [go_sem] using hx
 have hsz : (w.alloc (.cells #[(.int .u8 1), (.int .u32 id), (.int .u32 at_), (.slice na nodes.length nc), (.slice fa facts.length fc), (.int .u32 epoch), (.slice sa spans.length sc), (.int .i64 frm), (.int .i64 til), (.slice ea ents.length ec)] 46)).heap.size = w.heap.size + 1 := by simp
 generalize hW0 : w.alloc (.cells #[(.int .u8 1), (.int .u32 id), (.int .u32 at_), (.slice na nodes.length nc), (.slice fa facts.length fc), (.int .u32 epoch), (.slice sa spans.length sc), (.int .i64 frm), (.int .i64 til), (.slice ea ents.length ec)] 46) = W0 at hb0 hR0 hcell hsz
 rw [← hsz] at hcell
 have HR : Aside (RecIn W0 _) := hR0
 have H0 : Aside (Below w.heap.size w W0) := hb0
 obtain ⟨nn, hnn⟩ : ∃ nn, nodes.length = nn := ⟨_, rfl⟩
 have HN : Hid (nodes.length = nn) := hnn
 obtain ⟨fn, hfn⟩ : ∃ fn, facts.length = fn := ⟨_, rfl⟩
 have HF : Hid (facts.length = fn) := hfn
 obtain ⟨sn, hsn⟩ : ∃ sn, spans.length = sn := ⟨_, rfl⟩
 have HS : Hid (spans.length = sn) := hsn
 obtain ⟨en, hen⟩ : ∃ en, ents.length = en := ⟨_, rfl⟩
 have HE : Hid (ents.length = en) := hen
 show Calls _ _ #[.agg #[(.int .u8 1), (.int .u32 id), (.int .u32 at_), (.slice na nodes.length nc), (.slice fa facts.length fc), (.int .u32 epoch), (.slice sa spans.length sc), (.int .i64 frm), (.int .i64 til), (.slice ea ents.length ec)]] _ _
 rw [hnn, hfn, hsn, hen] at hW0 hcell ⊢
 have HC : Aside (∀ W, Below W0.heap.size W0 W → _) := hcell
 have HW : Hid (_ = W0) := hW0
 have b0 := Below.refl W0.heap.size W0
 have h0 := Bs.nil W0.heap.size W0
 have s0 : w.heap.size < W0.heap.size := by omega
 clear hR hR0 hb0 hcell hsz hW0 hnn hfn hsn hen
 go_enter Tryz.func109, Tryz.ntmps109
 go_wp2_with fail
 rw [HW.out]
 have hC1 := lay_u8 W0.heap.size 1 1 HR.out.kind (by omega) (.slice none 0 0) _ W0 h0 b0.size (by (try simp only [laQ, List.length_nil, putI_len]); have e1 := HN.out; have e2 := HF.out; have e3 := HS.out; have e4 := HE.out; omega)
 have q1 := HC.out W0 b0 0 _ rfl
 go_wp2_with (go_at_call 117; refine hC1.mono ?_; rintro e w1 ⟨v1, rfl, h1, g1⟩; refine Hid.out ?_)
 refine hid ?_
 have b1 : Below W0.heap.size W0 w1 := b0.trans (g1.below h0 b0.size)
 clear hC1 q1 g1
 have hC2 := lay_u32 W0.heap.size 4 id HR.out.id (by omega) v1 _ w1 h1 b1.size (by (try simp only [laQ, List.length_nil, putI_len]); have e1 := HN.out; have e2 := HF.out; have e3 := HS.out; have e4 := HE.out; omega)
 have q2 := HC.out w1 b1 1 _ rfl
 go_wp2_with (go_at_call 118; refine hC2.mono ?_; rintro e w2 ⟨v2, rfl, h2, g2⟩; refine Hid.out ?_)
 refine hid ?_
 have b2 : Below W0.heap.size W0 w2 := b1.trans (g2.below h1 b1.size)
 have qk := HC.out w2 b2 0 _ rfl
 clear hC2 q2 g2
 have hC3 := layAll_int W0 120 (putI · 1) na nodes nn nc 1 HR.out.nodes HN.out (by omega) (fun _ _ => rfl) (fun x hx => layNode_any W0 x (HR.out.nok x hx)) w2 v2 _ b2 h2 (by (try simp only [laQ, List.length_nil, putI_len]); have e1 := HN.out; have e2 := HF.out; have e3 := HS.out; have e4 := HE.out; omega) (by (try simp only [laQ, List.length_nil, putI_len]); have e1 := HN.out; have e2 := HF.out; have e3 := HS.out; have e4 := HE.out; omega)
 have q3 := HC.out w2 b2 3 _ rfl
 go_wp2_with (go_at_call 119; refine hC3.mono ?_; rintro e w3 ⟨v3, rfl, h3, g3⟩; refine Hid.out ?_)
 refine hid ?_
 have b3 : Below W0.heap.size W0 w3 := b2.trans (g3.below h2 b2.size)
 clear hC3 q3 g3
 have hC4 := layAll_fact W0 122 (fun f => factB (pf f)) fa facts fn fc 4 HR.out.facts HF.out (by omega) (fun _ _ => rfl) (fun f hf => layFact_any W0 f (HR.out.facts.ok f hf)) w3 v3 _ b3 h3 (by (try simp only [laQ, List.length_nil, putI_len]); have e1 := HN.out; have e2 := HF.out; have e3 := HS.out; have e4 := HE.out; omega) (by (try simp only [laQ, List.length_nil, putI_len]); have e1 := HN.out; have e2 := HF.out; have e3 := HS.out; have e4 := HE.out; omega)
 have q4 := HC.out w3 b3 4 _ rfl
 go_wp2_with (go_at_call 121; refine hC4.mono ?_; rintro e w4 ⟨v4, rfl, h4, g4⟩; refine Hid.out ?_)
 refine hid ?_
 have b4 : Below W0.heap.size W0 w4 := b3.trans (g4.below h3 b3.size)
 clear hC4 q4 g4
 go_wp2
 go_ret
 refine ⟨_, rfl, ?_, H0.out.trans (b4.mono H0.out.size)⟩
 rw [E.out]
 have := own_mono h4 H0.out.size
 unfold Bs
 simpa [apQ] using this

theorem layRec_2 (w : World) (r : Rc) (hR : RecIn w r) (hk : r.kind = 2) (hl : (recB (pr r)).length ≤ 60000) :
  Calls Tryz.prog 109 #[rcV r] w fun e w' => ∃ v', e = .returned v' ∧ Bs w.heap.size w' v' (recB (pr r)) ∧ Below w.heap.size w w' := by
 obtain ⟨kind, id, at_, na, nc, nodes, fa, fc, facts, epoch, sa, sc, spans, frm, til, ea, ec, ents⟩ := r
 simp only at hk
 subst hk
 have E : Hid (recB (pr ⟨2, id, at_, na, nc, nodes, fa, fc, facts, epoch, sa, sc, spans, frm, til, ea, ec, ents⟩) = putI 2 1 ++ (putI id 4 ++ (putI at_ 4 ++ (putI nodes.length 1 ++ nodes.flatMap (putI · 1))))) := by
  show _ = _
  simp [recB, bodyB, pr, nodesB, factsB, mapB, entsB, flatF_map, flatE_map]
 rw [E.out] at hl
 simp only [laQ, List.length_nil, putI_len] at hl
 have l1 := flatN_len nodes
 have l2 := flatF_least facts
 have l3 := flatS_least spans
 have l4 := flatE_least ents
 have hb0 : Below w.heap.size w (w.alloc (.cells #[(.int .u8 2), (.int .u32 id), (.int .u32 at_), (.slice na nodes.length nc), (.slice fa facts.length fc), (.int .u32 epoch), (.slice sa spans.length sc), (.int .i64 frm), (.int .i64 til), (.slice ea ents.length ec)] 46)) := by (repeat (first | with_reducible exact Below.refl _ _ | (with_reducible refine Below.drew ?_) | (with_reducible refine Below.alloc ?_ (by first | omega | (simp; done) | (simp; omega)) _) | (with_reducible refine Below.setCell ?_ (by first | exact nrQ _ | omega | (simp; done) | (simp; omega)) _)))
 have hR0 := hR.keep hb0
 have hcell : ∀ W, Below (w.heap.size + 1) (w.alloc (.cells #[(.int .u8 2), (.int .u32 id), (.int .u32 at_), (.slice na nodes.length nc), (.slice fa facts.length fc), (.int .u32 epoch), (.slice sa spans.length sc), (.int .i64 frm), (.int .i64 til), (.slice ea ents.length ec)] 46)) W → ∀ j x, #[(.int .u8 2), (.int .u32 id), (.int .u32 at_), (.slice na nodes.length nc), (.slice fa facts.length fc), (.int .u32 epoch), (.slice sa spans.length sc), (.int .i64 frm), (.int .i64 til), (.slice ea ents.length ec)][j]? = some x → W.cell? ⟨w.heap.size, j, none⟩ = some x := by
  intro W hW j x hx
  rw [hW.cell (p := ⟨w.heap.size, j, none⟩) (by simp)]
  simpa [go_sem] using hx
 have hsz : (w.alloc (.cells #[(.int .u8 2), (.int .u32 id), (.int .u32 at_), (.slice na nodes.length nc), (.slice fa facts.length fc), (.int .u32 epoch), (.slice sa spans.length sc), (.int .i64 frm), (.int .i64 til), (.slice ea ents.length ec)] 46)).heap.size = w.heap.size + 1 := by simp
 generalize hW0 : w.alloc (.cells #[(.int .u8 2), (.int .u32 id), (.int .u32 at_), (.slice na nodes.length nc), (.slice fa facts.length fc), (.int .u32 epoch), (.slice sa spans.length sc), (.int .i64 frm), (.int .i64 til), (.slice ea ents.length ec)] 46) = W0 at hb0 hR0 hcell hsz
 rw [← hsz] at hcell
 have HR : Aside (RecIn W0 _) := hR0
 have H0 : Aside (Below w.heap.size w W0) := hb0
 obtain ⟨nn, hnn⟩ : ∃ nn, nodes.length = nn := ⟨_, rfl⟩
 have HN : Hid (nodes.length = nn) := hnn
 obtain ⟨fn, hfn⟩ : ∃ fn, facts.length = fn := ⟨_, rfl⟩
 have HF : Hid (facts.length = fn) := hfn
 obtain ⟨sn, hsn⟩ : ∃ sn, spans.length = sn := ⟨_, rfl⟩
 have HS : Hid (spans.length = sn) := hsn
 obtain ⟨en, hen⟩ : ∃ en, ents.length = en := ⟨_, rfl⟩
 have HE : Hid (ents.length = en) := hen
 show Calls _ _ #[.agg #[(.int .u8 2), (.int .u32 id), (.int .u32 at_), (.slice na nodes.length nc), (.slice fa facts.length fc), (.int .u32 epoch), (.slice sa spans.length sc), (.int .i64 frm), (.int .i64 til), (.slice ea ents.length ec)]] _ _
 rw [hnn, hfn, hsn, hen] at hW0 hcell ⊢
 have HC : Aside (∀ W, Below W0.heap.size W0 W → _) := hcell
 have HW : Hid (_ = W0) := hW0
 have b0 := Below.refl W0.heap.size W0
 have h0 := Bs.nil W0.heap.size W0
 have s0 : w.heap.size < W0.heap.size := by omega
 clear hR hR0 hb0 hcell hsz hW0 hnn hfn hsn hen
 go_enter Tryz.func109, Tryz.ntmps109
 go_wp2_with fail
 rw [HW.out]
 have hC1 := lay_u8 W0.heap.size 1 2 HR.out.kind (by omega) (.slice none 0 0) _ W0 h0 b0.size (by (try simp only [laQ, List.length_nil, putI_len]); have e1 := HN.out; have e2 := HF.out; have e3 := HS.out; have e4 := HE.out; omega)
 have q1 := HC.out W0 b0 0 _ rfl
 go_wp2_with (go_at_call 117; refine hC1.mono ?_; rintro e w1 ⟨v1, rfl, h1, g1⟩; refine Hid.out ?_)
 refine hid ?_
 have b1 : Below W0.heap.size W0 w1 := b0.trans (g1.below h0 b0.size)
 clear hC1 q1 g1
 have hC2 := lay_u32 W0.heap.size 4 id HR.out.id (by omega) v1 _ w1 h1 b1.size (by (try simp only [laQ, List.length_nil, putI_len]); have e1 := HN.out; have e2 := HF.out; have e3 := HS.out; have e4 := HE.out; omega)
 have q2 := HC.out w1 b1 1 _ rfl
 go_wp2_with (go_at_call 118; refine hC2.mono ?_; rintro e w2 ⟨v2, rfl, h2, g2⟩; refine Hid.out ?_)
 refine hid ?_
 have b2 : Below W0.heap.size W0 w2 := b1.trans (g2.below h1 b1.size)
 have qk := HC.out w2 b2 0 _ rfl
 clear hC2 q2 g2
 have hC3 := lay_u32 W0.heap.size 4 at_ HR.out.at_ (by omega) v2 _ w2 h2 b2.size (by (try simp only [laQ, List.length_nil, putI_len]); have e1 := HN.out; have e2 := HF.out; have e3 := HS.out; have e4 := HE.out; omega)
 have q3 := HC.out w2 b2 2 _ rfl
 go_wp2_with (go_at_call 118; refine hC3.mono ?_; rintro e w3 ⟨v3, rfl, h3, g3⟩; refine Hid.out ?_)
 refine hid ?_
 have b3 : Below W0.heap.size W0 w3 := b2.trans (g3.below h2 b2.size)
 clear hC3 q3 g3
 have hC4 := layAll_int W0 120 (putI · 1) na nodes nn nc 1 HR.out.nodes HN.out (by omega) (fun _ _ => rfl) (fun x hx => layNode_any W0 x (HR.out.nok x hx)) w3 v3 _ b3 h3 (by (try simp only [laQ, List.length_nil, putI_len]); have e1 := HN.out; have e2 := HF.out; have e3 := HS.out; have e4 := HE.out; omega) (by (try simp only [laQ, List.length_nil, putI_len]); have e1 := HN.out; have e2 := HF.out; have e3 := HS.out; have e4 := HE.out; omega)
 have q4 := HC.out w3 b3 3 _ rfl
 go_wp2_with (go_at_call 119; refine hC4.mono ?_; rintro e w4 ⟨v4, rfl, h4, g4⟩; refine Hid.out ?_)
 refine hid ?_
 have b4 : Below W0.heap.size W0 w4 := b3.trans (g4.below h3 b3.size)
 clear hC4 q4 g4
 go_wp2
 go_ret
 refine ⟨_, rfl, ?_, H0.out.trans (b4.mono H0.out.size)⟩
 rw [E.out]
 have := own_mono h4 H0.out.size
 unfold Bs
 simpa [apQ] using this

theorem layRec_6 (w : World) (r : Rc) (hR : RecIn w r) (hk : r.kind = 6) (hl : (recB (pr r)).length ≤ 60000) :
  Calls Tryz.prog 109 #[rcV r] w fun e w' => ∃ v', e = .returned v' ∧ Bs w.heap.size w' v' (recB (pr r)) ∧ Below w.heap.size w w' := by
 obtain ⟨kind, id, at_, na, nc, nodes, fa, fc, facts, epoch, sa, sc, spans, frm, til, ea, ec, ents⟩ := r
 simp only at hk
 subst hk
 have E : Hid (recB (pr ⟨6, id, at_, na, nc, nodes, fa, fc, facts, epoch, sa, sc, spans, frm, til, ea, ec, ents⟩) = putI 6 1 ++ (putI id 4 ++ (putI epoch 4 ++ (putI spans.length 1 ++ spans.flatMap spanB)))) := by
  show _ = _
  simp [recB, bodyB, pr, nodesB, factsB, mapB, entsB, flatF_map, flatE_map]
 rw [E.out] at hl
 simp only [laQ, List.length_nil, putI_len] at hl
 have l1 := flatN_len nodes
 have l2 := flatF_least facts
 have l3 := flatS_least spans
 have l4 := flatE_least ents
 have hb0 : Below w.heap.size w (w.alloc (.cells #[(.int .u8 6), (.int .u32 id), (.int .u32 at_), (.slice na nodes.length nc), (.slice fa facts.length fc), (.int .u32 epoch), (.slice sa spans.length sc), (.int .i64 frm), (.int .i64 til), (.slice ea ents.length ec)] 46)) := by (repeat (first | with_reducible exact Below.refl _ _ | (with_reducible refine Below.drew ?_) | (with_reducible refine Below.alloc ?_ (by first | omega | (simp; done) | (simp; omega)) _) | (with_reducible refine Below.setCell ?_ (by first | exact nrQ _ | omega | (simp; done) | (simp; omega)) _)))
 have hR0 := hR.keep hb0
 have hcell : ∀ W, Below (w.heap.size + 1) (w.alloc (.cells #[(.int .u8 6), (.int .u32 id), (.int .u32 at_), (.slice na nodes.length nc), (.slice fa facts.length fc), (.int .u32 epoch), (.slice sa spans.length sc), (.int .i64 frm), (.int .i64 til), (.slice ea ents.length ec)] 46)) W → ∀ j x, #[(.int .u8 6), (.int .u32 id), (.int .u32 at_), (.slice na nodes.length nc), (.slice fa facts.length fc), (.int .u32 epoch), (.slice sa spans.length sc), (.int .i64 frm), (.int .i64 til), (.slice ea ents.length ec)][j]? = some x → W.cell? ⟨w.heap.size, j, none⟩ = some x := by
  intro W hW j x hx
  rw [hW.cell (p := ⟨w.heap.size, j, none⟩) (by simp)]
  simpa [go_sem] using hx
 have hsz : (w.alloc (.cells #[(.int .u8 6), (.int .u32 id), (.int .u32 at_), (.slice na nodes.length nc), (.slice fa facts.length fc), (.int .u32 epoch), (.slice sa spans.length sc), (.int .i64 frm), (.int .i64 til), (.slice ea ents.length ec)] 46)).heap.size = w.heap.size + 1 := by simp
 generalize hW0 : w.alloc (.cells #[(.int .u8 6), (.int .u32 id), (.int .u32 at_), (.slice na nodes.length nc), (.slice fa facts.length fc), (.int .u32 epoch), (.slice sa spans.length sc), (.int .i64 frm), (.int .i64 til), (.slice ea ents.length ec)] 46) = W0 at hb0 hR0 hcell hsz
 rw [← hsz] at hcell
 have HR : Aside (RecIn W0 _) := hR0
 have H0 : Aside (Below w.heap.size w W0) := hb0
 obtain ⟨nn, hnn⟩ : ∃ nn, nodes.length = nn := ⟨_, rfl⟩
 have HN : Hid (nodes.length = nn) := hnn
 obtain ⟨fn, hfn⟩ : ∃ fn, facts.length = fn := ⟨_, rfl⟩
 have HF : Hid (facts.length = fn) := hfn
 obtain ⟨sn, hsn⟩ : ∃ sn, spans.length = sn := ⟨_, rfl⟩
 have HS : Hid (spans.length = sn) := hsn
 obtain ⟨en, hen⟩ : ∃ en, ents.length = en := ⟨_, rfl⟩
 have HE : Hid (ents.length = en) := hen
 show Calls _ _ #[.agg #[(.int .u8 6), (.int .u32 id), (.int .u32 at_), (.slice na nodes.length nc), (.slice fa facts.length fc), (.int .u32 epoch), (.slice sa spans.length sc), (.int .i64 frm), (.int .i64 til), (.slice ea ents.length ec)]] _ _
 rw [hnn, hfn, hsn, hen] at hW0 hcell ⊢
 have HC : Aside (∀ W, Below W0.heap.size W0 W → _) := hcell
 have HW : Hid (_ = W0) := hW0
 have b0 := Below.refl W0.heap.size W0
 have h0 := Bs.nil W0.heap.size W0
 have s0 : w.heap.size < W0.heap.size := by omega
 clear hR hR0 hb0 hcell hsz hW0 hnn hfn hsn hen
 go_enter Tryz.func109, Tryz.ntmps109
 go_wp2_with fail
 rw [HW.out]
 have hC1 := lay_u8 W0.heap.size 1 6 HR.out.kind (by omega) (.slice none 0 0) _ W0 h0 b0.size (by (try simp only [laQ, List.length_nil, putI_len]); have e1 := HN.out; have e2 := HF.out; have e3 := HS.out; have e4 := HE.out; omega)
 have q1 := HC.out W0 b0 0 _ rfl
 go_wp2_with (go_at_call 117; refine hC1.mono ?_; rintro e w1 ⟨v1, rfl, h1, g1⟩; refine Hid.out ?_)
 refine hid ?_
 have b1 : Below W0.heap.size W0 w1 := b0.trans (g1.below h0 b0.size)
 clear hC1 q1 g1
 have hC2 := lay_u32 W0.heap.size 4 id HR.out.id (by omega) v1 _ w1 h1 b1.size (by (try simp only [laQ, List.length_nil, putI_len]); have e1 := HN.out; have e2 := HF.out; have e3 := HS.out; have e4 := HE.out; omega)
 have q2 := HC.out w1 b1 1 _ rfl
 go_wp2_with (go_at_call 118; refine hC2.mono ?_; rintro e w2 ⟨v2, rfl, h2, g2⟩; refine Hid.out ?_)
 refine hid ?_
 have b2 : Below W0.heap.size W0 w2 := b1.trans (g2.below h1 b1.size)
 have qk := HC.out w2 b2 0 _ rfl
 clear hC2 q2 g2
 have hC3 := lay_u32 W0.heap.size 4 epoch HR.out.epoch (by omega) v2 _ w2 h2 b2.size (by (try simp only [laQ, List.length_nil, putI_len]); have e1 := HN.out; have e2 := HF.out; have e3 := HS.out; have e4 := HE.out; omega)
 have q3 := HC.out w2 b2 5 _ rfl
 go_wp2_with (go_at_call 118; refine hC3.mono ?_; rintro e w3 ⟨v3, rfl, h3, g3⟩; refine Hid.out ?_)
 refine hid ?_
 have b3 : Below W0.heap.size W0 w3 := b2.trans (g3.below h2 b2.size)
 clear hC3 q3 g3
 have hC4 := layAll_span W0 124 spanB sa spans sn sc 1 HR.out.spans HS.out (by omega) (fun _ _ => rfl) (fun s hs => laySpan_any W0 s (spans_ok HR.out.spans s hs).1 (spans_ok HR.out.spans s hs).2) w3 v3 _ b3 h3 (by (try simp only [laQ, List.length_nil, putI_len]); have e1 := HN.out; have e2 := HF.out; have e3 := HS.out; have e4 := HE.out; omega) (by (try simp only [laQ, List.length_nil, putI_len]); have e1 := HN.out; have e2 := HF.out; have e3 := HS.out; have e4 := HE.out; omega)
 have q4 := HC.out w3 b3 6 _ rfl
 go_wp2_with (go_at_call 123; refine hC4.mono ?_; rintro e w4 ⟨v4, rfl, h4, g4⟩; refine Hid.out ?_)
 refine hid ?_
 have b4 : Below W0.heap.size W0 w4 := b3.trans (g4.below h3 b3.size)
 clear hC4 q4 g4
 go_wp2
 go_ret
 refine ⟨_, rfl, ?_, H0.out.trans (b4.mono H0.out.size)⟩
 rw [E.out]
 have := own_mono h4 H0.out.size
 unfold Bs
 simpa [apQ] using this

theorem layRec_7 (w : World) (r : Rc) (hR : RecIn w r) (hk : r.kind = 7) (hl : (recB (pr r)).length ≤ 60000) :
  Calls Tryz.prog 109 #[rcV r] w fun e w' => ∃ v', e = .returned v' ∧ Bs w.heap.size w' v' (recB (pr r)) ∧ Below w.heap.size w w' := by
 obtain ⟨kind, id, at_, na, nc, nodes, fa, fc, facts, epoch, sa, sc, spans, frm, til, ea, ec, ents⟩ := r
 simp only at hk
 subst hk
 have E : Hid (recB (pr ⟨7, id, at_, na, nc, nodes, fa, fc, facts, epoch, sa, sc, spans, frm, til, ea, ec, ents⟩) = putI 7 1 ++ (putI id 4 ++ (putI frm 4 ++ (putI til 4 ++ (putI ents.length 4 ++ ents.flatMap (fun e => entB (pe e))))))) := by
  show _ = _
  simp [recB, bodyB, pr, nodesB, factsB, mapB, entsB, flatF_map, flatE_map]
 rw [E.out] at hl
 simp only [laQ, List.length_nil, putI_len] at hl
 have l1 := flatN_len nodes
 have l2 := flatF_least facts
 have l3 := flatS_least spans
 have l4 := flatE_least ents
 have hb0 : Below w.heap.size w (w.alloc (.cells #[(.int .u8 7), (.int .u32 id), (.int .u32 at_), (.slice na nodes.length nc), (.slice fa facts.length fc), (.int .u32 epoch), (.slice sa spans.length sc), (.int .i64 frm), (.int .i64 til), (.slice ea ents.length ec)] 46)) := by (repeat (first | with_reducible exact Below.refl _ _ | (with_reducible refine Below.drew ?_) | (with_reducible refine Below.alloc ?_ (by first | omega | (simp; done) | (simp; omega)) _) | (with_reducible refine Below.setCell ?_ (by first | exact nrQ _ | omega | (simp; done) | (simp; omega)) _)))
 have hR0 := hR.keep hb0
 have hcell : ∀ W, Below (w.heap.size + 1) (w.alloc (.cells #[(.int .u8 7), (.int .u32 id), (.int .u32 at_), (.slice na nodes.length nc), (.slice fa facts.length fc), (.int .u32 epoch), (.slice sa spans.length sc), (.int .i64 frm), (.int .i64 til), (.slice ea ents.length ec)] 46)) W → ∀ j x, #[(.int .u8 7), (.int .u32 id), (.int .u32 at_), (.slice na nodes.length nc), (.slice fa facts.length fc), (.int .u32 epoch), (.slice sa spans.length sc), (.int .i64 frm), (.int .i64 til), (.slice ea ents.length ec)][j]? = some x → W.cell? ⟨w.heap.size, j, none⟩ = some x := by
  intro W hW j x hx
  rw [hW.cell (p := ⟨w.heap.size, j, none⟩) (by simp)]
  simpa [go_sem] using hx
 have hsz : (w.alloc (.cells #[(.int .u8 7), (.int .u32 id), (.int .u32 at_), (.slice na nodes.length nc), (.slice fa facts.length fc), (.int .u32 epoch), (.slice sa spans.length sc), (.int .i64 frm), (.int .i64 til), (.slice ea ents.length ec)] 46)).heap.size = w.heap.size + 1 := by simp
 generalize hW0 : w.alloc (.cells #[(.int .u8 7), (.int .u32 id), (.int .u32 at_), (.slice na nodes.length nc), (.slice fa facts.length fc), (.int .u32 epoch), (.slice sa spans.length sc), (.int .i64 frm), (.int .i64 til), (.slice ea ents.length ec)] 46) = W0 at hb0 hR0 hcell hsz
 rw [← hsz] at hcell
 have HR : Aside (RecIn W0 _) := hR0
 have H0 : Aside (Below w.heap.size w W0) := hb0
 obtain ⟨nn, hnn⟩ : ∃ nn, nodes.length = nn := ⟨_, rfl⟩
 have HN : Hid (nodes.length = nn) := hnn
 obtain ⟨fn, hfn⟩ : ∃ fn, facts.length = fn := ⟨_, rfl⟩
 have HF : Hid (facts.length = fn) := hfn
 obtain ⟨sn, hsn⟩ : ∃ sn, spans.length = sn := ⟨_, rfl⟩
 have HS : Hid (spans.length = sn) := hsn
 obtain ⟨en, hen⟩ : ∃ en, ents.length = en := ⟨_, rfl⟩
 have HE : Hid (ents.length = en) := hen
 show Calls _ _ #[.agg #[(.int .u8 7), (.int .u32 id), (.int .u32 at_), (.slice na nodes.length nc), (.slice fa facts.length fc), (.int .u32 epoch), (.slice sa spans.length sc), (.int .i64 frm), (.int .i64 til), (.slice ea ents.length ec)]] _ _
 rw [hnn, hfn, hsn, hen] at hW0 hcell ⊢
 have HC : Aside (∀ W, Below W0.heap.size W0 W → _) := hcell
 have HW : Hid (_ = W0) := hW0
 have b0 := Below.refl W0.heap.size W0
 have h0 := Bs.nil W0.heap.size W0
 have s0 : w.heap.size < W0.heap.size := by omega
 clear hR hR0 hb0 hcell hsz hW0 hnn hfn hsn hen
 go_enter Tryz.func109, Tryz.ntmps109
 go_wp2_with fail
 rw [HW.out]
 have hC1 := lay_u8 W0.heap.size 1 7 HR.out.kind (by omega) (.slice none 0 0) _ W0 h0 b0.size (by (try simp only [laQ, List.length_nil, putI_len]); have e1 := HN.out; have e2 := HF.out; have e3 := HS.out; have e4 := HE.out; omega)
 have q1 := HC.out W0 b0 0 _ rfl
 go_wp2_with (go_at_call 117; refine hC1.mono ?_; rintro e w1 ⟨v1, rfl, h1, g1⟩; refine Hid.out ?_)
 refine hid ?_
 have b1 : Below W0.heap.size W0 w1 := b0.trans (g1.below h0 b0.size)
 clear hC1 q1 g1
 have hC2 := lay_u32 W0.heap.size 4 id HR.out.id (by omega) v1 _ w1 h1 b1.size (by (try simp only [laQ, List.length_nil, putI_len]); have e1 := HN.out; have e2 := HF.out; have e3 := HS.out; have e4 := HE.out; omega)
 have q2 := HC.out w1 b1 1 _ rfl
 go_wp2_with (go_at_call 118; refine hC2.mono ?_; rintro e w2 ⟨v2, rfl, h2, g2⟩; refine Hid.out ?_)
 refine hid ?_
 have b2 : Below W0.heap.size W0 w2 := b1.trans (g2.below h1 b1.size)
 have qk := HC.out w2 b2 0 _ rfl
 clear hC2 q2 g2
 have hC3 := lay_int W0.heap.size 4 frm HR.out.frm (by omega) v2 _ w2 h2 b2.size (by (try simp only [laQ, List.length_nil, putI_len]); have e1 := HN.out; have e2 := HF.out; have e3 := HS.out; have e4 := HE.out; omega)
 have q3 := HC.out w2 b2 7 _ rfl
 go_wp2_with (go_at_call 125; refine hC3.mono ?_; rintro e w3 ⟨v3, rfl, h3, g3⟩; refine Hid.out ?_)
 refine hid ?_
 have b3 : Below W0.heap.size W0 w3 := b2.trans (g3.below h2 b2.size)
 clear hC3 q3 g3
 have hC4 := lay_int W0.heap.size 4 til HR.out.til (by omega) v3 _ w3 h3 b3.size (by (try simp only [laQ, List.length_nil, putI_len]); have e1 := HN.out; have e2 := HF.out; have e3 := HS.out; have e4 := HE.out; omega)
 have q4 := HC.out w3 b3 8 _ rfl
 go_wp2_with (go_at_call 125; refine hC4.mono ?_; rintro e w4 ⟨v4, rfl, h4, g4⟩; refine Hid.out ?_)
 refine hid ?_
 have b4 : Below W0.heap.size W0 w4 := b3.trans (g4.below h3 b3.size)
 clear hC4 q4 g4
 have hC5 := layAll_ent W0 127 (fun e => entB (pe e)) ea ents en ec 4 HR.out.ents HE.out (by omega) (fun _ _ => rfl) (fun e he => layEntry_any W0 e (HR.out.ents.ok e he)) w4 v4 _ b4 h4 (by (try simp only [laQ, List.length_nil, putI_len]); have e1 := HN.out; have e2 := HF.out; have e3 := HS.out; have e4 := HE.out; omega) (by (try simp only [laQ, List.length_nil, putI_len]); have e1 := HN.out; have e2 := HF.out; have e3 := HS.out; have e4 := HE.out; omega)
 have q5 := HC.out w4 b4 9 _ rfl
 go_wp2_with (go_at_call 126; refine hC5.mono ?_; rintro e w5 ⟨v5, rfl, h5, g5⟩; refine Hid.out ?_)
 refine hid ?_
 have b5 : Below W0.heap.size W0 w5 := b4.trans (g5.below h4 b4.size)
 clear hC5 q5 g5
 go_wp2
 go_ret
 refine ⟨_, rfl, ?_, H0.out.trans (b5.mono H0.out.size)⟩
 rw [E.out]
 have := own_mono h5 H0.out.size
 unfold Bs
 simpa [apQ] using this

theorem layRec_no (w : World) (r : Rc) (hR : RecIn w r) (k1 : (r.kind == 1) = false) (k2 : (r.kind == 2) = false) (k6 : (r.kind == 6) = false) (k7 : (r.kind == 7) = false) (hl : (recB (pr r)).length ≤ 60000) :
  Calls Tryz.prog 109 #[rcV r] w fun e w' => ∃ v', e = .returned v' ∧ Bs w.heap.size w' v' (recB (pr r)) ∧ Below w.heap.size w w' := by
 obtain ⟨kind, id, at_, na, nc, nodes, fa, fc, facts, epoch, sa, sc, spans, frm, til, ea, ec, ents⟩ := r
 simp only at k1 k2 k6 k7
 have E : Hid (recB (pr ⟨kind, id, at_, na, nc, nodes, fa, fc, facts, epoch, sa, sc, spans, frm, til, ea, ec, ents⟩) = putI kind 1 ++ (putI id 4 ++ ([]))) := by
  have e1 : ¬ kind = 1 := by simpa using k1
  have e2 : ¬ kind = 2 := by simpa using k2
  have e6 : ¬ kind = 6 := by simpa using k6
  have e7 : ¬ kind = 7 := by simpa using k7
  show _ = _
  simp [recB, bodyB, pr, e1, e2, e6, e7]
 rw [E.out] at hl
 simp only [laQ, List.length_nil, putI_len] at hl
 have l1 := flatN_len nodes
 have l2 := flatF_least facts
 have l3 := flatS_least spans
 have l4 := flatE_least ents
 have hb0 : Below w.heap.size w (w.alloc (.cells #[(.int .u8 kind), (.int .u32 id), (.int .u32 at_), (.slice na nodes.length nc), (.slice fa facts.length fc), (.int .u32 epoch), (.slice sa spans.length sc), (.int .i64 frm), (.int .i64 til), (.slice ea ents.length ec)] 46)) := by (repeat (first | with_reducible exact Below.refl _ _ | (with_reducible refine Below.drew ?_) | (with_reducible refine Below.alloc ?_ (by first | omega | (simp; done) | (simp; omega)) _) | (with_reducible refine Below.setCell ?_ (by first | exact nrQ _ | omega | (simp; done) | (simp; omega)) _)))
 have hR0 := hR.keep hb0
 have hcell : ∀ W, Below (w.heap.size + 1) (w.alloc (.cells #[(.int .u8 kind), (.int .u32 id), (.int .u32 at_), (.slice na nodes.length nc), (.slice fa facts.length fc), (.int .u32 epoch), (.slice sa spans.length sc), (.int .i64 frm), (.int .i64 til), (.slice ea ents.length ec)] 46)) W → ∀ j x, #[(.int .u8 kind), (.int .u32 id), (.int .u32 at_), (.slice na nodes.length nc), (.slice fa facts.length fc), (.int .u32 epoch), (.slice sa spans.length sc), (.int .i64 frm), (.int .i64 til), (.slice ea ents.length ec)][j]? = some x → W.cell? ⟨w.heap.size, j, none⟩ = some x := by
  intro W hW j x hx
  rw [hW.cell (p := ⟨w.heap.size, j, none⟩) (by simp)]
  simpa [go_sem] using hx
 have hsz : (w.alloc (.cells #[(.int .u8 kind), (.int .u32 id), (.int .u32 at_), (.slice na nodes.length nc), (.slice fa facts.length fc), (.int .u32 epoch), (.slice sa spans.length sc), (.int .i64 frm), (.int .i64 til), (.slice ea ents.length ec)] 46)).heap.size = w.heap.size + 1 := by simp
 generalize hW0 : w.alloc (.cells #[(.int .u8 kind), (.int .u32 id), (.int .u32 at_), (.slice na nodes.length nc), (.slice fa facts.length fc), (.int .u32 epoch), (.slice sa spans.length sc), (.int .i64 frm), (.int .i64 til), (.slice ea ents.length ec)] 46) = W0 at hb0 hR0 hcell hsz
 rw [← hsz] at hcell
 have HR : Aside (RecIn W0 _) := hR0
 have H0 : Aside (Below w.heap.size w W0) := hb0
 obtain ⟨nn, hnn⟩ : ∃ nn, nodes.length = nn := ⟨_, rfl⟩
 have HN : Hid (nodes.length = nn) := hnn
 obtain ⟨fn, hfn⟩ : ∃ fn, facts.length = fn := ⟨_, rfl⟩
 have HF : Hid (facts.length = fn) := hfn
 obtain ⟨sn, hsn⟩ : ∃ sn, spans.length = sn := ⟨_, rfl⟩
 have HS : Hid (spans.length = sn) := hsn
 obtain ⟨en, hen⟩ : ∃ en, ents.length = en := ⟨_, rfl⟩
 have HE : Hid (ents.length = en) := hen
 show Calls _ _ #[.agg #[(.int .u8 kind), (.int .u32 id), (.int .u32 at_), (.slice na nodes.length nc), (.slice fa facts.length fc), (.int .u32 epoch), (.slice sa spans.length sc), (.int .i64 frm), (.int .i64 til), (.slice ea ents.length ec)]] _ _
 rw [hnn, hfn, hsn, hen] at hW0 hcell ⊢
 have HC : Aside (∀ W, Below W0.heap.size W0 W → _) := hcell
 have HW : Hid (_ = W0) := hW0
 have b0 := Below.refl W0.heap.size W0
 have h0 := Bs.nil W0.heap.size W0
 have s0 : w.heap.size < W0.heap.size := by omega
 clear hR hR0 hb0 hcell hsz hW0 hnn hfn hsn hen
 go_enter Tryz.func109, Tryz.ntmps109
 go_wp2_with fail
 rw [HW.out]
 have hC1 := lay_u8 W0.heap.size 1 kind HR.out.kind (by omega) (.slice none 0 0) _ W0 h0 b0.size (by (try simp only [laQ, List.length_nil, putI_len]); have e1 := HN.out; have e2 := HF.out; have e3 := HS.out; have e4 := HE.out; omega)
 have q1 := HC.out W0 b0 0 _ rfl
 go_wp2_with (go_at_call 117; refine hC1.mono ?_; rintro e w1 ⟨v1, rfl, h1, g1⟩; refine Hid.out ?_)
 refine hid ?_
 have b1 : Below W0.heap.size W0 w1 := b0.trans (g1.below h0 b0.size)
 clear hC1 q1 g1
 have hC2 := lay_u32 W0.heap.size 4 id HR.out.id (by omega) v1 _ w1 h1 b1.size (by (try simp only [laQ, List.length_nil, putI_len]); have e1 := HN.out; have e2 := HF.out; have e3 := HS.out; have e4 := HE.out; omega)
 have q2 := HC.out w1 b1 1 _ rfl
 go_wp2_with (go_at_call 118; refine hC2.mono ?_; rintro e w2 ⟨v2, rfl, h2, g2⟩; refine Hid.out ?_)
 refine hid ?_
 have b2 : Below W0.heap.size W0 w2 := b1.trans (g2.below h1 b1.size)
 have qk := HC.out w2 b2 0 _ rfl
 clear hC2 q2 g2
 go_wp2
 go_ret
 refine ⟨_, rfl, ?_, H0.out.trans (b2.mono H0.out.size)⟩
 rw [E.out]
 have := own_mono h2 H0.out.size
 unfold Bs
 simpa [apQ] using this

theorem layRec_any (w : World) (r : Rc) (hR : RecIn w r) (hl : (recB (pr r)).length ≤ 60000) :
  Calls Tryz.prog 109 #[rcV r] w fun e w' => ∃ v', e = .returned v' ∧ Bs w.heap.size w' v' (recB (pr r)) ∧ Below w.heap.size w w' := by
 by_cases k1 : r.kind = 1
 ·exact layRec_1 w r hR k1 hl
 by_cases k2 : r.kind = 2
 ·exact layRec_2 w r hR k2 hl
 by_cases k6 : r.kind = 6
 ·exact layRec_6 w r hR k6 hl
 by_cases k7 : r.kind = 7
 ·exact layRec_7 w r hR k7 hl
 exact layRec_no w r hR (by simpa using k1) (by simpa using k2) (by simpa using k6) (by simpa using k7) hl
end code
namespace code
open dims (nth Ints cell_lt own_mono ret_bool)
theorem rec_box (w : World) (r : Rc) (t : TypeId) : ∀ j x, (rcC r)[j]? = some x → (w.alloc (.cells (rcC r) t)).cell? ⟨w.heap.size, j, none⟩ = some x := by
 intro j x hx
 simpa [go_sem] using hx

theorem encode_ok (w : World) (r : Rc) (hR : RecIn w r) (hs : sndRec (pr r) = true) (hl : (recB (pr r)).length ≤ 60000) :
  Calls Tryz.prog 80 #[rcV r] w fun e w' => ∃ v, e = .returned (.tuple #[v, .int .u16 0]) ∧ Bs w.heap.size w' v (recB (pr r)) ∧ Below w.heap.size w w' := by
 have hB : Below w.heap.size w (w.alloc (.cells (rcC r) 46)) := (Below.refl _ _).alloc (nrQ _) _
 have hR0 := hR.keep hB
 have hsz : (w.alloc (.cells (rcC r) 46)).heap.size = w.heap.size + 1 := by simp
 have hC1 := sound_any _ r hR0
 rw [hs] at hC1
 have hq0 := rec_box w r 46
 generalize hW0 : w.alloc (.cells (rcC r) 46) = W0 at hB hR0 hsz hC1 hq0
 have HW := hid_rc r hW0
 have HR : Aside (RecIn W0 r ∧ (recB (pr r)).length ≤ 60000 ∧ Below w.heap.size w W0) := ⟨hR0, hl, hB⟩
 clear hW0 hR hR0 hB hs
 refine calls_rc r ?_
 go_enter Tryz.func80, Tryz.ntmps80
 go_wp2_with fail
 rw [HW.out]
 refine hC1.mono ?_
 rintro e w1 ⟨rfl, g1⟩
 have q : ∀ j x, (rcC r)[j]? = some x → w1.cell? ⟨w.heap.size, j, none⟩ = some x := fun j x hx => (g1.cell (p := ⟨w.heap.size, j, none⟩) (by simp; omega)).trans (hq0 j x hx)
 have q0 := q 0 _ rfl
 have q1 := q 1 _ rfl
 have q2 := q 2 _ rfl
 have q3 := q 3 _ rfl
 have q4 := q 4 _ rfl
 have q5 := q 5 _ rfl
 have q6 := q 6 _ rfl
 have q7 := q 7 _ rfl
 have q8 := q 8 _ rfl
 have q9 := q 9 _ rfl
 have hC2 := layRec_any w1 r (HR.out.1.keep g1) HR.out.2.1
 have HB : Aside (Below w.heap.size w w1) := HR.out.2.2.trans (g1.mono HR.out.2.2.size)
 clear q hq0 g1 hC1
 go_wp2_with (go_at_call 109; refine hC2.mono ?_; rintro e w2 ⟨v, rfl, hown, g2⟩; refine Hid.out ?_)
 refine hid ?_
 obtain ⟨va, vc, rfl⟩ := Bs.form hown
 have HO : Aside (Bs w.heap.size w2 (.slice va (recB (pr r)).length vc) (recB (pr r)) ∧ Below w.heap.size w w2) := ⟨own_mono hown HB.out.size, HB.out.trans (g2.mono HB.out.size)⟩
 clear hC2 hown g2 q0 q1 q2 q3 q4 q5 q6 q7 q8 q9
 have hlz : ¬ (60000 : Int) < ((recB (pr r)).length : Int) := by have := HR.out.2.1; omega
 go_wp2
 go_ret2
 exact ⟨_, rfl, HO.out.1, HO.out.2⟩

theorem encode_no (w : World) (r : Rc) (hR : RecIn w r) (hs : sndRec (pr r) = false) :
  Calls Tryz.prog 80 #[rcV r] w fun e w' => e = .returned (.tuple #[.slice none 0 0, .int .u16 1]) ∧ Below w.heap.size w w' := by
 have hB : Below w.heap.size w (w.alloc (.cells (rcC r) 46)) := (Below.refl _ _).alloc (nrQ _) _
 have hC1 := sound_any _ r (hR.keep hB)
 rw [hs] at hC1
 generalize hW0 : w.alloc (.cells (rcC r) 46) = W0 at hB hC1
 have HW := hid_rc r hW0
 have HB : Aside (Below w.heap.size w W0) := hB
 clear hW0 hR hB hs
 refine calls_rc r ?_
 go_enter Tryz.func80, Tryz.ntmps80
 go_wp2_with fail
 rw [HW.out]
 refine hC1.mono ?_
 rintro e w1 ⟨rfl, g1⟩
 clear hC1
 go_wp2
 go_ret2
 exact ⟨rfl, HB.out.trans (g1.mono HB.out.size)⟩
set_option linter.unusedSimpArgs false
theorem putW_any (B size : Nat) (x y : Int) (hy : y = x % 18446744073709551616) (hs : size ≤ 8) (v : Value) (l : List UInt8) (w : World) (ho : Bs B w v l) (hB : B ≤ w.heap.size) (hl : l.length ≤ 1000000000) :
  Calls Tryz.prog 56 #[v, .int .u64 y, .int .i64 size] w fun e w' => ∃ v', e = .returned v' ∧ Bs B w' v' (l ++ putI x size) ∧ Gr w v w' v' := by
 unfold putI
 have := put_any B size (x % 18446744073709551616).toNat (by omega) hs v l w ho hB hl
 rwa [show (((x % 18446744073709551616).toNat : Nat) : Int) = y by omega] at this
theorem wrap_mod (x : Int) : IntKind.u64.wrap x = x % 18446744073709551616 := by rw [IntKind.wrap_u64]

theorem refNodes_any (w0 : World) (a : Option Addr) (xs : List Int) (n c : Nat) (hI : Ints w0 a xs) (hn : xs.length = n) (hok : ∀ x ∈ xs, I64 x)
  (w : World) (v : Value) (l : List UInt8) (hb : Below w0.heap.size w0 w) (ho : Bs w0.heap.size w v l) (hl : l.length + n ≤ 900000000) :
  Calls Tryz.prog 57 #[v, .slice a n c] w fun e w' => ∃ v', e = .returned v' ∧ Bs w0.heap.size w' v' (l ++ nodesB xs) ∧ Gr w v w' v' := by
 have hC := putW_any w0.heap.size 1 n n (by omega) (by omega) v l w ho hb.size (by omega)
 have H : Aside (Ints w0 a xs ∧ xs.length = n ∧ (∀ x ∈ xs, I64 x) ∧ Below w0.heap.size w0 w ∧ Bs w0.heap.size w v l) := ⟨hI, hn, hok, hb, ho⟩
 clear hI hn hok hb ho
 go_enter Tryz.func57, Tryz.ntmps57
 go_wp2_with (go_at_call 56; refine hC.mono ?_; rintro e w1 ⟨v1, rfl, hown1, hgr1⟩; refine Hid.out ?_)
 refine hid ?_
 have S1 : Aside (Bs w0.heap.size w1 v1 (l ++ (putI xs.length 1 ++ (xs.take 0).flatMap (putI · 1))) ∧ Gr w v w1 v1) := by
  refine ⟨?_, hgr1⟩
  rw [H.out.2.1]
  simpa using hown1
 clear hown1 hgr1 hC
 go_wp2_with fail
 go_loopg [0, 5] n (fun g1 vv vi wr => ∃ (k : Nat), vi = .int .i64 k ∧ k ≤ n ∧ n - k ≤ g1 ∧ Aside (Bs w0.heap.size wr vv (l ++ (putI xs.length 1 ++ (xs.take k).flatMap (putI · 1))) ∧ Gr w v wr vv))
 case atStart => exact ⟨0, rfl, Nat.zero_le _, nrQ _, S1⟩
 case round =>
  clear S1
  obtain ⟨k, rfl, hk, hg1, SK⟩ := hrel
  have HBW : Aside (Below w0.heap.size w0 wr) := H.out.2.2.2.1.trans (SK.out.2.below H.out.2.2.2.2 H.out.2.2.2.1.size)
  by_cases hlt : k < n
  ·have hltz : (k : Int) < (n : Int) := by omega
   have hkl : k < xs.length := by rw [H.out.2.1]; exact hlt
   obtain ⟨b, off, ha, hc⟩ := (H.out.1.keep HBW.out).get hkl
   subst ha
   have r0 := hc k hkl
   clear hc
   have HT : Hid ((xs.take (k + 1)).flatMap (putI · 1) = (xs.take k).flatMap (putI · 1) ++ putI (nth xs k) 1) := by show _ = _; rw [take_nth xs k hkl, List.flatMap_append]; simp
   have hlen2 : (l ++ (putI xs.length 1 ++ (xs.take k).flatMap (putI · 1))).length ≤ 1000000000 := by
    simp only [laQ, putI_len, flatN_len, List.length_take]; omega
   have hC := putW_any w0.heap.size 1 (nth xs k) (IntKind.u64.wrap (nth xs k)) (wrap_mod _) (by omega) _ _ wr SK.out.1 HBW.out.size hlen2
   generalize nth xs k = x at r0 hC HT
   clear hlen2
   go_wp2_with (go_at_call 56; refine hC.mono ?_; rintro e w2 ⟨v2, rfl, hown2, hgr2⟩; refine Hid.out ?_)
   refine hid ?_
   have S2 : Aside (Bs w0.heap.size w2 v2 (l ++ (putI xs.length 1 ++ (xs.take (k + 1)).flatMap (putI · 1))) ∧ Gr w v w2 v2) := by
    refine ⟨?_, SK.out.2.trans hgr2⟩
    rw [HT.out, ← apQ (putI _ _), ← apQ l]; exact hown2
   clear hown2 hgr2 hC
   go_wp2
   go_roundg (n - (k + 1))
   case measure => omega
   case rel => exact ⟨k + 1, by go_num, by omega, by omega, S2⟩
  ·have hltz : ¬ (k : Int) < (n : Int) := by omega
   have S2 : Aside (Bs w0.heap.size wr u0 (l ++ nodesB xs) ∧ Gr w v wr u0) := by
    have h := SK.out
    rw [List.take_of_length_le (by rw [H.out.2.1]; omega)] at h
    exact h
   clear SK
   go_wp2
   go_ret
   exact ⟨_, rfl, S2.out.1, S2.out.2⟩

theorem refFacts_any (w0 : World) (a : Option Addr) (fs : List Ft) (n c : Nat) (hI : FactsIn w0 a fs) (hn : fs.length = n)
  (w : World) (v : Value) (l : List UInt8) (hb : Below w0.heap.size w0 w) (ho : Bs w0.heap.size w v l) (hm : n ≤ 100000000) (hl : l.length + (factsB (fs.map pf)).length ≤ 900000000) :
  Calls Tryz.prog 58 #[v, .slice a n c] w fun e w' => ∃ v', e = .returned v' ∧ Bs w0.heap.size w' v' (l ++ factsB (fs.map pf)) ∧ Gr w v w' v' := by
 have hC := putW_any w0.heap.size 4 n n (by omega) (by omega) v l w ho hb.size (by omega)
 have E : Hid (factsB (fs.map pf) = putI fs.length 4 ++ fs.flatMap (fun f => factB (pf f))) := by
  show _ = _
  unfold factsB
  rw [flatF_map, List.length_map]
 rw [E.out] at hl
 simp only [laQ, putI_len] at hl
 have H : Aside (FactsIn w0 a fs ∧ fs.length = n ∧ Below w0.heap.size w0 w ∧ Bs w0.heap.size w v l) := ⟨hI, hn, hb, ho⟩
 clear hI hn hb ho
 go_enter Tryz.func58, Tryz.ntmps58
 go_wp2_with (go_at_call 56; refine hC.mono ?_; rintro e w1 ⟨v1, rfl, hown1, hgr1⟩; refine Hid.out ?_)
 refine hid ?_
 have S1 : Aside (Bs w0.heap.size w1 v1 (l ++ (putI fs.length 4 ++ (fs.take 0).flatMap (fun f => factB (pf f)))) ∧ Gr w v w1 v1) := by
  refine ⟨?_, hgr1⟩
  rw [H.out.2.1]
  simpa using hown1
 clear hown1 hgr1 hC
 go_wp2_with fail
 go_loopg [0, 5] n (fun g1 vv vi wr => ∃ (k : Nat), vi = .int .i64 k ∧ k ≤ n ∧ n - k ≤ g1 ∧ Aside (Bs w0.heap.size wr vv (l ++ (putI fs.length 4 ++ (fs.take k).flatMap (fun f => factB (pf f)))) ∧ Gr w v wr vv))
 case atStart => exact ⟨0, rfl, Nat.zero_le _, nrQ _, S1⟩
 case round =>
  clear S1
  obtain ⟨k, rfl, hk, hg1, SK⟩ := hrel
  have HBW : Aside (Below w0.heap.size w0 wr) := H.out.2.2.1.trans (SK.out.2.below H.out.2.2.2 H.out.2.2.1.size)
  by_cases hlt : k < n
  ·have hltz : (k : Int) < (n : Int) := by omega
   have hkl : k < fs.length := by rw [H.out.2.1]; exact hlt
   obtain ⟨b, off, ha, hc0⟩ := H.out.1.get hkl
   subst ha
   obtain ⟨r0, r1, r2⟩ := hc0 k hkl
   have HT : Hid ((fs.take (k + 1)).flatMap (fun f => factB (pf f)) = (fs.take k).flatMap (fun f => factB (pf f)) ++ factB (pf (ftn fs k))) := by show _ = _; rw [take_ftn fs k hkl, List.flatMap_append]; simp
   have hlen2 : (l ++ (putI fs.length 4 ++ (fs.take k).flatMap (fun f => factB (pf f)))).length + (9 + 4 * (ftn fs k).k.length) ≤ 1000000000 := by
    have h1 := flat_take (fun f => factB (pf f)) fs (k + 1)
    rw [HT.out, laQ, factB_len] at h1
    simp only [pf] at h1
    simp only [laQ, putI_len]
    have := hl
    simp only [pf] at this ⊢
    omega
   generalize hD : l ++ (putI fs.length 4 ++ (fs.take k).flatMap (fun f => factB (pf f))) = D at SK hlen2
   have HD : Hid (l ++ (putI fs.length 4 ++ (fs.take k).flatMap (fun f => factB (pf f))) = D) := hD
   clear hD hc0
   have HF : Hid (pf (ftn fs k) = ((ftn fs k).k, (ftn fs k).v)) := rfl
   have KO : Aside (Ints w0 (ftn fs k).a (ftn fs k).k ∧ (∀ x ∈ (ftn fs k).k, I64 x)) := ⟨r2.mem, r2.key⟩
   have r2n := r2.num
   clear r2
   have hq : ∀ W, Below w0.heap.size w0 W → W.cell? ⟨b, off + k * 2, none⟩ = some (.slice (ftn fs k).a (ftn fs k).k.length (ftn fs k).cap) ∧ W.cell? ⟨b, off + k * 2 + 1, none⟩ = some (.int .i64 (ftn fs k).v) := fun W hW => ⟨(hW.cell (p := ⟨b, off + k * 2, none⟩) (cell_lt r0)).trans r0, (hW.cell (p := ⟨b, off + k * 2 + 1, none⟩) (cell_lt r1)).trans r1⟩
   clear r0 r1
   generalize (ftn fs k).a = fa at hq KO
   generalize (ftn fs k).cap = fcap at hq
   generalize hkk : (ftn fs k).k = fk at hq KO hlen2 HF
   generalize (ftn fs k).v = fv at hq HF r2n
   obtain ⟨m, hm2⟩ : ∃ m, fk.length = m := ⟨_, rfl⟩
   have HM : Hid (fk.length = m) := hm2
   rw [hm2] at hq hlen2
   have HQ : Aside (∀ W, Below w0.heap.size w0 W → W.cell? ⟨b, off + k * 2, none⟩ = some (.slice fa m fcap) ∧ W.cell? ⟨b, off + k * 2 + 1, none⟩ = some (.int .i64 fv)) := hq
   obtain ⟨r0, r1⟩ := hq wr HBW.out
   have hC := putW_any w0.heap.size 1 m m (by omega) (by omega) _ _ wr SK.out.1 HBW.out.size (by omega)
   clear hkk hm2 hq
   go_wp2_with (go_at_call 56; refine hC.mono ?_; rintro e w2 ⟨v2, rfl, hown2, hgr2⟩; refine Hid.out ?_)
   refine hid ?_
   have S2 : Aside (Bs w0.heap.size w2 v2 (D ++ (putI m 1 ++ (fk.take 0).flatMap (putI · 4))) ∧ Gr w v w2 v2) := ⟨by simpa using hown2, SK.out.2.trans hgr2⟩
   clear hown2 hgr2 hC r0 r1 SK HBW
   generalize wr = W1 at *
   go_wp2_with fail
   go_loopg [0, 6] m (fun g2 vv vi wr => ∃ (j : Nat), vi = .int .i64 j ∧ j ≤ m ∧ m - j ≤ g2 ∧ Aside (Bs w0.heap.size wr vv (D ++ (putI m 1 ++ (fk.take j).flatMap (putI · 4))) ∧ Gr w v wr vv))
   case atStart => exact ⟨0, rfl, Nat.zero_le _, nrQ _, S2⟩
   case round =>
    clear S2
    obtain ⟨j, rfl, hj, hg2, SJ⟩ := hrel
    have HBW : Aside (Below w0.heap.size w0 wr) := H.out.2.2.1.trans (SJ.out.2.below H.out.2.2.2 H.out.2.2.1.size)
    obtain ⟨r0, r1⟩ := HQ.out wr HBW.out
    by_cases hlt2 : j < m
    ·have hltz2 : (j : Int) < (m : Int) := by omega
     have hjl : j < fk.length := by rw [HM.out]; exact hlt2
     obtain ⟨b2, off2, ha2, hc2⟩ := (KO.out.1.keep HBW.out).get hjl
     subst ha2
     have p0 := hc2 j hjl
     clear hc2
     have HT2 : Hid ((fk.take (j + 1)).flatMap (putI · 4) = (fk.take j).flatMap (putI · 4) ++ putI (nth fk j) 4) := by show _ = _; rw [take_nth fk j hjl, List.flatMap_append]; simp
     have hC := putW_any w0.heap.size 4 (nth fk j) (IntKind.u64.wrap (nth fk j)) (wrap_mod _) (by omega) _ _ wr SJ.out.1 HBW.out.size (by simp only [laQ, putI_len, flat4_len, List.length_take]; omega)
     generalize nth fk j = x at p0 hC HT2
     go_wp2_with (go_at_call 56; refine hC.mono ?_; rintro e w3 ⟨v3, rfl, hown3, hgr3⟩; refine Hid.out ?_)
     refine hid ?_
     have S3 : Aside (Bs w0.heap.size w3 v3 (D ++ (putI m 1 ++ (fk.take (j + 1)).flatMap (putI · 4))) ∧ Gr w v w3 v3) := by
      refine ⟨?_, SJ.out.2.trans hgr3⟩
      rw [HT2.out, ← apQ (putI _ _), ← apQ D]; exact hown3
     clear hown3 hgr3 hC
     go_wp2
     go_roundg (m - (j + 1))
     case measure => omega
     case rel => exact ⟨j + 1, by go_num, by omega, by omega, S3⟩
    ·have hltz2 : ¬ (j : Int) < (m : Int) := by omega
     have hC := putW_any w0.heap.size 8 fv (IntKind.u64.wrap fv) (wrap_mod _) (by omega) _ _ wr SJ.out.1 HBW.out.size (by simp only [laQ, putI_len, flat4_len, List.length_take]; omega)
     go_wp2_with (go_at_call 56; refine hC.mono ?_; rintro e w3 ⟨v3, rfl, hown3, hgr3⟩; refine Hid.out ?_)
     refine hid ?_
     have S3 : Aside (Bs w0.heap.size w3 v3 (l ++ (putI fs.length 4 ++ (fs.take (k + 1)).flatMap (fun f => factB (pf f)))) ∧ Gr w v w3 v3) := by
      refine ⟨?_, SJ.out.2.trans hgr3⟩
      rw [List.take_of_length_le (by rw [HM.out]; omega)] at hown3
      rw [HT.out, ← apQ (putI _ _), ← apQ l, HD.out, HF.out]
      unfold factB
      rw [HM.out]
      simpa [apQ] using hown3
     clear hown3 hgr3 hC
     go_wp2
     go_roundg (n - (k + 1))
     case measure => omega
     case rel => exact ⟨k + 1, by go_num, by omega, by omega, S3⟩
  ·have hltz : ¬ (k : Int) < (n : Int) := by omega
   have S2 : Aside (Bs w0.heap.size wr u0 (l ++ factsB (fs.map pf)) ∧ Gr w v wr u0) := by
    have h := SK.out
    rw [List.take_of_length_le (by rw [H.out.2.1]; omega), ← E.out] at h
    exact h
   clear SK
   go_wp2
   go_ret
   exact ⟨_, rfl, S2.out.1, S2.out.2⟩

theorem refEntries_any (w0 : World) (a : Option Addr) (es : List Et) (n c : Nat) (hI : EntsIn w0 a es) (hn : es.length = n)
  (w : World) (v : Value) (l : List UInt8) (hb : Below w0.heap.size w0 w) (ho : Bs w0.heap.size w v l) (hm : n ≤ 100000000) (hf : ∀ e ∈ es, e.fs.length ≤ 100000000) (hl : l.length + (entsB (es.map pe)).length ≤ 900000000) :
  Calls Tryz.prog 59 #[v, .slice a n c] w fun e w' => ∃ v', e = .returned v' ∧ Bs w0.heap.size w' v' (l ++ entsB (es.map pe)) ∧ Gr w v w' v' := by
 have hC := putW_any w0.heap.size 4 n n (by omega) (by omega) v l w ho hb.size (by omega)
 have E : Hid (entsB (es.map pe) = putI es.length 4 ++ es.flatMap (fun e => entB (pe e))) := by
  show _ = _
  unfold entsB
  rw [flatE_map, List.length_map]
 rw [E.out] at hl
 simp only [laQ, putI_len] at hl
 have H : Aside (EntsIn w0 a es ∧ es.length = n ∧ Below w0.heap.size w0 w ∧ Bs w0.heap.size w v l) := ⟨hI, hn, hb, ho⟩
 have HFL : Aside (∀ e ∈ es, e.fs.length ≤ 100000000) := hf
 clear hI hn hb ho hf
 go_enter Tryz.func59, Tryz.ntmps59
 go_wp2_with (go_at_call 56; refine hC.mono ?_; rintro e w1 ⟨v1, rfl, hown1, hgr1⟩; refine Hid.out ?_)
 refine hid ?_
 have S1 : Aside (Bs w0.heap.size w1 v1 (l ++ (putI es.length 4 ++ (es.take 0).flatMap (fun e => entB (pe e)))) ∧ Gr w v w1 v1) := by
  refine ⟨?_, hgr1⟩
  rw [H.out.2.1]
  simpa using hown1
 clear hown1 hgr1 hC
 go_wp2_with fail
 go_loopg [0, 5] n (fun g1 vv vi wr => ∃ (k : Nat), vi = .int .i64 k ∧ k ≤ n ∧ n - k ≤ g1 ∧ Aside (Bs w0.heap.size wr vv (l ++ (putI es.length 4 ++ (es.take k).flatMap (fun e => entB (pe e)))) ∧ Gr w v wr vv))
 case atStart => exact ⟨0, rfl, Nat.zero_le _, nrQ _, S1⟩
 case round =>
  clear S1
  obtain ⟨k, rfl, hk, hg1, SK⟩ := hrel
  have HBW : Aside (Below w0.heap.size w0 wr) := H.out.2.2.1.trans (SK.out.2.below H.out.2.2.2 H.out.2.2.1.size)
  by_cases hlt : k < n
  ·have hltz : (k : Int) < (n : Int) := by omega
   have hkl : k < es.length := by rw [H.out.2.1]; exact hlt
   obtain ⟨b, off, ha, hc0⟩ := H.out.1.get hkl
   subst ha
   obtain ⟨r0, r1, r2⟩ := hc0 k hkl
   have HT : Hid ((es.take (k + 1)).flatMap (fun e => entB (pe e)) = (es.take k).flatMap (fun e => entB (pe e)) ++ entB (pe (etn es k))) := by show _ = _; rw [take_etn es k hkl, List.flatMap_append]; simp
   have hlen2 : (l ++ (putI es.length 4 ++ (es.take k).flatMap (fun e => entB (pe e)))).length + (4 + (factsB ((etn es k).fs.map pf)).length) ≤ 900000000 := by
    have h1 := flat_take (fun e => entB (pe e)) es (k + 1)
    rw [HT.out, laQ] at h1
    have e2 : (entB (pe (etn es k))).length = 4 + (factsB ((etn es k).fs.map pf)).length := by unfold entB; rw [laQ, putI_len]; rfl
    rw [e2] at h1
    simp only [laQ, putI_len]
    omega
   generalize hD : l ++ (putI es.length 4 ++ (es.take k).flatMap (fun e => entB (pe e))) = D at SK hlen2
   have HD : Hid (l ++ (putI es.length 4 ++ (es.take k).flatMap (fun e => entB (pe e))) = D) := hD
   clear hD hc0
   have HF : Hid (entB (pe (etn es k)) = putI (etn es k).t 4 ++ factsB ((etn es k).fs.map pf)) := rfl
   have KO : Aside (FactsIn w0 (etn es k).a (etn es k).fs) := r2.mem
   have r2n : 0 ≤ (etn es k).t ∧ (etn es k).t ≤ 4294967295 := r2.num
   have hfl := HFL.out _ (etn_mem hkl)
   clear r2
   have hq : ∀ W, Below w0.heap.size w0 W → W.cell? ⟨b, off + k * 2, none⟩ = some (.int .u32 (etn es k).t) ∧ W.cell? ⟨b, off + k * 2 + 1, none⟩ = some (.slice (etn es k).a (etn es k).fs.length (etn es k).cap) := fun W hW => ⟨(hW.cell (p := ⟨b, off + k * 2, none⟩) (cell_lt r0)).trans r0, (hW.cell (p := ⟨b, off + k * 2 + 1, none⟩) (cell_lt r1)).trans r1⟩
   clear r0 r1
   generalize (etn es k).a = fa at hq KO
   generalize (etn es k).cap = fcap at hq
   generalize (etn es k).fs = ff at hq KO hlen2 HF hfl
   generalize (etn es k).t = ft at hq HF r2n
   obtain ⟨m, hm2⟩ : ∃ m, ff.length = m := ⟨_, rfl⟩
   have HM : Hid (ff.length = m) := hm2
   rw [hm2] at hq hfl
   have HQ : Aside (∀ W, Below w0.heap.size w0 W → W.cell? ⟨b, off + k * 2, none⟩ = some (.int .u32 ft) ∧ W.cell? ⟨b, off + k * 2 + 1, none⟩ = some (.slice fa m fcap)) := hq
   obtain ⟨r0, r1⟩ := hq wr HBW.out
   have hC := putW_any w0.heap.size 4 ft ft (by omega) (by omega) _ _ wr SK.out.1 HBW.out.size (by omega)
   have hC' := putW_any w0.heap.size 4 ft (IntKind.u64.wrap ft) (wrap_mod _) (by omega) _ _ wr SK.out.1 HBW.out.size (by omega)
   clear hm2 hq
   go_wp2_with (go_at_call 56; (first | refine hC.mono ?_ | refine hC'.mono ?_); rintro e w2 ⟨v2, rfl, hown2, hgr2⟩; refine Hid.out ?_)
   refine hid ?_
   have HBW2 : Aside (Below w0.heap.size w0 w2) := HBW.out.trans (hgr2.below SK.out.1 HBW.out.size)
   have hC2 := refFacts_any w0 fa ff m fcap KO.out HM.out w2 v2 _ HBW2.out hown2 hfl (by simp only [laQ, putI_len]; omega)
   obtain ⟨r3, r4⟩ := HQ.out w2 HBW2.out
   have hG : Gr w v w2 v2 := SK.out.2.trans hgr2
   clear hC hC' r0 r1 hown2 hgr2
   go_wp2_with (go_at_call 58; refine hC2.mono ?_; rintro e w3 ⟨v3, rfl, hown3, hgr3⟩; refine Hid.out ?_)
   refine hid ?_
   have S3 : Aside (Bs w0.heap.size w3 v3 (l ++ (putI es.length 4 ++ (es.take (k + 1)).flatMap (fun e => entB (pe e)))) ∧ Gr w v w3 v3) := by
    refine ⟨?_, hG.trans hgr3⟩
    rw [HT.out, ← apQ (putI _ _), ← apQ l, HD.out, HF.out, ← apQ]
    exact hown3
   clear hown3 hgr3 hC2 r3 r4
   go_wp2
   go_roundg (n - (k + 1))
   case measure => omega
   case rel => exact ⟨k + 1, by go_num, by omega, by omega, S3⟩
  ·have hltz : ¬ (k : Int) < (n : Int) := by omega
   have S2 : Aside (Bs w0.heap.size wr u0 (l ++ entsB (es.map pe)) ∧ Gr w v wr u0) := by
    have h := SK.out
    rw [List.take_of_length_le (by rw [H.out.2.1]; omega), ← E.out] at h
    exact h
   clear SK
   go_wp2
   go_ret
   exact ⟨_, rfl, S2.out.1, S2.out.2⟩
def hasT (l : List UInt8) (k : Nat) (c : Nat) : Bool := (l.take k).any fun y => decide (y.toNat = c)
def byt (l : List UInt8) (k : Nat) : Int := ((l.getD k 0).toNat : Int)
theorem hasT_succ {l : List UInt8} {k : Nat} (c : Nat) (h : k < l.length) : hasT l (k + 1) c = (hasT l k c || decide (byt l k = (c : Int))) := by
 unfold hasT byt
 rw [List.take_succ_eq_append_getElem h, List.any_append]
 simp [h]
 congr 1
 exact decide_eq_decide.2 ⟨fun h => by omega, fun h => by omega⟩
theorem bval {a b : Bool} (h : a = b) : Value.bool a = Value.bool b := by rw [h]
theorem str_index (l : List UInt8) (k : Nat) (h : k < l.length) (w : World) : (Instr.index 9 (.string ⟨l.toArray⟩) (.int .i64 (k : Int))).run Tryz.prog w = .ok (.int .u8 (byt l k)) w := by
 rw [run_index_string w 9 ⟨l.toArray⟩ .i64 k Tryz.underlying9]
 rw [dif_pos ⟨by omega, by show (k : Int) < ((l.toArray).size : Nat); simp; omega⟩]
 unfold byt
 have e : ({ data := l.toArray } : ByteArray)[(k : Int).toNat]'(by show (k : Int).toNat < (l.toArray).size; simp; omega) = l.getD k 0 := by
  show (l.toArray)[(k : Int).toNat]'(by simp; omega) = _
  simp [h]
 rw [e]

def bareB (id at_ : Int) (nn fn : Nat) (epoch : Int) (sn : Nat) (frm til : Int) (en : Nat) (l : List UInt8) : Bool :=
 (decide (id = 0) || hasT l l.length 73) && ((decide (at_ = 0) || hasT l l.length 65) && ((decide (nn = 0) || hasT l l.length 78) && ((decide (fn = 0) || hasT l l.length 70) && (((decide (epoch = 0) && decide (sn = 0)) || hasT l l.length 77) && ((decide (frm = 0) && (decide (til = 0) && decide (en = 0))) || hasT l l.length 82)))))

theorem bare_val (kind id at_ epoch frm til : Int) (na fa sa ea : Option Addr) (nn nc fn fc sn sc en ec : Nat) (l : List UInt8) (n : Nat) (hn : l.length = n) (hm : n ≤ 100) (w : World) :
  Calls Tryz.prog 81 #[.agg #[.int .u8 kind, .int .u32 id, .int .u32 at_, .slice na nn nc, .slice fa fn fc, .int .u32 epoch, .slice sa sn sc, .int .i64 frm, .int .i64 til, .slice ea en ec], .string ⟨l.toArray⟩] w fun e w' => e = .returned (.bool (bareB id at_ nn fn epoch sn frm til en l)) ∧ Below w.heap.size w w' := by
 have hsz : (⟨l.toArray⟩ : ByteArray).size = n := by show (l.toArray).size = n; simp [hn]
 have HN : Hid (l.length = n) := hn
 have hB : Below w.heap.size w (w.alloc (.cells #[.int .u8 kind, .int .u32 id, .int .u32 at_, .slice na nn nc, .slice fa fn fc, .int .u32 epoch, .slice sa sn sc, .int .i64 frm, .int .i64 til, .slice ea en ec] 46)) := (Below.refl _ _).alloc (nrQ _) _
 have hx := Boxed.new w #[.int .u8 kind, .int .u32 id, .int .u32 at_, .slice na nn nc, .slice fa fn fc, .int .u32 epoch, .slice sa sn sc, .int .i64 frm, .int .i64 til, .slice ea en ec] 46
 clear hn
 go_enter Tryz.func81, Tryz.ntmps81
 go_upto_region 1 with fail
 generalize (w.alloc (.cells #[.int .u8 kind, .int .u32 id, .int .u32 at_, .slice na nn nc, .slice fa fn fc, .int .u32 epoch, .slice sa sn sc, .int .i64 frm, .int .i64 til, .slice ea en ec] 46)) = w1 at hB hx ⊢
 have HB : Aside (Below w.heap.size w w1) := hB
 have q1 := hx.cell (j := 1) rfl
 have q2 := hx.cell (j := 2) rfl
 have q3 := hx.cell (j := 3) rfl
 have q4 := hx.cell (j := 4) rfl
 have q5 := hx.cell (j := 5) rfl
 have q6 := hx.cell (j := 6) rfl
 have q7 := hx.cell (j := 7) rfl
 have q8 := hx.cell (j := 8) rfl
 have q9 := hx.cell (j := 9) rfl
 clear hx hB
 go_upto_region 1 with fail
 go_cut [5] from 12 to 50 (fun t wx => t = .bool (decide (id = 0)) ∧ wx = w1)
 case first =>
  by_cases c0 : id = 0
  rotate_left
  ·have c0' : (id == 0) = false := by simpa using c0
   have HE : Hid (¬ id = 0) := c0
   clear c0
   go_wp2_with fail
   go_meet
   case rel => exact ⟨bval (by have := HE.out; simp [this]), rfl⟩
  have c0' : (id == 0) = true := by simpa using c0
  have HE0 : Hid (id = 0) := c0
  clear c0
  go_wp2_with fail
  go_meet
  case rel => exact ⟨bval (by simp [show id = 0 from HE0.out]), rfl⟩
 case rest =>
  obtain ⟨rfl, hwc⟩ := hcut
  have hwc2 := hwc.symm
  clear hwc
  subst hwc2
  go_upto_region 2 with fail
  go_cut [6] from 12 to 50 (fun t wx => t = .bool (decide (at_ = 0)) ∧ wx = w1)
  case first =>
   by_cases c0 : at_ = 0
   rotate_left
   ·have c0' : (at_ == 0) = false := by simpa using c0
    have HE : Hid (¬ at_ = 0) := c0
    clear c0
    go_wp2_with fail
    go_meet
    case rel => exact ⟨bval (by have := HE.out; simp [this]), rfl⟩
   have c0' : (at_ == 0) = true := by simpa using c0
   have HE0 : Hid (at_ = 0) := c0
   clear c0
   go_wp2_with fail
   go_meet
   case rel => exact ⟨bval (by simp [show at_ = 0 from HE0.out]), rfl⟩
  case rest =>
   obtain ⟨rfl, hwc⟩ := hcut
   have hwc2 := hwc.symm
   clear hwc
   subst hwc2
   go_upto_region 3 with fail
   go_cut [7] from 12 to 50 (fun t wx => t = .bool (decide (nn = 0)) ∧ wx = w1)
   case first =>
    by_cases c0 : nn = 0
    rotate_left
    ·have c0' : (nn == 0) = false := by simpa using c0
     have c0'' : (((nn : Nat) : Int) == 0) = false := by simp; omega
     have HE : Hid (¬ nn = 0) := c0
     clear c0
     go_wp2_with fail
     go_meet
     case rel => exact ⟨bval (by have := HE.out; simp [this]), rfl⟩
    have c0' : (nn == 0) = true := by simpa using c0
    have c0'' : (((nn : Nat) : Int) == 0) = true := by simp; omega
    have HE0 : Hid (nn = 0) := c0
    clear c0
    go_wp2_with fail
    go_meet
    case rel => exact ⟨bval (by simp [show nn = 0 from HE0.out]), rfl⟩
   case rest =>
    obtain ⟨rfl, hwc⟩ := hcut
    have hwc2 := hwc.symm
    clear hwc
    subst hwc2
    go_upto_region 4 with fail
    go_cut [8] from 12 to 50 (fun t wx => t = .bool (decide (fn = 0)) ∧ wx = w1)
    case first =>
     by_cases c0 : fn = 0
     rotate_left
     ·have c0' : (fn == 0) = false := by simpa using c0
      have c0'' : (((fn : Nat) : Int) == 0) = false := by simp; omega
      have HE : Hid (¬ fn = 0) := c0
      clear c0
      go_wp2_with fail
      go_meet
      case rel => exact ⟨bval (by have := HE.out; simp [this]), rfl⟩
     have c0' : (fn == 0) = true := by simpa using c0
     have c0'' : (((fn : Nat) : Int) == 0) = true := by simp; omega
     have HE0 : Hid (fn = 0) := c0
     clear c0
     go_wp2_with fail
     go_meet
     case rel => exact ⟨bval (by simp [show fn = 0 from HE0.out]), rfl⟩
    case rest =>
     obtain ⟨rfl, hwc⟩ := hcut
     have hwc2 := hwc.symm
     clear hwc
     subst hwc2
     go_upto_region 5 with fail
     go_cut [9] from 12 to 50 (fun t wx => t = .bool (decide (epoch = 0) && decide (sn = 0)) ∧ wx = w1)
     case first =>
      by_cases c0 : epoch = 0
      rotate_left
      ·have c0' : (epoch == 0) = false := by simpa using c0
       have HE : Hid (¬ epoch = 0) := c0
       clear c0
       go_wp2_with fail
       go_meet
       case rel => exact ⟨bval (by have := HE.out; simp [this]), rfl⟩
      have c0' : (epoch == 0) = true := by simpa using c0
      have HE0 : Hid (epoch = 0) := c0
      clear c0
      by_cases c1 : sn = 0
      rotate_left
      ·have c1' : (sn == 0) = false := by simpa using c1
       have c1'' : (((sn : Nat) : Int) == 0) = false := by simp; omega
       have HE : Hid (¬ sn = 0) := c1
       clear c1
       go_wp2_with fail
       go_meet
       case rel => exact ⟨bval (by have := HE.out; simp [this]), rfl⟩
      have c1' : (sn == 0) = true := by simpa using c1
      have c1'' : (((sn : Nat) : Int) == 0) = true := by simp; omega
      have HE1 : Hid (sn = 0) := c1
      clear c1
      go_wp2_with fail
      go_meet
      case rel => exact ⟨bval (by simp [show epoch = 0 from HE0.out, show sn = 0 from HE1.out]), rfl⟩
     case rest =>
      obtain ⟨rfl, hwc⟩ := hcut
      have hwc2 := hwc.symm
      clear hwc
      subst hwc2
      go_upto_region 6 with fail
      go_cut [10] from 12 to 50 (fun t wx => t = .bool (decide (frm = 0) && (decide (til = 0) && decide (en = 0))) ∧ wx = w1)
      case first =>
       by_cases c0 : frm = 0
       rotate_left
       ·have c0' : (frm == 0) = false := by simpa using c0
        have HE : Hid (¬ frm = 0) := c0
        clear c0
        go_wp2_with fail
        go_meet
        case rel => exact ⟨bval (by have := HE.out; simp [this]), rfl⟩
       have c0' : (frm == 0) = true := by simpa using c0
       have HE0 : Hid (frm = 0) := c0
       clear c0
       by_cases c1 : til = 0
       rotate_left
       ·have c1' : (til == 0) = false := by simpa using c1
        have HE : Hid (¬ til = 0) := c1
        clear c1
        go_wp2_with fail
        go_meet
        case rel => exact ⟨bval (by have := HE.out; simp [this]), rfl⟩
       have c1' : (til == 0) = true := by simpa using c1
       have HE1 : Hid (til = 0) := c1
       clear c1
       by_cases c2 : en = 0
       rotate_left
       ·have c2' : (en == 0) = false := by simpa using c2
        have c2'' : (((en : Nat) : Int) == 0) = false := by simp; omega
        have HE : Hid (¬ en = 0) := c2
        clear c2
        go_wp2_with fail
        go_meet
        case rel => exact ⟨bval (by have := HE.out; simp [this]), rfl⟩
       have c2' : (en == 0) = true := by simpa using c2
       have c2'' : (((en : Nat) : Int) == 0) = true := by simp; omega
       have HE2 : Hid (en = 0) := c2
       clear c2
       go_wp2_with fail
       go_meet
       case rel => exact ⟨bval (by simp [show frm = 0 from HE0.out, show til = 0 from HE1.out, show en = 0 from HE2.out]), rfl⟩
      case rest =>
       obtain ⟨rfl, hwc⟩ := hcut
       have hwc2 := hwc.symm
       clear hwc
       subst hwc2
       obtain ⟨zi, za, zn, zf, zm, ze, hzi, hza, hzn, hzf, hzm, hze⟩ : ∃ zi za zn zf zm ze : Bool, (decide (id = 0)) = zi ∧ (decide (at_ = 0)) = za ∧ (decide (nn = 0)) = zn ∧ (decide (fn = 0)) = zf ∧ (decide (epoch = 0) && decide (sn = 0)) = zm ∧ (decide (frm = 0) && (decide (til = 0) && decide (en = 0))) = ze := ⟨_, _, _, _, _, _, rfl, rfl, rfl, rfl, rfl, rfl⟩
       rw [hzi, hza, hzn, hzf, hzm, hze]
       have HZ : Hid (bareB id at_ nn fn epoch sn frm til en l = ((zi || hasT l n 73) && ((za || hasT l n 65) && ((zn || hasT l n 78) && ((zf || hasT l n 70) && ((zm || hasT l n 77) && (ze || hasT l n 82))))))) := by show _ = _; unfold bareB; rw [hzi, hza, hzn, hzf, hzm, hze, HN.out]
       clear hzi hza hzn hzf hzm hze
       go_wp2_with fail
       go_loopg [5, 6, 7, 8, 9, 10, 11] n (fun g1 vi va vn vf vm ve vk wr => ∃ (k : Nat), vk = .int .i64 k ∧ k ≤ n ∧ n - k ≤ g1 ∧ wr = w1 ∧ vi = .bool (zi || hasT l k 73) ∧ va = .bool (za || hasT l k 65) ∧ vn = .bool (zn || hasT l k 78) ∧ vf = .bool (zf || hasT l k 70) ∧ vm = .bool (zm || hasT l k 77) ∧ ve = .bool (ze || hasT l k 82))
       case atStart => exact ⟨0, rfl, Nat.zero_le _, nrQ _, rfl, by simp [hasT], by simp [hasT], by simp [hasT], by simp [hasT], by simp [hasT], by simp [hasT]⟩
       case round =>
        obtain ⟨k, rfl, hk, hg1, hwr, rfl, rfl, rfl, rfl, rfl, rfl⟩ := hrel
        have hwr2 := hwr.symm
        clear hwr
        subst hwr2
        by_cases hlt : k < n
        ·have hltz : (k : Int) < (n : Int) := by omega
         have hix := str_index l k (by rw [HN.out]; exact hlt) w1
         have Hi : Hid ((zi || hasT l (k + 1) 73) = ((zi || hasT l k 73) || decide (byt l k = 73))) := by show _ = _; rw [hasT_succ 73 (by rw [HN.out]; exact hlt), Bool.or_assoc]; rfl
         have Ha : Hid ((za || hasT l (k + 1) 65) = ((za || hasT l k 65) || decide (byt l k = 65))) := by show _ = _; rw [hasT_succ 65 (by rw [HN.out]; exact hlt), Bool.or_assoc]; rfl
         have Hn : Hid ((zn || hasT l (k + 1) 78) = ((zn || hasT l k 78) || decide (byt l k = 78))) := by show _ = _; rw [hasT_succ 78 (by rw [HN.out]; exact hlt), Bool.or_assoc]; rfl
         have Hf : Hid ((zf || hasT l (k + 1) 70) = ((zf || hasT l k 70) || decide (byt l k = 70))) := by show _ = _; rw [hasT_succ 70 (by rw [HN.out]; exact hlt), Bool.or_assoc]; rfl
         have Hm : Hid ((zm || hasT l (k + 1) 77) = ((zm || hasT l k 77) || decide (byt l k = 77))) := by show _ = _; rw [hasT_succ 77 (by rw [HN.out]; exact hlt), Bool.or_assoc]; rfl
         have He : Hid ((ze || hasT l (k + 1) 82) = ((ze || hasT l k 82) || decide (byt l k = 82))) := by show _ = _; rw [hasT_succ 82 (by rw [HN.out]; exact hlt), Bool.or_assoc]; rfl
         generalize (zi || hasT l k 73) = bi at Hi ⊢
         generalize (za || hasT l k 65) = ba at Ha ⊢
         generalize (zn || hasT l k 78) = bn at Hn ⊢
         generalize (zf || hasT l k 70) = bf at Hf ⊢
         generalize (zm || hasT l k 77) = bm at Hm ⊢
         generalize (ze || hasT l k 82) = be at He ⊢
         generalize byt l k = y at *
         go_upto_region 10 with fail
         go_cut [5] from 51 to 98 (fun t wx => t = .bool (bi || decide (y = 73)) ∧ wx = w1)
         case first =>
          cases bi with
          | true =>
           go_wp2_with fail
           go_meet
           case rel => exact ⟨rfl, rfl⟩
          | false =>
           by_cases hy : y = 73
           ·have hy' : (y == 73) = true := by simpa using hy
            have HY : Hid (y = 73) := hy
            clear hy
            go_wp2_with fail
            go_meet
            case rel => exact ⟨bval (by simp [show y = 73 from HY.out]), rfl⟩
           ·have hy' : (y == 73) = false := by simpa using hy
            have HY : Hid (¬ y = 73) := hy
            clear hy
            go_wp2_with fail
            go_meet
            case rel => exact ⟨bval (by simp [show ¬ y = 73 from HY.out]), rfl⟩
         case rest =>
          obtain ⟨rfl, hwc⟩ := hcut
          have hwc2 := hwc.symm
          clear hwc
          subst hwc2
          go_upto_region 11 with fail
          go_cut [6] from 51 to 98 (fun t wx => t = .bool (ba || decide (y = 65)) ∧ wx = w1)
          case first =>
           cases ba with
           | true =>
            go_wp2_with fail
            go_meet
            case rel => exact ⟨rfl, rfl⟩
           | false =>
            by_cases hy : y = 65
            ·have hy' : (y == 65) = true := by simpa using hy
             have HY : Hid (y = 65) := hy
             clear hy
             go_wp2_with fail
             go_meet
             case rel => exact ⟨bval (by simp [show y = 65 from HY.out]), rfl⟩
            ·have hy' : (y == 65) = false := by simpa using hy
             have HY : Hid (¬ y = 65) := hy
             clear hy
             go_wp2_with fail
             go_meet
             case rel => exact ⟨bval (by simp [show ¬ y = 65 from HY.out]), rfl⟩
          case rest =>
           obtain ⟨rfl, hwc⟩ := hcut
           have hwc2 := hwc.symm
           clear hwc
           subst hwc2
           go_upto_region 12 with fail
           go_cut [7] from 51 to 98 (fun t wx => t = .bool (bn || decide (y = 78)) ∧ wx = w1)
           case first =>
            cases bn with
            | true =>
             go_wp2_with fail
             go_meet
             case rel => exact ⟨rfl, rfl⟩
            | false =>
             by_cases hy : y = 78
             ·have hy' : (y == 78) = true := by simpa using hy
              have HY : Hid (y = 78) := hy
              clear hy
              go_wp2_with fail
              go_meet
              case rel => exact ⟨bval (by simp [show y = 78 from HY.out]), rfl⟩
             ·have hy' : (y == 78) = false := by simpa using hy
              have HY : Hid (¬ y = 78) := hy
              clear hy
              go_wp2_with fail
              go_meet
              case rel => exact ⟨bval (by simp [show ¬ y = 78 from HY.out]), rfl⟩
           case rest =>
            obtain ⟨rfl, hwc⟩ := hcut
            have hwc2 := hwc.symm
            clear hwc
            subst hwc2
            go_upto_region 13 with fail
            go_cut [8] from 51 to 98 (fun t wx => t = .bool (bf || decide (y = 70)) ∧ wx = w1)
            case first =>
             cases bf with
             | true =>
              go_wp2_with fail
              go_meet
              case rel => exact ⟨rfl, rfl⟩
             | false =>
              by_cases hy : y = 70
              ·have hy' : (y == 70) = true := by simpa using hy
               have HY : Hid (y = 70) := hy
               clear hy
               go_wp2_with fail
               go_meet
               case rel => exact ⟨bval (by simp [show y = 70 from HY.out]), rfl⟩
              ·have hy' : (y == 70) = false := by simpa using hy
               have HY : Hid (¬ y = 70) := hy
               clear hy
               go_wp2_with fail
               go_meet
               case rel => exact ⟨bval (by simp [show ¬ y = 70 from HY.out]), rfl⟩
            case rest =>
             obtain ⟨rfl, hwc⟩ := hcut
             have hwc2 := hwc.symm
             clear hwc
             subst hwc2
             go_upto_region 14 with fail
             go_cut [9] from 51 to 98 (fun t wx => t = .bool (bm || decide (y = 77)) ∧ wx = w1)
             case first =>
              cases bm with
              | true =>
               go_wp2_with fail
               go_meet
               case rel => exact ⟨rfl, rfl⟩
              | false =>
               by_cases hy : y = 77
               ·have hy' : (y == 77) = true := by simpa using hy
                have HY : Hid (y = 77) := hy
                clear hy
                go_wp2_with fail
                go_meet
                case rel => exact ⟨bval (by simp [show y = 77 from HY.out]), rfl⟩
               ·have hy' : (y == 77) = false := by simpa using hy
                have HY : Hid (¬ y = 77) := hy
                clear hy
                go_wp2_with fail
                go_meet
                case rel => exact ⟨bval (by simp [show ¬ y = 77 from HY.out]), rfl⟩
             case rest =>
              obtain ⟨rfl, hwc⟩ := hcut
              have hwc2 := hwc.symm
              clear hwc
              subst hwc2
              cases be with
              | true =>
               go_wp2
               go_roundg (n - (k + 1))
               case measure => omega
               case rel => exact ⟨k + 1, by go_num, by omega, by omega, rfl, bval (show _ = _ from Hi.out).symm, bval (show _ = _ from Ha.out).symm, bval (show _ = _ from Hn.out).symm, bval (show _ = _ from Hf.out).symm, bval (show _ = _ from Hm.out).symm, bval (by rw [show _ = _ from He.out]; simp)⟩
              | false =>
               by_cases hy : y = 82
               ·have hy' : (y == 82) = true := by simpa using hy
                have HY : Hid (y = 82) := hy
                clear hy
                go_wp2
                go_roundg (n - (k + 1))
                case measure => omega
                case rel => exact ⟨k + 1, by go_num, by omega, by omega, rfl, bval (show _ = _ from Hi.out).symm, bval (show _ = _ from Ha.out).symm, bval (show _ = _ from Hn.out).symm, bval (show _ = _ from Hf.out).symm, bval (show _ = _ from Hm.out).symm, bval (by rw [show _ = _ from He.out]; simp [show y = 82 from HY.out])⟩
               ·have hy' : (y == 82) = false := by simpa using hy
                have HY : Hid (¬ y = 82) := hy
                clear hy
                go_wp2
                go_roundg (n - (k + 1))
                case measure => omega
                case rel => exact ⟨k + 1, by go_num, by omega, by omega, rfl, bval (show _ = _ from Hi.out).symm, bval (show _ = _ from Ha.out).symm, bval (show _ = _ from Hn.out).symm, bval (show _ = _ from Hf.out).symm, bval (show _ = _ from Hm.out).symm, bval (by rw [show _ = _ from He.out]; simp [show ¬ y = 82 from HY.out])⟩
        ·have hltz : ¬ (k : Int) < (n : Int) := by omega
         have hke : n = k := by omega
         rw [hke] at HZ
         generalize (zi || hasT l k 73) = bi at HZ ⊢
         generalize (za || hasT l k 65) = ba at HZ ⊢
         generalize (zn || hasT l k 78) = bn at HZ ⊢
         generalize (zf || hasT l k 70) = bf at HZ ⊢
         generalize (zm || hasT l k 77) = bm at HZ ⊢
         generalize (ze || hasT l k 82) = be at HZ ⊢
         cases bi with
         | false =>
          go_wp2
          go_ret
          exact ⟨ret_bool (by rw [show _ = _ from HZ.out]; simp), HB.out⟩
         | true =>
          cases ba with
          | false =>
           go_wp2
           go_ret
           exact ⟨ret_bool (by rw [show _ = _ from HZ.out]; simp), HB.out⟩
          | true =>
           cases bn with
           | false =>
            go_wp2
            go_ret
            exact ⟨ret_bool (by rw [show _ = _ from HZ.out]; simp), HB.out⟩
           | true =>
            cases bf with
            | false =>
             go_wp2
             go_ret
             exact ⟨ret_bool (by rw [show _ = _ from HZ.out]; simp), HB.out⟩
            | true =>
             cases bm with
             | false =>
              go_wp2
              go_ret
              exact ⟨ret_bool (by rw [show _ = _ from HZ.out]; simp), HB.out⟩
             | true =>
              cases be with
              | false =>
               go_wp2
               go_ret
               exact ⟨ret_bool (by rw [show _ = _ from HZ.out]; simp), HB.out⟩
              | true =>
               go_wp2
               go_ret
               exact ⟨ret_bool (by rw [show _ = _ from HZ.out]; simp), HB.out⟩
theorem refSoundNodes_any (a : Option Addr) (n c : Nat) (l : List Int) (w : World) (hI : Ints w a l) (hn : l.length = n) (hm : n ≤ 9223372036854775807) :
  Calls Tryz.prog 82 #[.slice a n c] w fun e w' => e = .returned (.bool (nodesOk l)) ∧ Below w.heap.size w w' := by
 have HI : Aside (Ints w a l ∧ l.length = n) := ⟨hI, hn⟩
 clear hI hn
 go_enter Tryz.func82, Tryz.ntmps82
 go_wp2_with fail
 go_loopg [3] n (fun g1 vi wr => ∃ (k : Nat), vi = .int .i64 k ∧ k ≤ n ∧ n - k ≤ g1 ∧ Aside (Below w.heap.size w wr ∧ ∀ i, i < k → ndGood l i))
 case atStart => exact ⟨0, rfl, Nat.zero_le _, nrQ _, Below.refl _ _, fun i hi => by omega⟩
 case round =>
  obtain ⟨k, rfl, hk, hg1, SK⟩ := hrel
  by_cases hlt : k < n
  ·have hltz : (k : Int) < (n : Int) := by omega
   have hkl : k < l.length := by rw [HI.out.2]; exact hlt
   obtain ⟨b, off, ha, hc⟩ := (HI.out.1.keep SK.out.1).get hkl
   subst ha
   have r0 := hc k hkl
   by_cases h0 : nth l k < 0
   ·have E : Hid (nodesOk l = false) := nodesOk_not hkl fun h => by have := h.1; omega
    generalize nth l k = x at r0 h0
    have d0 : decide (x < 0) = true := decide_eq_true h0
    clear hc
    go_wp2_with fail
    go_quiet (fail)
    have SB : Aside (Below w.heap.size w (wr.drewN nq)) := below_drewN SK.out.1 nq
    go_wp2
    go_ret
    exact ⟨ret_bool E.out.symm, SB.out⟩
   by_cases h5 : 5 < nth l k
   ·have E : Hid (nodesOk l = false) := nodesOk_not hkl fun h => by have := h.1; omega
    generalize nth l k = x at r0 h0 h5
    have d0 : decide (x < 0) = false := decide_eq_false h0
    have d1 : decide (5 < x) = true := decide_eq_true h5
    clear hc
    go_wp2_with fail
    go_quiet (fail)
    have SB : Aside (Below w.heap.size w (wr.drewN nq)) := below_drewN SK.out.1 nq
    go_wp2
    go_ret
    exact ⟨ret_bool E.out.symm, SB.out⟩
   by_cases hk0 : k = 0
   ·have S2 : Aside (∀ i, i < k + 1 → ndGood l i) := fun i hi => by
     obtain rfl : i = k := by omega
     exact ⟨by omega, fun h => by omega⟩
    generalize nth l k = x at r0 h0 h5
    have d0 : decide (x < 0) = false := decide_eq_false h0
    have d1 : decide (5 < x) = false := decide_eq_false h5
    have hk0z : ¬ (0 : Int) < (k : Int) := by omega
    have d2 : decide ((0 : Int) < (k : Int)) = false := decide_eq_false hk0z
    have d3 : decide (0 < k) = false := decide_eq_false (by omega)
    clear hc hk0
    go_wp2_with fail
    go_quiet (fail)
    have SB : Aside (Below w.heap.size w (wr.drewN nq)) := below_drewN SK.out.1 nq
    go_wp2
    go_roundg (n - (k + 1))
    case measure => omega
    case rel => exact ⟨k + 1, by go_num, by omega, by omega, SB.out, S2.out⟩
   obtain ⟨j, hj⟩ : ∃ j, k = j + 1 := ⟨k - 1, by omega⟩
   have HJ : Hid (k = j + 1) := hj
   have r1 := hc j (by omega)
   have hj1 : (k : Int) - 1 = (j : Int) := by omega
   have hj0 : (0 : Int) < (k : Int) := by omega
   have hjj : (0 : Int) ≤ (j : Int) ∧ (j : Int) < (n : Int) := by omega
   have d2 : decide ((0 : Int) < (k : Int)) = true := decide_eq_true hj0
   have d3 : decide (0 < k) = true := decide_eq_true (by omega)
   clear hj hk0
   by_cases hle : nth l k ≤ nth l j
   ·have E : Hid (nodesOk l = false) := nodesOk_not hkl fun h => by
     have h1 := h.2 (by omega)
     have h2 := HJ.out
     rw [show k - 1 = j by omega] at h1; omega
    generalize nth l k = x at r0 h0 h5 hle
    generalize nth l j = y at r1 hle
    have d0 : decide (x < 0) = false := decide_eq_false h0
    have d1 : decide (5 < x) = false := decide_eq_false h5
    have d4 : decide (x ≤ y) = true := decide_eq_true hle
    clear hc
    go_wp2_with fail
    go_quiet (fail)
    have SB : Aside (Below w.heap.size w (wr.drewN nq)) := below_drewN SK.out.1 nq
    go_wp2
    go_ret
    exact ⟨ret_bool E.out.symm, SB.out⟩
   ·have S2 : Aside (∀ i, i < k + 1 → ndGood l i) := fun i hi => by
     by_cases e : i = k
     ·subst e
      refine ⟨by omega, fun _ => ?_⟩
      rw [show i - 1 = j by have := HJ.out; omega]; omega
     ·exact SK.out.2 i (by omega)
    generalize nth l k = x at r0 h0 h5 hle
    generalize nth l j = y at r1 hle
    have d0 : decide (x < 0) = false := decide_eq_false h0
    have d1 : decide (5 < x) = false := decide_eq_false h5
    have d4 : decide (x ≤ y) = false := decide_eq_false hle
    clear hc
    go_wp2_with fail
    go_quiet (fail)
    have SB : Aside (Below w.heap.size w (wr.drewN nq)) := below_drewN SK.out.1 nq
    go_wp2
    go_roundg (n - (k + 1))
    case measure => omega
    case rel => exact ⟨k + 1, by go_num, by omega, by omega, SB.out, S2.out⟩
  ·have hltz : ¬ (k : Int) < (n : Int) := by omega
   have E : Hid (nodesOk l = true) := (nodesOk_iff l).2 fun i hi => SK.out.2 i (by have := HI.out.2; omega)
   go_wp2
   go_ret
   exact ⟨ret_bool E.out.symm, SK.out.1⟩

theorem refSoundFacts_any (a : Option Addr) (n c : Nat) (fs : List Ft) (w : World) (hI : FactsIn w a fs) (hn : fs.length = n) (hm : n ≤ 9223372036854775807) :
  Calls Tryz.prog 83 #[.slice a n c] w fun e w' => e = .returned (.bool (factsOk (fs.map pf))) ∧ w' = w := by
 have HI : Aside (FactsIn w a fs ∧ fs.length = n) := ⟨hI, hn⟩
 clear hI hn
 go_enter Tryz.func83, Tryz.ntmps83
 go_wp2_with fail
 go_loopg [3] n (fun g1 vi wr => ∃ (k : Nat), vi = .int .i64 k ∧ k ≤ n ∧ n - k ≤ g1 ∧ wr = w ∧ Aside (∀ i, i < k → keyOk (ftn fs i).k = true))
 case atStart => exact ⟨0, rfl, Nat.zero_le _, nrQ _, rfl, fun i hi => by omega⟩
 case round =>
  obtain ⟨k, rfl, hk, hg1, hwr, SK⟩ := hrel
  have hwr2 := hwr.symm
  clear hwr
  subst hwr2
  by_cases hlt : k < n
  ·have hltz : (k : Int) < (n : Int) := by omega
   have hkl : k < fs.length := by rw [HI.out.2]; exact hlt
   obtain ⟨b, off, ha, hc⟩ := HI.out.1.get hkl
   subst ha
   obtain ⟨r0, r1, r2⟩ := hc k hkl
   have KO : Aside (Ints w (ftn fs k).a (ftn fs k).k) := r2.mem
   have hml := r2.len
   have HNO : Aside (keyOk (ftn fs k).k = false → factsOk (fs.map pf) = false) := fun h => factsOk_not (List.mem_map.2 ⟨_, ftn_mem hkl, rfl⟩) h
   have HOK : Aside (keyOk (ftn fs k).k = true → ∀ i, i < k + 1 → keyOk (ftn fs i).k = true) := fun h i hi => by
    by_cases e : i = k
    ·subst e; exact h
    ·exact SK.out i (by omega)
   clear hc r1 r2 SK
   generalize (ftn fs k).a = fa at r0 KO
   generalize (ftn fs k).cap = fcap at r0
   generalize (ftn fs k).k = fk at r0 KO HNO HOK hml
   obtain ⟨m, hm2⟩ : ∃ m, fk.length = m := ⟨_, rfl⟩
   have HM : Hid (fk.length = m) := hm2
   rw [hm2] at r0 hml
   clear hm2
   go_wp2_with fail
   go_loopg [4] m (fun g2 vi wr => ∃ (j : Nat), vi = .int .i64 j ∧ j ≤ m ∧ m - j ≤ g2 ∧ wr = w ∧ Aside (∀ i, i < j → 0 ≤ nth fk i ∧ nth fk i ≤ 9999))
   case atStart => exact ⟨0, rfl, Nat.zero_le _, nrQ _, rfl, fun i hi => by omega⟩
   case round =>
    obtain ⟨j, rfl, hj, hg2, hwr, SJ⟩ := hrel
    have hwr2 := hwr.symm
    clear hwr
    subst hwr2
    by_cases hlt2 : j < m
    ·have hltz2 : (j : Int) < (m : Int) := by omega
     have hjl : j < fk.length := by rw [HM.out]; exact hlt2
     obtain ⟨b2, off2, ha2, hc2⟩ := KO.out.get hjl
     subst ha2
     have p0 := hc2 j hjl
     clear hc2
     by_cases h0 : nth fk j < 0
     ·have E : Hid (factsOk (fs.map pf) = false) := HNO.out (keyOk_not hjl fun h => by omega)
      generalize nth fk j = x at p0 h0
      clear HNO HOK SJ
      go_wp2
      go_ret
      exact ⟨ret_bool E.out.symm, rfl⟩
     by_cases h9 : 9999 < nth fk j
     ·have E : Hid (factsOk (fs.map pf) = false) := HNO.out (keyOk_not hjl fun h => by omega)
      generalize nth fk j = x at p0 h0 h9
      clear HNO HOK SJ
      go_wp2
      go_ret
      exact ⟨ret_bool E.out.symm, rfl⟩
     have S2 : Aside (∀ i, i < j + 1 → 0 ≤ nth fk i ∧ nth fk i ≤ 9999) := fun i hi => by
      by_cases e : i = j
      ·subst e; omega
      ·exact SJ.out i (by omega)
     generalize nth fk j = x at p0 h0 h9
     clear HNO HOK SJ
     go_wp2
     go_roundg (m - (j + 1))
     case measure => omega
     case rel => exact ⟨j + 1, by go_num, by omega, by omega, rfl, S2⟩
    ·have hltz2 : ¬ (j : Int) < (m : Int) := by omega
     by_cases h4 : 4 < m
     ·have h4z : (4 : Int) < (m : Int) := by omega
      have E : Hid (factsOk (fs.map pf) = false) := HNO.out (keyOk_long (by have := HM.out; omega))
      clear HNO HOK SJ
      go_wp2
      go_ret
      exact ⟨ret_bool E.out.symm, rfl⟩
     ·have h4z : ¬ (4 : Int) < (m : Int) := by omega
      have S2 : Aside (∀ i, i < k + 1 → keyOk (ftn fs i).k = true) := HOK.out (keyOk_at (by have := HM.out; omega) fun i hi => SJ.out i (by have := HM.out; omega))
      clear HNO HOK SJ
      go_wp2
      go_roundg (n - (k + 1))
      case measure => omega
      case rel => exact ⟨k + 1, by go_num, by omega, by omega, rfl, S2⟩
  ·have hltz : ¬ (k : Int) < (n : Int) := by omega
   by_cases h200 : n ≤ 200
   ·have h200z : (n : Int) ≤ 200 := by omega
    have E : Hid (factsOk (fs.map pf) = true) := factsOk_all (by have := HI.out.2; simp; omega) fun i hi => by
     have hi2 : i < fs.length := by simpa using hi
     have := SK.out i (by have := HI.out.2; omega)
     rw [ftn_eq hi2] at this
     simpa [pf] using this
    clear SK
    go_wp2
    go_ret
    exact ⟨ret_bool (E.out.symm), rfl⟩
   ·have h200z : ¬ (n : Int) ≤ 200 := by omega
    have E : Hid (factsOk (fs.map pf) = false) := factsOk_long (by have := HI.out.2; simp; omega)
    clear SK
    go_wp2
    go_ret
    exact ⟨ret_bool (E.out.symm), rfl⟩

theorem refSpans_any (a : Option Addr) (n c : Nat) (ss : List PSpan) (w : World) (hI : SpansIn w a ss) (hn : ss.length = n) (hm : n ≤ 9223372036854775807) :
  Calls Tryz.prog 84 #[.slice a n c] w fun e w' => e = .returned (.bool (spansOk ss)) ∧ w' = w := by
 have HI : Aside (SpansIn w a ss ∧ ss.length = n) := ⟨hI, hn⟩
 clear hI hn
 go_enter Tryz.func84, Tryz.ntmps84
 go_wp2_with fail
 go_loopg [3] n (fun g1 vi wr => ∃ (k : Nat), vi = .int .i64 k ∧ k ≤ n ∧ n - k ≤ g1 ∧ wr = w ∧ Aside (∀ i, i < k → (0 ≤ (spn ss i).1 ∧ (spn ss i).1 ≤ 9999) ∧ 0 ≤ (spn ss i).2 ∧ (spn ss i).2 ≤ 5))
 case atStart => exact ⟨0, rfl, Nat.zero_le _, nrQ _, rfl, fun i hi => by omega⟩
 case round =>
  obtain ⟨k, rfl, hk, hg1, rfl, SK⟩ := hrel
  by_cases hlt : k < n
  ·have hltz : (k : Int) < (n : Int) := by omega
   have hkl : k < ss.length := by rw [HI.out.2]; exact hlt
   obtain ⟨b, off, ha, hc⟩ := HI.out.1.get hkl
   subst ha
   obtain ⟨r0, r1, r2⟩ := hc k hkl
   have HNO : Aside (¬ ((0 ≤ (spn ss k).1 ∧ (spn ss k).1 ≤ 9999) ∧ 0 ≤ (spn ss k).2 ∧ (spn ss k).2 ≤ 5) → spansOk ss = false) := fun h => spansOk_not (spn_mem hkl) h
   have HOK : Aside (((0 ≤ (spn ss k).1 ∧ (spn ss k).1 ≤ 9999) ∧ 0 ≤ (spn ss k).2 ∧ (spn ss k).2 ≤ 5) → ∀ i, i < k + 1 → (0 ≤ (spn ss i).1 ∧ (spn ss i).1 ≤ 9999) ∧ 0 ≤ (spn ss i).2 ∧ (spn ss i).2 ≤ 5) := fun h i hi => by
    by_cases e : i = k
    ·subst e; exact h
    ·exact SK.out i (by omega)
   clear hc r2 SK
   generalize (spn ss k).1 = x at r0 HNO HOK
   generalize (spn ss k).2 = y at r1 HNO HOK
   by_cases h0 : x < 0
   ·have E : Hid (spansOk ss = false) := HNO.out fun h => by omega
    clear HNO HOK
    go_wp2
    go_ret
    exact ⟨ret_bool E.out.symm, rfl⟩
   by_cases h9 : 9999 < x
   ·have E : Hid (spansOk ss = false) := HNO.out fun h => by omega
    clear HNO HOK
    go_wp2
    go_ret
    exact ⟨ret_bool E.out.symm, rfl⟩
   by_cases k0 : y < 0
   ·have E : Hid (spansOk ss = false) := HNO.out fun h => by omega
    clear HNO HOK
    go_wp2
    go_ret
    exact ⟨ret_bool E.out.symm, rfl⟩
   by_cases k5 : 5 < y
   ·have E : Hid (spansOk ss = false) := HNO.out fun h => by omega
    clear HNO HOK
    go_wp2
    go_ret
    exact ⟨ret_bool E.out.symm, rfl⟩
   have S2 := HOK.out (by omega)
   have S3 : Aside (∀ i, i < k + 1 → (0 ≤ (spn ss i).1 ∧ (spn ss i).1 ≤ 9999) ∧ 0 ≤ (spn ss i).2 ∧ (spn ss i).2 ≤ 5) := S2
   clear HNO HOK S2
   go_wp2
   go_roundg (n - (k + 1))
   case measure => omega
   case rel => exact ⟨k + 1, by go_num, by omega, by omega, rfl, S3⟩
  ·have hltz : ¬ (k : Int) < (n : Int) := by omega
   by_cases h200 : n ≤ 40
   ·have h200z : (n : Int) ≤ 40 := by omega
    have E : Hid (spansOk ss = true) := spansOk_all (by have := HI.out.2; omega) fun i hi => by
     have := SK.out i (by have := HI.out.2; omega)
     rwa [spn_eq hi] at this
    clear SK
    go_wp2
    go_ret
    exact ⟨ret_bool (E.out.symm), rfl⟩
   ·have h200z : ¬ (n : Int) ≤ 40 := by omega
    have E : Hid (spansOk ss = false) := spansOk_long (by have := HI.out.2; omega)
    clear SK
    go_wp2
    go_ret
    exact ⟨ret_bool (E.out.symm), rfl⟩

theorem refSoundEntries_any (a : Option Addr) (n c : Nat) (es : List Et) (w : World) (hI : EntsIn w a es) (hn : es.length = n) (hm : n ≤ 9223372036854775807) :
  Calls Tryz.prog 85 #[.slice a n c] w fun e w' => e = .returned (.bool (entsOk (es.map pe))) ∧ Below w.heap.size w w' := by
 have HI : Aside (EntsIn w a es ∧ es.length = n) := ⟨hI, hn⟩
 clear hI hn
 go_enter Tryz.func85, Tryz.ntmps85
 go_wp2_with fail
 go_loopg [3] n (fun g1 vi wr => ∃ (k : Nat), vi = .int .i64 k ∧ k ≤ n ∧ n - k ≤ g1 ∧ Aside (Below w.heap.size w wr ∧ ∀ i, i < k → enGood (es.map pe) i))
 case atStart => exact ⟨0, rfl, Nat.zero_le _, nrQ _, Below.refl _ _, fun i hi => by omega⟩
 case round =>
  obtain ⟨k, rfl, hk, hg1, SK⟩ := hrel
  by_cases hlt : k < n
  ·have hltz : (k : Int) < (n : Int) := by omega
   have hkl : k < es.length := by rw [HI.out.2]; exact hlt
   have hkm : k < (es.map pe).length := by simpa using hkl
   obtain ⟨b, off, ha, hc⟩ := (HI.out.1.keep SK.out.1).get hkl
   subst ha
   obtain ⟨r0, r1, r2⟩ := hc k hkl
   obtain ⟨t, ht⟩ : ∃ t, factsOk ((etn es k).fs.map pf) = t := ⟨_, rfl⟩
   have hV : ∀ q, Calls Tryz.prog 83 #[.slice (etn es k).a (etn es k).fs.length (etn es k).cap] (wr.drewN q) fun e w' => e = .returned (.bool t) ∧ w' = wr.drewN q := fun q => by
    have := refSoundFacts_any (etn es k).a (etn es k).fs.length (etn es k).cap (etn es k).fs (wr.drewN q) (r2.mem.keep (below_drewN (Below.refl _ _) q)) rfl r2.len
    rwa [ht] at this
   have HNO : Aside (t = false → entsOk (es.map pe) = false) := fun h => entsOk_not hkm fun hg => by
    have := hg.1
    rw [pen_map hkl] at this
    change factsOk ((etn es k).fs.map pf) = true at this
    rw [ht, h] at this; cases this
   have HOK : Aside (t = true → k = 0 → ∀ i, i < k + 1 → enGood (es.map pe) i) := fun h h0 i hi => by
    obtain rfl : i = k := by omega
    refine ⟨?_, fun h => by omega⟩
    rw [pen_map hkl]; exact ht.trans h
   cases t with
   | false =>
    have E : Hid (entsOk (es.map pe) = false) := HNO.out rfl
    clear hc HNO HOK ht r2
    generalize (etn es k).t = x at r0
    generalize (etn es k).a = d2 at r1 hV
    generalize (etn es k).fs.length = d3 at r1 hV
    generalize (etn es k).cap = d4 at r1 hV
    go_wp2_with fail
    go_quiet ((go_at_call 83; refine Calls.quiet_of_same (hV _)))
    have SB : Aside (Below w.heap.size w (wr.drewN nq)) := below_drewN SK.out.1 nq
    go_wp2
    go_ret
    exact ⟨ret_bool E.out.symm, SB.out⟩
   | true =>
    by_cases hk0 : k = 0
    ·have S2 : Aside (∀ i, i < k + 1 → enGood (es.map pe) i) := HOK.out rfl hk0
     have hk0z : ¬ (0 : Int) < (k : Int) := by omega
     have hk0d : decide ((0 : Int) < (k : Int)) = false := decide_eq_false hk0z
     have hk0e : decide (0 < k) = false := decide_eq_false (by omega)
     clear hc HNO HOK ht r2 hk0
     generalize (etn es k).t = x at r0
     generalize (etn es k).a = d2 at r1 hV
     generalize (etn es k).fs.length = d3 at r1 hV
     generalize (etn es k).cap = d4 at r1 hV
     go_wp2_with fail
     go_quiet ((go_at_call 83; refine Calls.quiet_of_same (hV _)))
     have SB : Aside (Below w.heap.size w (wr.drewN nq)) := below_drewN SK.out.1 nq
     go_wp2
     go_roundg (n - (k + 1))
     case measure => omega
     case rel => exact ⟨k + 1, by go_num, by omega, by omega, SB.out, S2.out⟩
    ·obtain ⟨j, hj⟩ : ∃ j, k = j + 1 := ⟨k - 1, by omega⟩
     have HJ : Hid (k = j + 1) := hj
     have hjl : j < es.length := by omega
     obtain ⟨r3, -, -⟩ := hc j hjl
     have hj1 : (k : Int) - 1 = (j : Int) := by omega
     have hj0 : (0 : Int) < (k : Int) := by omega
     have hk0d : decide ((0 : Int) < (k : Int)) = true := decide_eq_true (by omega)
     have hk0e : decide (0 < k) = true := decide_eq_true (by omega)
     have hjj : (0 : Int) ≤ (j : Int) ∧ (j : Int) < (n : Int) := by omega
     have HG : Aside (enGood (es.map pe) k ↔ (etn es j).t < (etn es k).t) := by
      show _ ↔ _
      unfold enGood
      rw [show k - 1 = j by omega, pen_map hkl, pen_map hjl]
      constructor
      ·intro h; exact h.2 (by omega)
      ·intro h; exact ⟨ht, fun _ => h⟩
     by_cases hle : (etn es k).t ≤ (etn es j).t
     ·have E : Hid (entsOk (es.map pe) = false) := entsOk_not hkm fun h => by have := HG.out.1 h; omega
      have hled : decide ((etn es k).t ≤ (etn es j).t) = true := decide_eq_true hle
      clear hc HNO HOK ht r2 hk0 hj HG hle
      generalize (etn es k).t = x at r0 hled
      generalize (etn es j).t = y at r3 hled
      generalize (etn es k).a = d2 at r1 hV
      generalize (etn es k).fs.length = d3 at r1 hV
      generalize (etn es k).cap = d4 at r1 hV
      go_wp2_with fail
      go_quiet ((go_at_call 83; refine Calls.quiet_of_same (hV _)))
      have SB : Aside (Below w.heap.size w (wr.drewN nq)) := below_drewN SK.out.1 nq
      go_wp2
      go_ret
      exact ⟨ret_bool E.out.symm, SB.out⟩
     ·have S2 : Aside (∀ i, i < k + 1 → enGood (es.map pe) i) := fun i hi => by
       by_cases e : i = k
       ·subst e; exact HG.out.2 (by omega)
       ·exact SK.out.2 i (by omega)
      have hled : decide ((etn es k).t ≤ (etn es j).t) = false := decide_eq_false hle
      clear hc HNO HOK ht r2 hk0 hj HG hle
      generalize (etn es k).t = x at r0 hled
      generalize (etn es j).t = y at r3 hled
      generalize (etn es k).a = d2 at r1 hV
      generalize (etn es k).fs.length = d3 at r1 hV
      generalize (etn es k).cap = d4 at r1 hV
      go_wp2_with fail
      go_quiet ((go_at_call 83; refine Calls.quiet_of_same (hV _)))
      have SB : Aside (Below w.heap.size w (wr.drewN nq)) := below_drewN SK.out.1 nq
      go_wp2
      go_roundg (n - (k + 1))
      case measure => omega
      case rel => exact ⟨k + 1, by go_num, by omega, by omega, SB.out, S2.out⟩
  ·have hltz : ¬ (k : Int) < (n : Int) := by omega
   by_cases h200 : n ≤ 5000
   ·have h200z : (n : Int) ≤ 5000 := by omega
    have E : Hid (entsOk (es.map pe) = true) := entsOk_all (by have := HI.out.2; simp; omega) fun i hi => SK.out.2 i (by have := HI.out.2; simp at hi; omega)
    go_wp2
    go_ret
    exact ⟨ret_bool (E.out.symm), SK.out.1⟩
   ·have h200z : ¬ (n : Int) ≤ 5000 := by omega
    have E : Hid (entsOk (es.map pe) = false) := entsOk_long (by have := HI.out.2; simp; omega)
    go_wp2
    go_ret
    exact ⟨ret_bool (E.out.symm), SK.out.1⟩
end code
end Go.Proofs.YtlcjllgfpfldlaaGreat
