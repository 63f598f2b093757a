/-
  A node, a place, a fact, a span, an entry laid behind bytes: the program's functions.
-/
import Derived.Test.YtlokamblbhooaaaCodeLayAll
namespace Go.Proofs.Ytlokamblbhooaaa.code
open Go.ChangeShapes Go.WideShapes Go.ChangeAt Go.RowKit Go.Deep
open Go.Proofs.Ytlokamblbhooaaa.dims (nth Ints cell_lt vals vals_len vals_get vals_one vals_app own_below own_mono own_out own_apart RowOut ret_bool ret_int)
set_option linter.unusedVariables false
set_option maxRecDepth 100000

theorem box_ne {B : Nat} {W : World} {V : Value} {L : List UInt8} (h : Bs B W V L) : some W.heap.size ≠ V.ownBlock := fun e => by have := (World.ownsRow.lt h _ e.symm).2; omega
theorem box_old {B b : Nat} {W : World} {V : Value} {L : List UInt8} (h : Bs B W V L) (hb : b < B) : some b ≠ V.ownBlock := fun e => by have := (World.ownsRow.lt h _ e.symm).1; omega

theorem layNode_any (w0 : World) (x : Int) (hx : I64 x) : Lays w0 48 (Value.int .i64) (putI · 1) x := by
  intro W V L hb ho hl
  have hC := lay_int w0.heap.size 1 x hx (by omega) V L W ho hb.size (by omega)
  go_enter Try.func48, Try.ntmps48
  go_wp2_with (go_at_call 53; refine hC.mono ?_; rintro e w1 ⟨v1, rfl, h1, h2⟩)
  go_ret
  exact ⟨_, rfl, h1, h2⟩
theorem layPlace_any (w0 : World) (x : Int) (hx : I64 x) : Lays w0 73 (Value.int .i64) (putI · 4) x := by
  intro W V L hb ho hl
  have hC := lay_int w0.heap.size 4 x hx (by omega) V L W ho hb.size (by omega)
  go_enter Try.func73, Try.ntmps73
  go_wp2_with (go_at_call 53; refine hC.mono ?_; rintro e w1 ⟨v1, rfl, h1, h2⟩)
  go_ret
  exact ⟨_, rfl, h1, h2⟩
theorem flat4_len (l : List Int) : (l.flatMap (putI · 4)).length = 4 * l.length := by
  induction l with
  | nil => rfl
  | cons x l ih => rw [List.flatMap_cons, List.length_append, ih, putI_len, List.length_cons]; omega
theorem factB_len (f : PFact) : (factB f).length = 9 + 4 * f.1.length := by
  unfold factB
  rw [List.length_append, List.length_append, putI_len, putI_len, flat4_len]; omega

set_option maxHeartbeats 4000000 in
theorem layFact_any (w0 : World) (f : Ft) (hf : FtOk w0 f) : Lays w0 50 ftV (fun f => factB (pf f)) f := by
  intro W V L hb ho hl
  simp only [factB_len, pf] at hl
  have hb1 : Below W.heap.size W (W.alloc (.cells #[.slice f.a f.k.length f.cap, .int .i64 f.v] 53)) := by (repeat (first | with_reducible exact Below.refl _ _ | (with_reducible refine Below.drew ?_) | (with_reducible refine Below.alloc ?_ (by first | omega | (simp; done) | (simp; omega)) _) | (with_reducible refine Below.setCell ?_ (by first | exact Nat.le_refl _ | omega | (simp; done) | (simp; omega)) _)))
  have hC1 := layAll_int w0 73 (putI · 4) f.a f.k f.k.length f.cap 1 hf.mem rfl (by omega) (fun _ _ => rfl) (fun x hx => layPlace_any w0 x (hf.key x hx)) _ V L (hb.trans (hb1.mono hb.size)) (ho.alloc _) (by omega) (by rw [flat4_len]; omega)
  have H : Aside (FtOk w0 f ∧ Below w0.heap.size w0 W ∧ Bs w0.heap.size W V L) := ⟨hf, hb, ho⟩
  have hne := box_ne ho
  have E : Hid (factB (pf f) = putI f.k.length 1 ++ (f.k.flatMap (putI · 4) ++ putI f.v 8)) := rfl
  show Calls _ _ #[V, .agg #[.slice f.a f.k.length f.cap, .int .i64 f.v]] _ _
  have HN : Aside (I64 f.v) := hf.num
  have hlk : L.length + (9 + 4 * f.k.length) ≤ 60000 := hl
  generalize f.a = fa at hC1
  generalize hk : f.k = fk at hC1 E hlk
  generalize f.cap = fcap at hC1
  generalize hv : f.v = fv at hC1 E HN
  clear hf hb ho hb1 hl hk hv
  go_enter Try.func50, Try.ntmps50
  go_wp2_with (go_at_call 47; refine hC1.mono ?_; rintro e w2 ⟨v2, rfl, h1, g1⟩; refine Hid.out ?_)
  refine hid ?_
  have r1 : w2.cell? ⟨W.heap.size, 1, none⟩ = some (.int .i64 fv) := g1.cell (by simp [go_sem]) hne
  have hG : Gr W V w2 v2 := (Gr.alloc W V _).trans g1
  have hC2 := lay_int64 w0.heap.size 8 fv HN.out (by omega) v2 _ w2 h1 (Nat.le_trans H.out.2.1.size hG.grown.size) (by simp only [List.length_append, putI_len, flat4_len]; omega)
  clear h1 g1 hC1 hne
  go_wp2_with (go_at_call 74; refine hC2.mono ?_; rintro e w3 ⟨v3, rfl, h3, g3⟩)
  go_ret
  refine ⟨_, rfl, ?_, hG.trans g3⟩
  rw [E.out]; simpa [List.append_assoc] using h3

set_option maxHeartbeats 4000000 in
theorem laySpan_any (w0 : World) (s : PSpan) (h1 : I64 s.1) (h2 : I64 s.2) : Lays w0 52 spV spanB s := by
  intro W V L hb ho hl
  obtain ⟨x, y⟩ := s
  have hl2 : L.length + 5 ≤ 60000 := by rw [spanB_len] at hl; exact hl
  have hb1 : Below W.heap.size W (W.alloc (.cells #[.int .i64 x, .int .i64 y] 63)) := by (repeat (first | with_reducible exact Below.refl _ _ | (with_reducible refine Below.drew ?_) | (with_reducible refine Below.alloc ?_ (by first | omega | (simp; done) | (simp; omega)) _) | (with_reducible refine Below.setCell ?_ (by first | exact Nat.le_refl _ | omega | (simp; done) | (simp; omega)) _)))
  have hC1 := lay_int w0.heap.size 4 x h1 (by omega) V L _ (ho.alloc (.cells #[.int .i64 x, .int .i64 y] 63)) (by have := hb.size; simp; omega) (by omega)
  have H : Aside (Below w0.heap.size w0 W ∧ I64 y ∧ Bs w0.heap.size W V L) := ⟨hb, h2, ho⟩
  have hne := box_ne ho
  show Calls _ _ #[V, .agg #[.int .i64 x, .int .i64 y]] _ _
  clear hl ho hb1 h1 h2 hb
  go_enter Try.func52, Try.ntmps52
  go_wp2_with (go_at_call 53; refine hC1.mono ?_; rintro e w2 ⟨v2, rfl, h1, g1⟩; refine Hid.out ?_)
  refine hid ?_
  have r1 : w2.cell? ⟨W.heap.size, 1, none⟩ = some (.int .i64 y) := g1.cell (by simp [go_sem]) hne
  have hG : Gr W V w2 v2 := (Gr.alloc W V _).trans g1
  have hC2 := layNode_any w0 y H.out.2.1 w2 v2 _ (H.out.1.trans (hG.below H.out.2.2 H.out.1.size)) h1 (by simp only [List.length_append, putI_len]; omega)
  clear h1 g1 hC1 hne
  go_wp2_with (go_at_call 48; refine hC2.mono ?_; rintro e w3 ⟨v3, rfl, h3, g3⟩)
  go_ret
  refine ⟨_, rfl, ?_, hG.trans g3⟩
  simpa [List.append_assoc, spanB] using h3

theorem flatF_map (l : List Ft) : (l.map pf).flatMap factB = l.flatMap (fun f => factB (pf f)) := List.flatMap_map _ _ _
theorem flatE_map (l : List Et) : (l.map pe).flatMap entB = l.flatMap (fun e => entB (pe e)) := List.flatMap_map _ _ _
theorem flatF_least (l : List Ft) : l.length ≤ (l.flatMap (fun f => factB (pf f))).length := by
  have := flat_least (e := fun f : Ft => factB (pf f)) (m := 1) (fun x => by have := factB_least (pf x); omega) l
  omega
theorem flatE_least (l : List Et) : l.length ≤ (l.flatMap (fun e => entB (pe e))).length := by
  have := flat_least (e := fun f : Et => entB (pe f)) (m := 1) (fun x => by have := entB_least (pe x); omega) l
  omega
theorem flatS_least (l : List PSpan) : l.length ≤ (l.flatMap spanB).length := by
  have := flat_least (e := spanB) (m := 1) (fun x => by rw [spanB_len]; omega) l
  omega
theorem flatN_len (l : List Int) : (l.flatMap (putI · 1)).length = l.length := by
  induction l with
  | nil => rfl
  | cons x l ih => rw [List.flatMap_cons, List.length_append, ih, putI_len, List.length_cons]; omega
theorem entB_pe (e : Et) : entB (pe e) = putI e.t 4 ++ (putI e.fs.length 4 ++ e.fs.flatMap (fun f => factB (pf f))) := by
  unfold entB factsB pe
  simp only [flatF_map, List.length_map]

set_option maxHeartbeats 4000000 in
theorem layEntry_any (w0 : World) (f : Et) (hf : EtOk w0 f) : Lays w0 55 etV (fun f => entB (pe f)) f := by
  intro W V L hb ho hl
  simp only [entB_pe, List.length_append, putI_len] at hl
  have hfl := flatF_least f.fs
  have hb1 : Below W.heap.size W (W.alloc (.cells #[.int .u32 f.t, .slice f.a f.fs.length f.cap] 56)) := by (repeat (first | with_reducible exact Below.refl _ _ | (with_reducible refine Below.drew ?_) | (with_reducible refine Below.alloc ?_ (by first | omega | (simp; done) | (simp; omega)) _) | (with_reducible refine Below.setCell ?_ (by first | exact Nat.le_refl _ | omega | (simp; done) | (simp; omega)) _)))
  have hC1 := lay_u32 w0.heap.size 4 f.t hf.num (by omega) V L _ (ho.alloc (.cells #[.int .u32 f.t, .slice f.a f.fs.length f.cap] 56)) (by have := hb.size; simp; omega) (by omega)
  have H : Aside (FactsIn w0 f.a f.fs ∧ Below w0.heap.size w0 W ∧ Bs w0.heap.size W V L) := ⟨hf.mem, hb, ho⟩
  have hne := box_ne ho
  have E : Hid (entB (pe f) = putI f.t 4 ++ (putI f.fs.length 4 ++ f.fs.flatMap (fun f => factB (pf f)))) := entB_pe f
  show Calls _ _ #[V, .agg #[.int .u32 f.t, .slice f.a f.fs.length f.cap]] _ _
  generalize f.a = fa at hC1 H
  generalize hk : f.fs = fs at hC1 E hl hfl H
  generalize f.cap = fcap at hC1
  generalize hv : f.t = ft at hC1 E
  obtain ⟨n, hn⟩ : ∃ n, fs.length = n := ⟨_, rfl⟩
  have HNN : Hid (fs.length = n) := hn
  have hfn : n ≤ 60000 := by omega
  rw [hn] at hC1 ⊢
  clear hf hb ho hb1 hk hv hn
  go_enter Try.func55, Try.ntmps55
  go_wp2_with (go_at_call 46; refine hC1.mono ?_; rintro e w2 ⟨v2, rfl, h1, g1⟩; refine Hid.out ?_)
  refine hid ?_
  have r1 : w2.cell? ⟨W.heap.size, 1, none⟩ = some (.slice fa n fcap) := g1.cell (by simp [go_sem]) hne
  have hG : Gr W V w2 v2 := (Gr.alloc W V _).trans g1
  have hC2 := layAll_fact w0 50 (fun f => factB (pf f)) fa fs n fcap 4 H.out.1 HNN.out (by omega) (fun _ _ => rfl) (fun f hf => layFact_any w0 f (H.out.1.ok f hf)) w2 v2 _ (H.out.2.1.trans (hG.below H.out.2.2 H.out.2.1.size)) h1 hfn (by simp only [List.length_append, putI_len]; omega)
  clear h1 g1 hC1 hne hl hfl
  go_wp2_with (go_at_call 49; refine hC2.mono ?_; rintro e w3 ⟨v3, rfl, h3, g3⟩)
  go_ret
  refine ⟨_, rfl, ?_, hG.trans g3⟩
  rw [E.out]; simpa [List.append_assoc] using h3
end Go.Proofs.Ytlokamblbhooaaa.code
