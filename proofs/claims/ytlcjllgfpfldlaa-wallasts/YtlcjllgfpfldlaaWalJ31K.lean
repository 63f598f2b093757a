/-
 The chapter's Nodes, Facts, Entries: lists as bytes.
 The chapter's bare: is all of a record nought but what some letters name.
-/
import Derived.Test.YtlcjllgfpfldlaaWalJ29K
import Derived.Test.YtlcjllgfpfldlaaWalJ27K
import Derived.Test.YtlcjllgfpfldlaaWalJ19K
import Derived.Deep.CutRange
namespace Go.Proofs.Ytlcjllgfpfldlaa.code
open Go.ChangeShapes Go.WideShapes Go.ChangeAt Go.RowKit Go.Deep
open Go.Proofs.Ytlcjllgfpfldlaa.dims (nth Ints cell_lt vals vals_len vals_get own_below own_mono own_out RowOut ret_bool)
set_option linter.unusedVariables false
set_option maxRecDepth 100000
set_option linter.unusedSimpArgs false

theorem putW_any (B size : Nat) (x y : Int) (hy : y = x % 18446744073709551616) (hs : size ≤ 8) (v : Value) (l : List UInt8) (w : World) (ho : Bs B w v l) (hB : B ≤ w.heap.size) (hl : l.length ≤ 1000000000) :
  Calls Try.prog 55 #[v, .int .u64 y, .int .i64 size] w fun e w' => ∃ v', e = .returned v' ∧ Bs B w' v' (l ++ putI x size) ∧ Gr w v w' v' := by
 unfold putI
 have := put_any B size (x % 18446744073709551616).toNat (by omega) hs v l w ho hB hl
 rwa [show (((x % 18446744073709551616).toNat : Nat) : Int) = y by omega] at this
theorem wrap_mod (x : Int) : IntKind.u64.wrap x = x % 18446744073709551616 := by rw [IntKind.wrap_u64]

set_option maxHeartbeats 8000000 in
theorem refFacts_any (w0 : World) (a : Option Addr) (fs : List Ft) (n c : Nat) (hI : FactsIn w0 a fs) (hn : fs.length = n)
  (w : World) (v : Value) (l : List UInt8) (hb : Below w0.heap.size w0 w) (ho : Bs w0.heap.size w v l) (hm : n ≤ 100000000) (hl : l.length + (factsB (fs.map pf)).length ≤ 900000000) :
  Calls Try.prog 44 #[v, .slice a n c] w fun e w' => ∃ v', e = .returned v' ∧ Bs w0.heap.size w' v' (l ++ factsB (fs.map pf)) ∧ Gr w v w' v' := by
 have hC := putW_any w0.heap.size 4 n n (by omega) (by omega) v l w ho hb.size (by omega)
 have E : Hid (factsB (fs.map pf) = putI fs.length 4 ++ fs.flatMap (fun f => factB (pf f))) := by
  show _ = _
  unfold factsB
  rw [flatF_map, List.length_map]
 rw [E.out] at hl
 simp only [List.length_append, putI_len] at hl
 have H : Aside (FactsIn w0 a fs ∧ fs.length = n ∧ Below w0.heap.size w0 w ∧ Bs w0.heap.size w v l) := ⟨hI, hn, hb, ho⟩
 clear hI hn hb ho
 go_enter Try.func44, Try.ntmps44
 go_wp2_with (go_at_call 55; refine hC.mono ?_; rintro e w1 ⟨v1, rfl, hown1, hgr1⟩; refine Hid.out ?_)
 refine hid ?_
 have S1 : Aside (Bs w0.heap.size w1 v1 (l ++ (putI fs.length 4 ++ (fs.take 0).flatMap (fun f => factB (pf f)))) ∧ Gr w v w1 v1) := by
  refine ⟨?_, hgr1⟩
  rw [H.out.2.1]
  simpa using hown1
 clear hown1 hgr1 hC
 go_wp2_with fail
 go_loopg [0, 5] n (fun g1 vv vi wr => ∃ (k : Nat), vi = .int .i64 k ∧ k ≤ n ∧ n - k ≤ g1 ∧ Aside (Bs w0.heap.size wr vv (l ++ (putI fs.length 4 ++ (fs.take k).flatMap (fun f => factB (pf f)))) ∧ Gr w v wr vv))
 case atStart => exact ⟨0, rfl, Nat.zero_le _, Nat.le_refl _, S1⟩
 case round =>
  clear S1
  obtain ⟨k, rfl, hk, hg1, SK⟩ := hrel
  have HBW : Aside (Below w0.heap.size w0 wr) := H.out.2.2.1.trans (SK.out.2.below H.out.2.2.2 H.out.2.2.1.size)
  by_cases hlt : k < n
  ·have hltz : (k : Int) < (n : Int) := by omega
   have hkl : k < fs.length := by rw [H.out.2.1]; exact hlt
   obtain ⟨b, off, ha, hc0⟩ := H.out.1.get hkl
   subst ha
   obtain ⟨r0, r1, r2⟩ := hc0 k hkl
   have HT : Hid ((fs.take (k + 1)).flatMap (fun f => factB (pf f)) = (fs.take k).flatMap (fun f => factB (pf f)) ++ factB (pf (ftn fs k))) := by show _ = _; rw [take_ftn fs k hkl, List.flatMap_append]; simp
   have hlen2 : (l ++ (putI fs.length 4 ++ (fs.take k).flatMap (fun f => factB (pf f)))).length + (9 + 4 * (ftn fs k).k.length) ≤ 1000000000 := by
    have h1 := flat_take (fun f => factB (pf f)) fs (k + 1)
    rw [HT.out, List.length_append, factB_len] at h1
    simp only [pf] at h1
    simp only [List.length_append, putI_len]
    have := hl
    simp only [pf] at this ⊢
    omega
   generalize hD : l ++ (putI fs.length 4 ++ (fs.take k).flatMap (fun f => factB (pf f))) = D at SK hlen2
   have HD : Hid (l ++ (putI fs.length 4 ++ (fs.take k).flatMap (fun f => factB (pf f))) = D) := hD
   clear hD hc0
   have HF : Hid (pf (ftn fs k) = ((ftn fs k).k, (ftn fs k).v)) := rfl
   have KO : Aside (Ints w0 (ftn fs k).a (ftn fs k).k ∧ (∀ x ∈ (ftn fs k).k, I64 x)) := ⟨r2.mem, r2.key⟩
   have r2n := r2.num
   clear r2
   have hq : ∀ W, Below w0.heap.size w0 W → W.cell? ⟨b, off + k * 2, none⟩ = some (.slice (ftn fs k).a (ftn fs k).k.length (ftn fs k).cap) ∧ W.cell? ⟨b, off + k * 2 + 1, none⟩ = some (.int .i64 (ftn fs k).v) := fun W hW => ⟨(hW.cell (p := ⟨b, off + k * 2, none⟩) (cell_lt r0)).trans r0, (hW.cell (p := ⟨b, off + k * 2 + 1, none⟩) (cell_lt r1)).trans r1⟩
   clear r0 r1
   generalize (ftn fs k).a = fa at hq KO
   generalize (ftn fs k).cap = fcap at hq
   generalize hkk : (ftn fs k).k = fk at hq KO hlen2 HF
   generalize (ftn fs k).v = fv at hq HF r2n
   obtain ⟨m, hm2⟩ : ∃ m, fk.length = m := ⟨_, rfl⟩
   have HM : Hid (fk.length = m) := hm2
   rw [hm2] at hq hlen2
   have HQ : Aside (∀ W, Below w0.heap.size w0 W → W.cell? ⟨b, off + k * 2, none⟩ = some (.slice fa m fcap) ∧ W.cell? ⟨b, off + k * 2 + 1, none⟩ = some (.int .i64 fv)) := hq
   obtain ⟨r0, r1⟩ := hq wr HBW.out
   have hC := putW_any w0.heap.size 1 m m (by omega) (by omega) _ _ wr SK.out.1 HBW.out.size (by omega)
   clear hkk hm2 hq
   go_wp2_with (go_at_call 55; refine hC.mono ?_; rintro e w2 ⟨v2, rfl, hown2, hgr2⟩; refine Hid.out ?_)
   refine hid ?_
   have S2 : Aside (Bs w0.heap.size w2 v2 (D ++ (putI m 1 ++ (fk.take 0).flatMap (putI · 4))) ∧ Gr w v w2 v2) := ⟨by simpa using hown2, SK.out.2.trans hgr2⟩
   clear hown2 hgr2 hC r0 r1 SK HBW
   generalize wr = W1 at *
   go_wp2_with fail
   go_loopg [0, 6] m (fun g2 vv vi wr => ∃ (j : Nat), vi = .int .i64 j ∧ j ≤ m ∧ m - j ≤ g2 ∧ Aside (Bs w0.heap.size wr vv (D ++ (putI m 1 ++ (fk.take j).flatMap (putI · 4))) ∧ Gr w v wr vv))
   case atStart => exact ⟨0, rfl, Nat.zero_le _, Nat.le_refl _, S2⟩
   case round =>
    clear S2
    obtain ⟨j, rfl, hj, hg2, SJ⟩ := hrel
    have HBW : Aside (Below w0.heap.size w0 wr) := H.out.2.2.1.trans (SJ.out.2.below H.out.2.2.2 H.out.2.2.1.size)
    obtain ⟨r0, r1⟩ := HQ.out wr HBW.out
    by_cases hlt2 : j < m
    ·have hltz2 : (j : Int) < (m : Int) := by omega
     have hjl : j < fk.length := by rw [HM.out]; exact hlt2
     obtain ⟨b2, off2, ha2, hc2⟩ := (KO.out.1.keep HBW.out).get hjl
     subst ha2
     have p0 := hc2 j hjl
     clear hc2
     have HT2 : Hid ((fk.take (j + 1)).flatMap (putI · 4) = (fk.take j).flatMap (putI · 4) ++ putI (nth fk j) 4) := by show _ = _; rw [take_nth fk j hjl, List.flatMap_append]; simp
     have hC := putW_any w0.heap.size 4 (nth fk j) (IntKind.u64.wrap (nth fk j)) (wrap_mod _) (by omega) _ _ wr SJ.out.1 HBW.out.size (by simp only [List.length_append, putI_len, flat4_len, List.length_take]; omega)
     generalize nth fk j = x at p0 hC HT2
     go_wp2_with (go_at_call 55; refine hC.mono ?_; rintro e w3 ⟨v3, rfl, hown3, hgr3⟩; refine Hid.out ?_)
     refine hid ?_
     have S3 : Aside (Bs w0.heap.size w3 v3 (D ++ (putI m 1 ++ (fk.take (j + 1)).flatMap (putI · 4))) ∧ Gr w v w3 v3) := by
      refine ⟨?_, SJ.out.2.trans hgr3⟩
      rw [HT2.out, ← List.append_assoc (putI _ _), ← List.append_assoc D]; exact hown3
     clear hown3 hgr3 hC
     go_wp2
     go_roundg (m - (j + 1))
     case measure => omega
     case rel => exact ⟨j + 1, by go_num, by omega, by omega, S3⟩
    ·have hltz2 : ¬ (j : Int) < (m : Int) := by omega
     have hC := putW_any w0.heap.size 8 fv (IntKind.u64.wrap fv) (wrap_mod _) (by omega) _ _ wr SJ.out.1 HBW.out.size (by simp only [List.length_append, putI_len, flat4_len, List.length_take]; omega)
     go_wp2_with (go_at_call 55; refine hC.mono ?_; rintro e w3 ⟨v3, rfl, hown3, hgr3⟩; refine Hid.out ?_)
     refine hid ?_
     have S3 : Aside (Bs w0.heap.size w3 v3 (l ++ (putI fs.length 4 ++ (fs.take (k + 1)).flatMap (fun f => factB (pf f)))) ∧ Gr w v w3 v3) := by
      refine ⟨?_, SJ.out.2.trans hgr3⟩
      rw [List.take_of_length_le (by rw [HM.out]; omega)] at hown3
      rw [HT.out, ← List.append_assoc (putI _ _), ← List.append_assoc l, HD.out, HF.out]
      unfold factB
      rw [HM.out]
      simpa [List.append_assoc] using hown3
     clear hown3 hgr3 hC
     go_wp2
     go_roundg (n - (k + 1))
     case measure => omega
     case rel => exact ⟨k + 1, by go_num, by omega, by omega, S3⟩
  ·have hltz : ¬ (k : Int) < (n : Int) := by omega
   have S2 : Aside (Bs w0.heap.size wr u0 (l ++ factsB (fs.map pf)) ∧ Gr w v wr u0) := by
    have h := SK.out
    rw [List.take_of_length_le (by rw [H.out.2.1]; omega), ← E.out] at h
    exact h
   clear SK
   go_wp2
   go_ret
   exact ⟨_, rfl, S2.out.1, S2.out.2⟩

set_option maxHeartbeats 8000000 in
theorem refEntries_any (w0 : World) (a : Option Addr) (es : List Et) (n c : Nat) (hI : EntsIn w0 a es) (hn : es.length = n)
  (w : World) (v : Value) (l : List UInt8) (hb : Below w0.heap.size w0 w) (ho : Bs w0.heap.size w v l) (hm : n ≤ 100000000) (hf : ∀ e ∈ es, e.fs.length ≤ 100000000) (hl : l.length + (entsB (es.map pe)).length ≤ 900000000) :
  Calls Try.prog 45 #[v, .slice a n c] w fun e w' => ∃ v', e = .returned v' ∧ Bs w0.heap.size w' v' (l ++ entsB (es.map pe)) ∧ Gr w v w' v' := by
 have hC := putW_any w0.heap.size 4 n n (by omega) (by omega) v l w ho hb.size (by omega)
 have E : Hid (entsB (es.map pe) = putI es.length 4 ++ es.flatMap (fun e => entB (pe e))) := by
  show _ = _
  unfold entsB
  rw [flatE_map, List.length_map]
 rw [E.out] at hl
 simp only [List.length_append, putI_len] at hl
 have H : Aside (EntsIn w0 a es ∧ es.length = n ∧ Below w0.heap.size w0 w ∧ Bs w0.heap.size w v l) := ⟨hI, hn, hb, ho⟩
 have HFL : Aside (∀ e ∈ es, e.fs.length ≤ 100000000) := hf
 clear hI hn hb ho hf
 go_enter Try.func45, Try.ntmps45
 go_wp2_with (go_at_call 55; refine hC.mono ?_; rintro e w1 ⟨v1, rfl, hown1, hgr1⟩; refine Hid.out ?_)
 refine hid ?_
 have S1 : Aside (Bs w0.heap.size w1 v1 (l ++ (putI es.length 4 ++ (es.take 0).flatMap (fun e => entB (pe e)))) ∧ Gr w v w1 v1) := by
  refine ⟨?_, hgr1⟩
  rw [H.out.2.1]
  simpa using hown1
 clear hown1 hgr1 hC
 go_wp2_with fail
 go_loopg [0, 5] n (fun g1 vv vi wr => ∃ (k : Nat), vi = .int .i64 k ∧ k ≤ n ∧ n - k ≤ g1 ∧ Aside (Bs w0.heap.size wr vv (l ++ (putI es.length 4 ++ (es.take k).flatMap (fun e => entB (pe e)))) ∧ Gr w v wr vv))
 case atStart => exact ⟨0, rfl, Nat.zero_le _, Nat.le_refl _, S1⟩
 case round =>
  clear S1
  obtain ⟨k, rfl, hk, hg1, SK⟩ := hrel
  have HBW : Aside (Below w0.heap.size w0 wr) := H.out.2.2.1.trans (SK.out.2.below H.out.2.2.2 H.out.2.2.1.size)
  by_cases hlt : k < n
  ·have hltz : (k : Int) < (n : Int) := by omega
   have hkl : k < es.length := by rw [H.out.2.1]; exact hlt
   obtain ⟨b, off, ha, hc0⟩ := H.out.1.get hkl
   subst ha
   obtain ⟨r0, r1, r2⟩ := hc0 k hkl
   have HT : Hid ((es.take (k + 1)).flatMap (fun e => entB (pe e)) = (es.take k).flatMap (fun e => entB (pe e)) ++ entB (pe (etn es k))) := by show _ = _; rw [take_etn es k hkl, List.flatMap_append]; simp
   have hlen2 : (l ++ (putI es.length 4 ++ (es.take k).flatMap (fun e => entB (pe e)))).length + (4 + (factsB ((etn es k).fs.map pf)).length) ≤ 900000000 := by
    have h1 := flat_take (fun e => entB (pe e)) es (k + 1)
    rw [HT.out, List.length_append] at h1
    have e2 : (entB (pe (etn es k))).length = 4 + (factsB ((etn es k).fs.map pf)).length := by unfold entB; rw [List.length_append, putI_len]; rfl
    rw [e2] at h1
    simp only [List.length_append, putI_len]
    omega
   generalize hD : l ++ (putI es.length 4 ++ (es.take k).flatMap (fun e => entB (pe e))) = D at SK hlen2
   have HD : Hid (l ++ (putI es.length 4 ++ (es.take k).flatMap (fun e => entB (pe e))) = D) := hD
   clear hD hc0
   have HF : Hid (entB (pe (etn es k)) = putI (etn es k).t 4 ++ factsB ((etn es k).fs.map pf)) := rfl
   have KO : Aside (FactsIn w0 (etn es k).a (etn es k).fs) := r2.mem
   have r2n : 0 ≤ (etn es k).t ∧ (etn es k).t ≤ 4294967295 := r2.num
   have hfl := HFL.out _ (etn_mem hkl)
   clear r2
   have hq : ∀ W, Below w0.heap.size w0 W → W.cell? ⟨b, off + k * 2, none⟩ = some (.int .u32 (etn es k).t) ∧ W.cell? ⟨b, off + k * 2 + 1, none⟩ = some (.slice (etn es k).a (etn es k).fs.length (etn es k).cap) := fun W hW => ⟨(hW.cell (p := ⟨b, off + k * 2, none⟩) (cell_lt r0)).trans r0, (hW.cell (p := ⟨b, off + k * 2 + 1, none⟩) (cell_lt r1)).trans r1⟩
   clear r0 r1
   generalize (etn es k).a = fa at hq KO
   generalize (etn es k).cap = fcap at hq
   generalize (etn es k).fs = ff at hq KO hlen2 HF hfl
   generalize (etn es k).t = ft at hq HF r2n
   obtain ⟨m, hm2⟩ : ∃ m, ff.length = m := ⟨_, rfl⟩
   have HM : Hid (ff.length = m) := hm2
   rw [hm2] at hq hfl
   have HQ : Aside (∀ W, Below w0.heap.size w0 W → W.cell? ⟨b, off + k * 2, none⟩ = some (.int .u32 ft) ∧ W.cell? ⟨b, off + k * 2 + 1, none⟩ = some (.slice fa m fcap)) := hq
   obtain ⟨r0, r1⟩ := hq wr HBW.out
   have hC := putW_any w0.heap.size 4 ft ft (by omega) (by omega) _ _ wr SK.out.1 HBW.out.size (by omega)
   have hC' := putW_any w0.heap.size 4 ft (IntKind.u64.wrap ft) (wrap_mod _) (by omega) _ _ wr SK.out.1 HBW.out.size (by omega)
   clear hm2 hq
   go_wp2_with (go_at_call 55; (first | refine hC.mono ?_ | refine hC'.mono ?_); rintro e w2 ⟨v2, rfl, hown2, hgr2⟩; refine Hid.out ?_)
   refine hid ?_
   have HBW2 : Aside (Below w0.heap.size w0 w2) := HBW.out.trans (hgr2.below SK.out.1 HBW.out.size)
   have hC2 := refFacts_any w0 fa ff m fcap KO.out HM.out w2 v2 _ HBW2.out hown2 hfl (by simp only [List.length_append, putI_len]; omega)
   obtain ⟨r3, r4⟩ := HQ.out w2 HBW2.out
   have hG : Gr w v w2 v2 := SK.out.2.trans hgr2
   clear hC hC' r0 r1 hown2 hgr2
   go_wp2_with (go_at_call 44; refine hC2.mono ?_; rintro e w3 ⟨v3, rfl, hown3, hgr3⟩; refine Hid.out ?_)
   refine hid ?_
   have S3 : Aside (Bs w0.heap.size w3 v3 (l ++ (putI es.length 4 ++ (es.take (k + 1)).flatMap (fun e => entB (pe e)))) ∧ Gr w v w3 v3) := by
    refine ⟨?_, hG.trans hgr3⟩
    rw [HT.out, ← List.append_assoc (putI _ _), ← List.append_assoc l, HD.out, HF.out, ← List.append_assoc]
    exact hown3
   clear hown3 hgr3 hC2 r3 r4
   go_wp2
   go_roundg (n - (k + 1))
   case measure => omega
   case rel => exact ⟨k + 1, by go_num, by omega, by omega, S3⟩
  ·have hltz : ¬ (k : Int) < (n : Int) := by omega
   have S2 : Aside (Bs w0.heap.size wr u0 (l ++ entsB (es.map pe)) ∧ Gr w v wr u0) := by
    have h := SK.out
    rw [List.take_of_length_le (by rw [H.out.2.1]; omega), ← E.out] at h
    exact h
   clear SK
   go_wp2
   go_ret
   exact ⟨_, rfl, S2.out.1, S2.out.2⟩
end Go.Proofs.Ytlcjllgfpfldlaa.code

namespace Go.Proofs.Ytlcjllgfpfldlaa.code
open Go.ChangeShapes Go.WideShapes Go.ChangeAt Go.RowKit Go.Deep
open Go.Proofs.Ytlcjllgfpfldlaa.dims (nth Ints cell_lt vals vals_len vals_get own_below own_mono own_out RowOut ret_bool)
set_option linter.unusedVariables false
set_option maxRecDepth 100000
set_option linter.unusedSimpArgs false

end Go.Proofs.Ytlcjllgfpfldlaa.code
