/-
  The contracts of the chapter's bytes of facts, and of whether facts are alike.
-/
import Derived.Test.YtfhihkogdnbghaaSpanFacts
import Derived.Test.YtfhihkogdnbghaaCodeMath
import Derived.Test.YtfhihkogdnbghaaByteGrow
namespace Go.Proofs.Ytfhihkogdnbghaa.spans
open Go.ChangeShapes Go.WideShapes Go.ChangeAt Go.RowKit Go.Deep
open Go.Proofs.Ytfhihkogdnbghaa.bytes
open Go.Proofs.Ytfhihkogdnbghaa.code (putB putB_len putI putI_len factsB factB)
set_option linter.unusedVariables false
set_option maxRecDepth 100000
set_option linter.unusedSimpArgs false

theorem pow_eight (k : Nat) : 2 ^ (8 * k) = 256 ^ k := by rw [Nat.pow_mul]
theorem byte_at (X k : Nat) : ((X : Int) / 2 ^ (8 * k) % 256) = ((X / 256 ^ k % 256 : Nat) : Int) := by
  have e : ((2 : Int) ^ (8 * k)) = ((256 ^ k : Nat) : Int) := by rw [← pow_eight]; simp
  rw [e]; simp

set_option maxHeartbeats 4000000 in
theorem put_any (B size X : Nat) (hX : X < 18446744073709551616) (hs : size ≤ 8) (v : Value) (l : List UInt8) (w : World) (ho : Bs B w v l) (hB : B ≤ w.heap.size) (hl : l.length ≤ 1000000000) :
    Calls Try.prog 53 #[v, .int .u64 X, .int .i64 size] w fun e w' => ∃ v', e = .returned v' ∧ Bs B w' v' (l ++ putB X size) ∧ Gr w v w' v' := by
  obtain ⟨i0, hi, hz0, hz1, hz2⟩ := info_parts info_u8
  have H : Aside (Bs B w v l) := ho
  clear ho
  go_enter Try.func53, Try.ntmps53
  go_wp2_with fail
  go_loopg [0, 7] size (fun g1 vv vi wr => ∃ (k : Nat) (j : Int), vi = .int .i64 j ∧ Aside (j = (k : Int) - 1) ∧ k ≤ size ∧ k ≤ g1 ∧ Aside (∃ done, done ++ putB X k = l ++ putB X size ∧ Bs B wr vv done ∧ Gr w v wr vv))
  case atStart => exact ⟨size, _, rfl, by go_num, Nat.le_refl _, Nat.le_refl _, l, rfl, H.out, Gr.refl _ _⟩
  case round =>
    obtain ⟨k, j, rfl, hj, hk, hg1, SK⟩ := hrel
    rcases k with _ | k
    · have hjz : ¬ 0 ≤ j := by have := hj.out; omega
      have S2 : Aside (Bs B wr u0 (l ++ putB X size) ∧ Gr w v wr u0) := by
        obtain ⟨done, hd, h1, h2⟩ := SK.out
        rw [putB, List.append_nil] at hd
        rw [← hd]; exact ⟨h1, h2⟩
      clear SK hj
      go_wp2
      go_ret
      exact ⟨_, rfl, S2.out.1, S2.out.2⟩
    · have hjz : 0 ≤ j := by have := hj.out; omega
      have hj2 : j = (k : Int) := by have := hj.out; omega
      subst hj2
      obtain ⟨done, hd, hown, hgr⟩ := SK.out
      have hlen : done.length ≤ l.length + 8 := by
        have := congrArg List.length hd
        simp only [List.length_append, putB_len] at this
        omega
      have HBS : Aside (B ≤ wr.heap.size) := Nat.le_trans hB hgr.grown.size
      obtain ⟨n, hn⟩ : ∃ n, done.length = n := ⟨_, rfl⟩
      have HN : Hid (done.length = n) := hn
      have hown2 : wr.ownsRow B 5 1 u0 n (Lib.byteCells done) := by rw [← hn]; exact hown
      rw [hn] at hlen
      have HG : Aside (Gr w v wr u0) := hgr
      have HD : Hid (done ++ putB X (k + 1) = l ++ putB X size) := hd
      clear SK hj hd hown hgr hn
      go_wp2_with (at_builtin; refine wpList_append_lies _ rfl _ _ 77 rfl B 5 i0 _ 1 1 Try.underlying77 hi hz0 hz1 hz2 rfl (by decide) _ n _ rfl (hown2.alloc _) ⟨wr.heap.size, 0, none⟩ 1 1 [_] rfl rfl (cell_one_new _ _ _) (by intro u hu; simp at hu; subst hu; rfl) (by omega) (by unfold maxLen; omega) (by omega) (by have := HBS.out; simp; omega) (wr.heap.size + 1) (by simp) ?_; intro g c3 w3 hown3 hgrow hat hglt)
      have S3 : Aside (Bs B w3 (.slice (some ⟨g, 0, none⟩) (n + 1) c3) (done ++ [UInt8.ofNat (X / 256 ^ k)]) ∧ Gr w v w3 (.slice (some ⟨g, 0, none⟩) (n + 1) c3)) := by
        obtain ⟨p1, p2⟩ := Bs.push HN.out (x := X / 256 ^ k) (byte_at X k) hown3 hgrow hat
        exact ⟨p1, HG.out.trans p2⟩
      clear hown3 hgrow hat hglt hown2
      go_wp2
      go_roundg k
      case measure => omega
      case rel =>
        refine ⟨k, _, rfl, by go_num, by omega, Nat.le_refl _, _, ?_, S3.out.1, S3.out.2⟩
        rw [List.append_assoc, ← HD.out]; simp [putB]

theorem flat4_len (l : List Int) : (l.flatMap (putI · 4)).length = 4 * l.length := by
  induction l with
  | nil => rfl
  | cons x l ih => rw [List.flatMap_cons, List.length_append, ih, putI_len, List.length_cons]; omega
theorem factB_len (f : List Int × Int) : (factB f).length = 9 + 4 * f.1.length := by
  unfold factB
  rw [List.length_append, List.length_append, putI_len, putI_len, flat4_len]; omega

theorem flatF_map (l : List Ft) : (l.map pf).flatMap factB = l.flatMap (fun f => factB (pf f)) := List.flatMap_map _ _ _
theorem take_nth (l : List Int) (k : Nat) (h : k < l.length) : l.take (k + 1) = l.take k ++ [nth l k] := by rw [List.take_succ_eq_append_getElem h, nth_eq h]
theorem flat_take {α : Type} (enc : α → List UInt8) (l : List α) (k : Nat) : ((l.take k).flatMap enc).length ≤ (l.flatMap enc).length := by
  conv => rhs; rw [← List.take_append_drop k l, List.flatMap_append, List.length_append]
  omega
theorem putW_any (B size : Nat) (x y : Int) (hy : y = x % 18446744073709551616) (hs : size ≤ 8) (v : Value) (l : List UInt8) (w : World) (ho : Bs B w v l) (hB : B ≤ w.heap.size) (hl : l.length ≤ 1000000000) :
    Calls Try.prog 53 #[v, .int .u64 y, .int .i64 size] w fun e w' => ∃ v', e = .returned v' ∧ Bs B w' v' (l ++ putI x size) ∧ Gr w v w' v' := by
  unfold putI
  have := put_any B size (x % 18446744073709551616).toNat (by omega) hs v l w ho hB hl
  rwa [show (((x % 18446744073709551616).toNat : Nat) : Int) = y by omega] at this
theorem wrap_mod (x : Int) : IntKind.u64.wrap x = x % 18446744073709551616 := by rw [IntKind.wrap_u64]

set_option maxHeartbeats 8000000 in
theorem refFacts_any (w0 : World) (a : Option Addr) (fs : List Ft) (n c : Nat) (hI : FactsIn w0 a fs) (hn : fs.length = n)
    (w : World) (v : Value) (l : List UInt8) (hb : Below w0.heap.size w0 w) (ho : Bs w0.heap.size w v l) (hm : n ≤ 100000000) (hl : l.length + (factsB (fs.map pf)).length ≤ 900000000) :
    Calls Try.prog 41 #[v, .slice a n c] w fun e w' => ∃ v', e = .returned v' ∧ Bs w0.heap.size w' v' (l ++ factsB (fs.map pf)) ∧ Gr w v w' v' := by
  have hC := putW_any w0.heap.size 4 n n (by omega) (by omega) v l w ho hb.size (by omega)
  have E : Hid (factsB (fs.map pf) = putI fs.length 4 ++ fs.flatMap (fun f => factB (pf f))) := by
    show _ = _
    unfold factsB
    rw [flatF_map, List.length_map]
  rw [E.out] at hl
  simp only [List.length_append, putI_len] at hl
  have H : Aside (FactsIn w0 a fs ∧ fs.length = n ∧ Below w0.heap.size w0 w ∧ Bs w0.heap.size w v l) := ⟨hI, hn, hb, ho⟩
  clear hI hn hb ho
  go_enter Try.func41, Try.ntmps41
  go_wp2_with (go_at_call 53; refine hC.mono ?_; rintro e w1 ⟨v1, rfl, hown1, hgr1⟩; refine Hid.out ?_)
  refine hid ?_
  have S1 : Aside (Bs w0.heap.size w1 v1 (l ++ (putI fs.length 4 ++ (fs.take 0).flatMap (fun f => factB (pf f)))) ∧ Gr w v w1 v1) := by
    refine ⟨?_, hgr1⟩
    rw [H.out.2.1]
    simpa using hown1
  clear hown1 hgr1 hC
  go_wp2_with fail
  go_loopg [0, 5] n (fun g1 vv vi wr => ∃ (k : Nat), vi = .int .i64 k ∧ k ≤ n ∧ n - k ≤ g1 ∧ Aside (Bs w0.heap.size wr vv (l ++ (putI fs.length 4 ++ (fs.take k).flatMap (fun f => factB (pf f)))) ∧ Gr w v wr vv))
  case atStart => exact ⟨0, rfl, Nat.zero_le _, Nat.le_refl _, S1⟩
  case round =>
    clear S1
    obtain ⟨k, rfl, hk, hg1, SK⟩ := hrel
    have HBW : Aside (Below w0.heap.size w0 wr) := H.out.2.2.1.trans (SK.out.2.below H.out.2.2.2 H.out.2.2.1.size)
    by_cases hlt : k < n
    · have hltz : (k : Int) < (n : Int) := by omega
      have hkl : k < fs.length := by rw [H.out.2.1]; exact hlt
      obtain ⟨b, off, ha, hc0⟩ := H.out.1.get hkl
      subst ha
      obtain ⟨r0, r1, r2⟩ := hc0 k hkl
      have HT : Hid ((fs.take (k + 1)).flatMap (fun f => factB (pf f)) = (fs.take k).flatMap (fun f => factB (pf f)) ++ factB (pf (ftn fs k))) := by show _ = _; rw [take_ftn fs k hkl, List.flatMap_append]; simp
      have hlen2 : (l ++ (putI fs.length 4 ++ (fs.take k).flatMap (fun f => factB (pf f)))).length + (9 + 4 * (ftn fs k).k.length) ≤ 1000000000 := by
        have h1 := flat_take (fun f => factB (pf f)) fs (k + 1)
        rw [HT.out, List.length_append, factB_len] at h1
        simp only [pf] at h1
        simp only [List.length_append, putI_len]
        have := hl
        simp only [pf] at this ⊢
        omega
      generalize hD : l ++ (putI fs.length 4 ++ (fs.take k).flatMap (fun f => factB (pf f))) = D at SK hlen2
      have HD : Hid (l ++ (putI fs.length 4 ++ (fs.take k).flatMap (fun f => factB (pf f))) = D) := hD
      clear hD hc0
      have HF : Hid (pf (ftn fs k) = ((ftn fs k).k, (ftn fs k).v)) := rfl
      have KO : Aside (Ints w0 (ftn fs k).a (ftn fs k).k ∧ True) := ⟨r2.mem, trivial⟩
      clear r2
      have hq : ∀ W, Below w0.heap.size w0 W → W.cell? ⟨b, off + k * 2, none⟩ = some (.slice (ftn fs k).a (ftn fs k).k.length (ftn fs k).cap) ∧ W.cell? ⟨b, off + k * 2 + 1, none⟩ = some (.int .i64 (ftn fs k).v) := fun W hW => ⟨(hW.cell (p := ⟨b, off + k * 2, none⟩) (cell_lt r0)).trans r0, (hW.cell (p := ⟨b, off + k * 2 + 1, none⟩) (cell_lt r1)).trans r1⟩
      clear r0 r1
      generalize (ftn fs k).a = fa at hq KO
      generalize (ftn fs k).cap = fcap at hq
      generalize hkk : (ftn fs k).k = fk at hq KO hlen2 HF
      generalize (ftn fs k).v = fv at hq HF
      obtain ⟨m, hm2⟩ : ∃ m, fk.length = m := ⟨_, rfl⟩
      have HM : Hid (fk.length = m) := hm2
      rw [hm2] at hq hlen2
      have HQ : Aside (∀ W, Below w0.heap.size w0 W → W.cell? ⟨b, off + k * 2, none⟩ = some (.slice fa m fcap) ∧ W.cell? ⟨b, off + k * 2 + 1, none⟩ = some (.int .i64 fv)) := hq
      obtain ⟨r0, r1⟩ := hq wr HBW.out
      have hC := putW_any w0.heap.size 1 m m (by omega) (by omega) _ _ wr SK.out.1 HBW.out.size (by omega)
      clear hkk hm2 hq
      go_wp2_with (go_at_call 53; refine hC.mono ?_; rintro e w2 ⟨v2, rfl, hown2, hgr2⟩; refine Hid.out ?_)
      refine hid ?_
      have S2 : Aside (Bs w0.heap.size w2 v2 (D ++ (putI m 1 ++ (fk.take 0).flatMap (putI · 4))) ∧ Gr w v w2 v2) := ⟨by simpa using hown2, SK.out.2.trans hgr2⟩
      clear hown2 hgr2 hC r0 r1 SK HBW
      generalize wr = W1 at *
      go_wp2_with fail
      go_loopg [0, 6] m (fun g2 vv vi wr => ∃ (j : Nat), vi = .int .i64 j ∧ j ≤ m ∧ m - j ≤ g2 ∧ Aside (Bs w0.heap.size wr vv (D ++ (putI m 1 ++ (fk.take j).flatMap (putI · 4))) ∧ Gr w v wr vv))
      case atStart => exact ⟨0, rfl, Nat.zero_le _, Nat.le_refl _, S2⟩
      case round =>
        clear S2
        obtain ⟨j, rfl, hj, hg2, SJ⟩ := hrel
        have HBW : Aside (Below w0.heap.size w0 wr) := H.out.2.2.1.trans (SJ.out.2.below H.out.2.2.2 H.out.2.2.1.size)
        obtain ⟨r0, r1⟩ := HQ.out wr HBW.out
        by_cases hlt2 : j < m
        · have hltz2 : (j : Int) < (m : Int) := by omega
          have hjl : j < fk.length := by rw [HM.out]; exact hlt2
          obtain ⟨b2, off2, ha2, hc2⟩ := (KO.out.1.keep HBW.out).get hjl
          subst ha2
          have p0 := hc2 j hjl
          clear hc2
          have HT2 : Hid ((fk.take (j + 1)).flatMap (putI · 4) = (fk.take j).flatMap (putI · 4) ++ putI (nth fk j) 4) := by show _ = _; rw [take_nth fk j hjl, List.flatMap_append]; simp
          have hC := putW_any w0.heap.size 4 (nth fk j) (IntKind.u64.wrap (nth fk j)) (wrap_mod _) (by omega) _ _ wr SJ.out.1 HBW.out.size (by simp only [List.length_append, putI_len, flat4_len, List.length_take]; omega)
          generalize nth fk j = x at p0 hC HT2
          go_wp2_with (go_at_call 53; refine hC.mono ?_; rintro e w3 ⟨v3, rfl, hown3, hgr3⟩; refine Hid.out ?_)
          refine hid ?_
          have S3 : Aside (Bs w0.heap.size w3 v3 (D ++ (putI m 1 ++ (fk.take (j + 1)).flatMap (putI · 4))) ∧ Gr w v w3 v3) := by
            refine ⟨?_, SJ.out.2.trans hgr3⟩
            rw [HT2.out, ← List.append_assoc (putI _ _), ← List.append_assoc D]; exact hown3
          clear hown3 hgr3 hC
          go_wp2
          go_roundg (m - (j + 1))
          case measure => omega
          case rel => exact ⟨j + 1, by go_num, by omega, by omega, S3⟩
        · have hltz2 : ¬ (j : Int) < (m : Int) := by omega
          have hC := putW_any w0.heap.size 8 fv (IntKind.u64.wrap fv) (wrap_mod _) (by omega) _ _ wr SJ.out.1 HBW.out.size (by simp only [List.length_append, putI_len, flat4_len, List.length_take]; omega)
          go_wp2_with (go_at_call 53; refine hC.mono ?_; rintro e w3 ⟨v3, rfl, hown3, hgr3⟩; refine Hid.out ?_)
          refine hid ?_
          have S3 : Aside (Bs w0.heap.size w3 v3 (l ++ (putI fs.length 4 ++ (fs.take (k + 1)).flatMap (fun f => factB (pf f)))) ∧ Gr w v w3 v3) := by
            refine ⟨?_, SJ.out.2.trans hgr3⟩
            rw [List.take_of_length_le (by rw [HM.out]; omega)] at hown3
            rw [HT.out, ← List.append_assoc (putI _ _), ← List.append_assoc l, HD.out, HF.out]
            unfold factB
            rw [HM.out]
            simpa [List.append_assoc] using hown3
          clear hown3 hgr3 hC
          go_wp2
          go_roundg (n - (k + 1))
          case measure => omega
          case rel => exact ⟨k + 1, by go_num, by omega, by omega, S3⟩
    · have hltz : ¬ (k : Int) < (n : Int) := by omega
      have S2 : Aside (Bs w0.heap.size wr u0 (l ++ factsB (fs.map pf)) ∧ Gr w v wr u0) := by
        have h := SK.out
        rw [List.take_of_length_le (by rw [H.out.2.1]; omega), ← E.out] at h
        exact h
      clear SK
      go_wp2
      go_ret
      exact ⟨_, rfl, S2.out.1, S2.out.2⟩

theorem str_eq (x y : List UInt8) : (x == y) = decide (x = y) := by
  rw [Bool.eq_iff_iff]; simp
/-- bytes that a call hands out: they stay a string's -/
def Strs (w : World) (v : Value) (l : List UInt8) : Prop := ∀ W, Below w.heap.size w W → (convert 77 9 v).run Try.prog W = .ok (.string ⟨l.toArray⟩) W
theorem Bs.strs {B : Nat} {w : World} {v : Value} {l : List UInt8} (h : Bs B w v l) : Strs w v l := by
  obtain ⟨a, c, rfl, hba⟩ := h.bytes
  exact fun W hW => str_of (hba.keep hW).mem _ c rfl
theorem facts_str (w : World) (a : Option Addr) (fs : List Ft) (n c : Nat) (hI : FactsIn w a fs) (hn : fs.length = n) (hm : n ≤ 100000000) (hl : (factsB (fs.map pf)).length ≤ 900000000) :
    Calls Try.prog 41 #[.slice none 0 0, .slice a n c] w fun e w' => ∃ v, e = .returned v ∧ Strs w' v (factsB (fs.map pf)) ∧ Below w.heap.size w w' :=
  (refFacts_any w a fs n c hI hn w (.slice none 0 0) [] (Below.refl _ _) (Bs.none _ _) hm (by simpa using hl)).mono fun e w' ⟨v, h1, h2, h3⟩ => ⟨v, h1, by rw [List.nil_append] at h2; exact Bs.strs h2, h3.below (Bs.none _ _) (Nat.le_refl _)⟩

set_option maxHeartbeats 8000000 in
theorem sameFacts_any (w : World) (a b : Option Addr) (fs gs : List Ft) (n m c d : Nat) (hI : FactsIn w a fs) (hn : fs.length = n) (hm : n ≤ 100000000) (hl : (factsB (fs.map pf)).length ≤ 900000000) (hJ : FactsIn w b gs) (hn2 : gs.length = m) (hm2 : m ≤ 100000000) (hl2 : (factsB (gs.map pf)).length ≤ 900000000) :
    Calls Try.prog 22 #[.slice a n c, .slice b m d] w fun e w' => e = .returned (.bool (decide (factsB (fs.map pf) = factsB (gs.map pf)))) ∧ Below w.heap.size w w' := by
  have h1 : ∀ W, Below w.heap.size w W → Calls Try.prog 41 #[.slice none 0 0, .slice a n c] W fun e w' => ∃ v, e = .returned v ∧ Strs w' v (factsB (fs.map pf)) ∧ Below W.heap.size W w' := fun W hW => facts_str W a fs n c (hI.keep hW) hn hm hl
  have h2 : ∀ W, Below w.heap.size w W → Calls Try.prog 41 #[.slice none 0 0, .slice b m d] W fun e w' => ∃ v, e = .returned v ∧ Strs w' v (factsB (gs.map pf)) ∧ Below W.heap.size W w' := fun W hW => facts_str W b gs m d (hJ.keep hW) hn2 hm2 hl2
  generalize factsB (fs.map pf) = x at h1
  generalize factsB (gs.map pf) = y at h2
  clear hI hJ hn hn2 hm hm2 hl hl2
  go_enter Try.func22, Try.ntmps22
  go_wp2_with fail
  have HD : Aside (Below w.heap.size w w.drew) := (Below.refl _ _).drew
  have H1 : Aside (∀ W, Below w.heap.size w W → Calls Try.prog 41 #[.slice none 0 0, .slice a n c] W fun e w' => ∃ v, e = .returned v ∧ Strs w' v x ∧ Below W.heap.size W w') := h1
  have H2 : Aside (∀ W, Below w.heap.size w W → Calls Try.prog 41 #[.slice none 0 0, .slice b m d] W fun e w' => ∃ v, e = .returned v ∧ Strs w' v y ∧ Below W.heap.size W w') := h2
  clear h1 h2
  go_region_with (go_at_call 41; first
    | ((with_reducible refine (H1.out _ HD.out).mono ?_); rintro e wA ⟨vA, rfl, sA, bA⟩; have tA := sA wA (Below.refl _ _); have HA : Aside (Below w.heap.size w wA ∧ Strs wA vA x) := ⟨Below.trans HD.out (bA.mono HD.out.size), sA⟩; clear sA bA)
    | ((with_reducible refine (H2.out _ HA.out.1).mono ?_); rintro e wB ⟨vB, rfl, sB, bB⟩; have tB := sB wB (Below.refl _ _); have tA := HA.out.2 wB bB; have HB : Aside (Below w.heap.size w wB ∧ Strs wB vB y) := ⟨Below.trans HA.out.1 (bB.mono HA.out.1.size), sB⟩; clear sB bB)
    | ((with_reducible refine (H2.out _ HD.out).mono ?_); rintro e wB ⟨vB, rfl, sB, bB⟩; have tB := sB wB (Below.refl _ _); have HB : Aside (Below w.heap.size w wB ∧ Strs wB vB y) := ⟨Below.trans HD.out (bB.mono HD.out.size), sB⟩; clear sB bB)
    | ((with_reducible refine (H1.out _ HB.out.1).mono ?_); rintro e wA ⟨vA, rfl, sA, bA⟩; have tA := sA wA (Below.refl _ _); have tB := HB.out.2 wA bA; have HA : Aside (Below w.heap.size w wA ∧ Strs wA vA x) := ⟨Below.trans HB.out.1 (bA.mono HB.out.1.size), sA⟩; clear sA bA))
  all_goals (go_wp2; go_ret)
  all_goals refine ⟨ret_bool (str_eq x y), ?_⟩
  all_goals first
    | exact HB.out.1
    | exact HA.out.1

end Go.Proofs.Ytfhihkogdnbghaa.spans
