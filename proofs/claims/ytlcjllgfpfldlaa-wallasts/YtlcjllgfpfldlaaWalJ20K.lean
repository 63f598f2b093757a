/-
 Lists read: the program's readAll at each of its types.
 A node, a place, a fact, a span, an entry read: the program's functions.
-/
import Derived.Test.YtlcjllgfpfldlaaWalJ19K
namespace Go.Proofs.Ytlcjllgfpfldlaa.code
open Go.ChangeShapes Go.WideShapes Go.ChangeAt Go.RowKit Go.Deep
open Go.Proofs.Ytlcjllgfpfldlaa.dims (nth Ints cell_lt vals vals_len vals_get own_below own_mono own_out RowOut ret_bool)
set_option linter.unusedVariables false
set_option maxRecDepth 100000
set_option linter.unusedSimpArgs false

theorem cells_two_new (w : World) (v1 v2 : Value) (t : TypeId) : ∀ j u, [v1, v2][j]? = some u → (w.alloc (.cells #[v1, v2] t)).cell? ((⟨w.heap.size, 0, none⟩ : Addr).add j) = some u := by
 intro j u hj
 match j, hj with
 | 0, hj => simp at hj; subst hj; simp [Addr.add, go_sem]
 | 1, hj => simp at hj; subst hj; simp [Addr.add, go_sem]
 | j + 2, hj => simp at hj
theorem info_int2 : (Try.prog.info? 3).map (fun i => (i.zero, i.size, i.bytes)) = some (some (.int .i64 0), 1, 8) := by kernel_rfl
theorem info_fact : (Try.prog.info? 97).map (fun i => (i.zero, i.size, i.bytes)) = some (some (.agg #[.slice none 0 0, .int .i64 0]), 2, 32) := by kernel_rfl
theorem info_span : (Try.prog.info? 92).map (fun i => (i.zero, i.size, i.bytes)) = some (some (.agg #[.int .i64 0, .int .i64 0]), 2, 16) := by kernel_rfl
theorem info_ent : (Try.prog.info? 77).map (fun i => (i.zero, i.size, i.bytes)) = some (some (.agg #[.int .u32 0, .slice none 0 0]), 2, 32) := by kernel_rfl
theorem pTimes_step {γ : Type} {p : Ps γ} {n j : Nat} {l0 lk lk' : List UInt8} {ys : List γ} {y : γ} (h : pTimes p n l0 = (pTimes p (j + 1) lk).map fun z => (ys ++ z.1, z.2)) (hp : p lk = some (y, lk')) :
  pTimes p n l0 = (pTimes p j lk').map fun z => ((ys ++ [y]) ++ z.1, z.2) := by
 rw [h, pTimes, hp]
 simp only [Option.bind_some, Option.map_map]
 congr 1
 funext z
 simp
theorem pTimes_miss {γ : Type} {p : Ps γ} {n j : Nat} {l0 lk : List UInt8} {ys : List γ} (h : pTimes p n l0 = (pTimes p (j + 1) lk).map fun z => (ys ++ z.1, z.2)) (hp : p lk = none) : pTimes p n l0 = none := by
 rw [h, pTimes, hp]; rfl
theorem pAll_some {γ : Type} {p : Ps γ} {k n : Nat} {l l1 : List UInt8} (h : pGet k l = some (n, l1)) : pAll k p l = pTimes p n l1 := by unfold pAll; rw [h]; rfl
theorem pAll_none {γ : Type} {p : Ps γ} {k : Nat} {l : List UInt8} (h : pGet k l = none) : pAll k p l = none := by unfold pAll; rw [h]; rfl
theorem pInt_get {k : Nat} {l l' : List UInt8} {y : Int} (h : pInt k l = some (y, l')) : ∃ n : Nat, y = (n : Int) ∧ pGet k l = some (n, l') := by
 unfold pInt at h
 obtain ⟨⟨v, l1⟩, h1, h2⟩ := Option.map_eq_some_iff.1 h
 simp only [Prod.mk.injEq] at h2
 obtain ⟨rfl, rfl⟩ := h2
 exact ⟨v, rfl, h1⟩
theorem pInt_getn {k : Nat} {l : List UInt8} (h : pInt k l = none) : pGet k l = none := by
 unfold pInt at h
 simpa using h

set_option maxHeartbeats 8000000 in
theorem readAll_int (R B f : Nat) (p : Ps Int) (size : Nat) (h1 : 1 ≤ size) (h4 : size ≤ 4) (eg : ∀ args w, (callFunc f args).run Try.prog w = .ok (.enter f args) w) (hf : Reads R B f p (fun y v _ => v = .int .i64 y ∧ I64 y)) (hp : ∀ l y l', p l = some (y, l') → l'.length + 1 ≤ l.length)
  (w : World) (l : List UInt8) (hB : B ≤ w.heap.size) (hR : RdL R w l) (hl : l.length ≤ 60000) :
  Calls Try.prog 60 #[.pointer (some ⟨R, 0, none⟩), .int .i64 size, .func (.func f) #[] #[]] w fun e w' => PostX R w (pAll size p l) (fun ys v w' => NsOwn B w' v ys) e w' := by
 obtain ⟨i0, hi, hz0, hz1, hz2⟩ := info_parts info_int2
 have hRlt := hR.lt
 have hN := ru32 R w l hR size h1 h4
 have H : Aside (Reads R B f p (fun y v _ => v = .int .i64 y ∧ I64 y) ∧ (∀ l y l', p l = some (y, l') → l'.length + 1 ≤ l.length) ∧ B ≤ w.heap.size) := ⟨hf, hp, hB⟩
 clear hf hp hB hR
 cases hg : pInt size l with
 | none =>
  have E : Hid (pAll size p l = none) := pAll_none (pInt_getn hg)
  go_enter Try.func60, Try.ntmps60
  go_wp2_with (go_at_call 59; refine hN.mono ?_; intro e w1 hP; obtain ⟨⟨m, rfl⟩, hgr⟩ := hP.miss hg)
  exact ⟨rfl, PostX.none E.out hgr⟩
 | some q =>
  obtain ⟨y0, l1⟩ := q
  obtain ⟨n, rfl, hg1⟩ := pInt_get hg
  have hlt := (pInt_lt hg)
  have hn32 : n < 4294967296 := by
   have h2 := (pGet_val hg1).1
   have h3 : 256 ^ size ≤ 256 ^ 4 := Nat.pow_le_pow_right (by omega) h4
   rw [pow4n] at h3
   omega
  have E : Hid (pAll size p l = pTimes p n l1) := pAll_some hg1
  have hl1 : l1.length ≤ 60000 := by omega
  clear hlt hg1
  go_enter Try.func60, Try.ntmps60
  go_wp2_with (go_at_call 59; refine hN.mono ?_; intro e w1 hP; obtain ⟨v, rfl, rfl, hW1⟩ := hP.got hg; refine Hid.out ?_)
  refine hid ?_
  have HW1 : Aside (Went R w w1 l1) := hW1
  clear hN hg hP hW1
  go_wp2_with fail
  go_loopg [7, 11] n (fun g1 vv vi wr => ∃ (k : Nat), vi = .int .u32 k ∧ k ≤ n ∧ n - k ≤ g1 ∧ Aside (∃ (xs : List Int) (lk : List UInt8), xs.length = k ∧ wr.ownsRow w.heap.size 3 1 vv k (vals xs) ∧ (∀ x ∈ xs, I64 x) ∧ Went R w wr lk ∧ k + lk.length ≤ l1.length ∧ pTimes p n l1 = (pTimes p (n - k) lk).map fun z => (xs ++ z.1, z.2)))
  case atStart => exact ⟨0, rfl, Nat.zero_le _, Nat.le_refl _, [], l1, rfl, World.ownsRow_nil _ _ _ _, by simp, HW1.out, by omega, by simp⟩
  case round =>
   obtain ⟨k, rfl, hk, hgk, SK⟩ := hrel
   by_cases hlt : k < n
   ·have hltz : (k : Int) < (n : Int) := by omega
    obtain ⟨xs, lk, hx1, hx2, hx3, hx4, hx5, hx6⟩ := SK.out
    obtain ⟨j, hj⟩ : ∃ j, n - k = j + 1 := ⟨n - k - 1, by omega⟩
    rw [hj] at hx6
    have hF := H.out.1 wr lk (Nat.le_trans H.out.2.2 hx4.grown.size) hx4.rdr (by omega)
    cases hq : p lk with
    | none =>
     have HN : Aside (pTimes p n l1 = none ∧ Went R w wr lk) := ⟨pTimes_miss hx6 hq, hx4⟩
     clear SK hx1 hx2 hx3 hx4 hx5 hx6 hj
     go_wp2_with fail
     refine hF.mono ?_
     intro e w2 hP
     obtain ⟨⟨m, rfl⟩, hgr⟩ := hP.miss hq
     exact ⟨rfl, PostX.none (E.out.trans HN.out.1) (grown_trans HN.out.2.grown hgr)⟩
    | some q =>
     obtain ⟨y, lk'⟩ := q
     have HS : Aside (xs.length = k ∧ wr.ownsRow w.heap.size 3 1 u7 k (vals xs) ∧ (∀ x ∈ xs, I64 x) ∧ Went R w wr lk ∧ (k + 1) + lk'.length ≤ l1.length ∧ pTimes p n l1 = (pTimes p j lk').map fun z => ((xs ++ [y]) ++ z.1, z.2)) :=
      ⟨hx1, hx2, hx3, hx4, by have := H.out.2.1 lk y lk' hq; omega, pTimes_step hx6 hq⟩
     have HJ : Hid (n - k = j + 1) := hj
     have hkl : k ≤ 60000 := by omega
     clear SK hx1 hx2 hx3 hx4 hx5 hx6 hj
     go_wp2_with fail
     refine hF.mono ?_
     intro e w2 hP
     obtain ⟨v2, rfl, hgot, hW2⟩ := hP.got hq
     clear hP hF hq
     obtain ⟨rfl, hy64⟩ := hgot
     have hownx : Aside (I64 y) := hy64
     have hWW : Aside (Went R w w2 lk') := HS.out.2.2.2.1.trans hW2
     have hbz : w.heap.size ≤ w2.heap.size := hWW.out.grown.size
     have hfarI : ∀ e, 104 ≠ e → Far wr (some R) e := fun e he => by
      obtain ⟨a, n, c, h⟩ := HS.out.2.2.2.1.rdr
      exact far_rdr h he
     have hown2 : w2.ownsRow w.heap.size 3 1 u7 k (vals xs) := own_far HS.out.2.1 hW2.grown (hfarI _ (by decide))
     have HX : Aside (∀ x ∈ xs, I64 x) := fun x hx => HS.out.2.2.1 x hx
     clear hW2
     go_wp2_with (at_builtin; refine wpList_append_lies _ rfl _ _ 37 rfl w.heap.size 3 i0 _ 1 8 Try.underlying37 hi hz0 hz1 hz2 rfl (by decide) _ k _ rfl (hown2.alloc _) ⟨w2.heap.size, 0, none⟩ 1 1 [Value.int .i64 y] rfl rfl (cell_one_new _ _ _) (by intro u hu; simp at hu; first | (rcases hu with rfl | rfl <;> rfl) | (subst hu; rfl)) (by omega) (by unfold maxLen; omega) (by omega) (by simp; omega) (w2.heap.size + 1) (by simp) ?_; intro g c3 w3 hown3 hgrow hat hglt)
     have S3 : Aside (∃ (xs : List Int) (lk : List UInt8), xs.length = k + 1 ∧ w3.ownsRow w.heap.size 3 1 (.slice (some ⟨g, 0, none⟩) (k + 1) c3) (k + 1) (vals xs) ∧ (∀ x ∈ xs, I64 x) ∧ Went R w w3 lk ∧ (k + 1) + lk.length ≤ l1.length ∧ pTimes p n l1 = (pTimes p (n - (k + 1)) lk).map fun z => (xs ++ z.1, z.2)) := by
      obtain ⟨a1, a2, a3, a4, a5, a6⟩ := HS.out
      have hfr : ∀ o e', 3 ≠ e' → Far (w2.alloc o) u7.ownBlock e' := fun o e' he => far_row (hown2.alloc o) he
      refine ⟨xs ++ [y], lk', by simp [a1], ?_, fun x hx => ?_, (hWW.out.below (by (repeat (first | with_reducible exact Below.refl _ _ | (with_reducible refine Below.drew ?_) | (with_reducible refine Below.alloc ?_ (by first | omega | (simp; done) | (simp; omega)) _) | (with_reducible refine Below.setCell ?_ (by first | exact Nat.le_refl _ | omega | (simp; done) | (simp; omega)) _)))) hRlt).row hgrow (fun q hq => (hown2.lt q hq).1) hRlt, a5, ?_⟩
      ·have e1 : vals (xs ++ [y]) = vals xs ++ [Value.int .i64 y] := by simp [vals]
       rw [e1]; exact hown3
      ·rcases List.mem_append.1 hx with hx | hx
       ·exact HX.out x hx
       ·simp only [List.mem_singleton] at hx
        subst hx
        exact hownx.out
      ·rw [show n - (k + 1) = j by have := HJ.out; omega]
       first | exact a6 | (rw [a6]; simp)
     clear hown3 hgrow hat hglt hown2 HX hfarI
     go_wp2
     go_roundg (n - (k + 1))
     case measure => omega
     case rel => exact ⟨k + 1, by go_num, by omega, by omega, S3⟩
   ·have hltz : ¬ (k : Int) < (n : Int) := by omega
    have S3 : Aside (∃ (xs : List Int) (lk : List UInt8), xs.length = k ∧ wr.ownsRow w.heap.size 3 1 u7 k (vals xs) ∧ (∀ x ∈ xs, I64 x) ∧ Went R w wr lk ∧ pTimes p n l1 = some (xs, lk)) := by
     obtain ⟨xs, lk, a1, a2, a3, a4, a5, a6⟩ := SK.out
     refine ⟨xs, lk, a1, a2, a3, a4, ?_⟩
     rw [a6, show n - k = 0 by omega]
     simp [pTimes]
    clear SK
    go_wp2
    go_ret
    obtain ⟨xs, lk, a1, a2, a3, a4, a5⟩ := S3.out
    refine PostX.some (E.out.trans a5) ?_ a4
    rw [← a1] at a2
    exact ⟨own_mono a2 H.out.2.2, a3⟩

set_option maxHeartbeats 8000000 in
theorem readAll_fact (R B f : Nat) (p : Ps PFact) (size : Nat) (h1 : 1 ≤ size) (h4 : size ≤ 4) (eg : ∀ args w, (callFunc f args).run Try.prog w = .ok (.enter f args) w) (hf : Reads R B f p (fun y v w' => ∃ f, v = ftV f ∧ pf f = y ∧ FtOwn B w' f)) (hp : ∀ l y l', p l = some (y, l') → l'.length + 1 ≤ l.length)
  (w : World) (l : List UInt8) (hB : B ≤ w.heap.size) (hR : RdL R w l) (hl : l.length ≤ 60000) :
  Calls Try.prog 62 #[.pointer (some ⟨R, 0, none⟩), .int .i64 size, .func (.func f) #[] #[]] w fun e w' => PostX R w (pAll size p l) (fun ys v w' => ∃ fs, fs.map pf = ys ∧ FsOwn B w' v fs) e w' := by
 obtain ⟨i0, hi, hz0, hz1, hz2⟩ := info_parts info_fact
 have hRlt := hR.lt
 have hN := ru32 R w l hR size h1 h4
 have H : Aside (Reads R B f p (fun y v w' => ∃ f, v = ftV f ∧ pf f = y ∧ FtOwn B w' f) ∧ (∀ l y l', p l = some (y, l') → l'.length + 1 ≤ l.length) ∧ B ≤ w.heap.size) := ⟨hf, hp, hB⟩
 clear hf hp hB hR
 cases hg : pInt size l with
 | none =>
  have E : Hid (pAll size p l = none) := pAll_none (pInt_getn hg)
  go_enter Try.func62, Try.ntmps62
  go_wp2_with (go_at_call 59; refine hN.mono ?_; intro e w1 hP; obtain ⟨⟨m, rfl⟩, hgr⟩ := hP.miss hg)
  exact ⟨rfl, PostX.none E.out hgr⟩
 | some q =>
  obtain ⟨y0, l1⟩ := q
  obtain ⟨n, rfl, hg1⟩ := pInt_get hg
  have hlt := (pInt_lt hg)
  have hn32 : n < 4294967296 := by
   have h2 := (pGet_val hg1).1
   have h3 : 256 ^ size ≤ 256 ^ 4 := Nat.pow_le_pow_right (by omega) h4
   rw [pow4n] at h3
   omega
  have E : Hid (pAll size p l = pTimes p n l1) := pAll_some hg1
  have hl1 : l1.length ≤ 60000 := by omega
  clear hlt hg1
  go_enter Try.func62, Try.ntmps62
  go_wp2_with (go_at_call 59; refine hN.mono ?_; intro e w1 hP; obtain ⟨v, rfl, rfl, hW1⟩ := hP.got hg; refine Hid.out ?_)
  refine hid ?_
  have HW1 : Aside (Went R w w1 l1) := hW1
  clear hN hg hP hW1
  go_wp2_with fail
  go_loopg [7, 11] n (fun g1 vv vi wr => ∃ (k : Nat), vi = .int .u32 k ∧ k ≤ n ∧ n - k ≤ g1 ∧ Aside (∃ (xs : List Ft) (lk : List UInt8), xs.length = k ∧ wr.ownsRow w.heap.size 97 2 vv k (xs.flatMap factC) ∧ (∀ x ∈ xs, FtOwn B wr x) ∧ Went R w wr lk ∧ k + lk.length ≤ l1.length ∧ pTimes p n l1 = (pTimes p (n - k) lk).map fun z => (xs.map pf ++ z.1, z.2)))
  case atStart => exact ⟨0, rfl, Nat.zero_le _, Nat.le_refl _, [], l1, rfl, World.ownsRow_nil _ _ _ _, by simp, HW1.out, by omega, by simp⟩
  case round =>
   obtain ⟨k, rfl, hk, hgk, SK⟩ := hrel
   by_cases hlt : k < n
   ·have hltz : (k : Int) < (n : Int) := by omega
    obtain ⟨xs, lk, hx1, hx2, hx3, hx4, hx5, hx6⟩ := SK.out
    obtain ⟨j, hj⟩ : ∃ j, n - k = j + 1 := ⟨n - k - 1, by omega⟩
    rw [hj] at hx6
    have hF := H.out.1 wr lk (Nat.le_trans H.out.2.2 hx4.grown.size) hx4.rdr (by omega)
    cases hq : p lk with
    | none =>
     have HN : Aside (pTimes p n l1 = none ∧ Went R w wr lk) := ⟨pTimes_miss hx6 hq, hx4⟩
     clear SK hx1 hx2 hx3 hx4 hx5 hx6 hj
     go_wp2_with fail
     refine hF.mono ?_
     intro e w2 hP
     obtain ⟨⟨m, rfl⟩, hgr⟩ := hP.miss hq
     exact ⟨rfl, PostX.none (E.out.trans HN.out.1) (grown_trans HN.out.2.grown hgr)⟩
    | some q =>
     obtain ⟨y, lk'⟩ := q
     have HS : Aside (xs.length = k ∧ wr.ownsRow w.heap.size 97 2 u7 k (xs.flatMap factC) ∧ (∀ x ∈ xs, FtOwn B wr x) ∧ Went R w wr lk ∧ (k + 1) + lk'.length ≤ l1.length ∧ pTimes p n l1 = (pTimes p j lk').map fun z => ((xs.map pf ++ [y]) ++ z.1, z.2)) :=
      ⟨hx1, hx2, hx3, hx4, by have := H.out.2.1 lk y lk' hq; omega, pTimes_step hx6 hq⟩
     have HJ : Hid (n - k = j + 1) := hj
     have hkl : k ≤ 60000 := by omega
     clear SK hx1 hx2 hx3 hx4 hx5 hx6 hj
     go_wp2_with fail
     refine hF.mono ?_
     intro e w2 hP
     obtain ⟨v2, rfl, hgot, hW2⟩ := hP.got hq
     clear hP hF hq
     obtain ⟨f0, rfl, rfl, hfo⟩ := hgot
     have hownx : Aside (FtOwn B w2 f0) := hfo
     unfold ftV
     have hWW : Aside (Went R w w2 lk') := HS.out.2.2.2.1.trans hW2
     have hbz : w.heap.size ≤ w2.heap.size := hWW.out.grown.size
     have hfarI : ∀ e, 104 ≠ e → Far wr (some R) e := fun e he => by
      obtain ⟨a, n, c, h⟩ := HS.out.2.2.2.1.rdr
      exact far_rdr h he
     have hown2 : w2.ownsRow w.heap.size 97 2 u7 k (xs.flatMap factC) := own_far HS.out.2.1 hW2.grown (hfarI _ (by decide))
     have HX : Aside (∀ x ∈ xs, FtOwn B w2 x) := fun x hx => (HS.out.2.2.1 x hx).far hW2.grown (hfarI _ (by decide))
     clear hW2
     go_wp2_with (at_builtin; refine wpList_append_lies _ rfl _ _ 38 rfl w.heap.size 97 i0 _ 2 32 Try.underlying38 hi hz0 hz1 hz2 rfl (by decide) _ k _ rfl (hown2.alloc _) ⟨w2.heap.size, 0, none⟩ 1 1 [Value.slice f0.a f0.k.length f0.cap, Value.int .i64 f0.v] rfl rfl (cells_two_new _ _ _ _) (by intro u hu; simp at hu; first | (rcases hu with rfl | rfl <;> rfl) | (subst hu; rfl)) (by omega) (by unfold maxLen; omega) (by omega) (by simp; omega) (w2.heap.size + 1) (by simp) ?_; intro g c3 w3 hown3 hgrow hat hglt)
     have S3 : Aside (∃ (xs : List Ft) (lk : List UInt8), xs.length = k + 1 ∧ w3.ownsRow w.heap.size 97 2 (.slice (some ⟨g, 0, none⟩) (k + 1) c3) (k + 1) (xs.flatMap factC) ∧ (∀ x ∈ xs, FtOwn B w3 x) ∧ Went R w w3 lk ∧ (k + 1) + lk.length ≤ l1.length ∧ pTimes p n l1 = (pTimes p (n - (k + 1)) lk).map fun z => (xs.map pf ++ z.1, z.2)) := by
      obtain ⟨a1, a2, a3, a4, a5, a6⟩ := HS.out
      have hfr : ∀ o e', 97 ≠ e' → Far (w2.alloc o) u7.ownBlock e' := fun o e' he => far_row (hown2.alloc o) he
      refine ⟨xs ++ [f0], lk', by simp [a1], ?_, fun x hx => ?_, (hWW.out.below (by (repeat (first | with_reducible exact Below.refl _ _ | (with_reducible refine Below.drew ?_) | (with_reducible refine Below.alloc ?_ (by first | omega | (simp; done) | (simp; omega)) _) | (with_reducible refine Below.setCell ?_ (by first | exact Nat.le_refl _ | omega | (simp; done) | (simp; omega)) _)))) hRlt).row hgrow (fun q hq => (hown2.lt q hq).1) hRlt, a5, ?_⟩
      ·have e1 : (xs ++ [f0]).flatMap factC = xs.flatMap factC ++ [Value.slice f0.a f0.k.length f0.cap, Value.int .i64 f0.v] := by simp [factC]
       rw [e1]; exact hown3
      ·rcases List.mem_append.1 hx with hx | hx
       ·exact (FtOwn.far (HX.out x hx) (World.grownBy_alloc _ _ none) (far_none _ _)).far hgrow (hfr _ _ (by decide))
       ·simp only [List.mem_singleton] at hx
        subst hx
        exact (FtOwn.far (hownx.out) (World.grownBy_alloc _ _ none) (far_none _ _)).far hgrow (hfr _ _ (by decide))
      ·rw [show n - (k + 1) = j by have := HJ.out; omega]
       first | exact a6 | (rw [a6]; simp)
     clear hown3 hgrow hat hglt hown2 HX hfarI
     go_wp2
     go_roundg (n - (k + 1))
     case measure => omega
     case rel => exact ⟨k + 1, by go_num, by omega, by omega, S3⟩
   ·have hltz : ¬ (k : Int) < (n : Int) := by omega
    have S3 : Aside (∃ (xs : List Ft) (lk : List UInt8), xs.length = k ∧ wr.ownsRow w.heap.size 97 2 u7 k (xs.flatMap factC) ∧ (∀ x ∈ xs, FtOwn B wr x) ∧ Went R w wr lk ∧ pTimes p n l1 = some (xs.map pf, lk)) := by
     obtain ⟨xs, lk, a1, a2, a3, a4, a5, a6⟩ := SK.out
     refine ⟨xs, lk, a1, a2, a3, a4, ?_⟩
     rw [a6, show n - k = 0 by omega]
     simp [pTimes]
    clear SK
    go_wp2
    go_ret
    obtain ⟨xs, lk, a1, a2, a3, a4, a5⟩ := S3.out
    refine PostX.some (E.out.trans a5) ?_ a4
    rw [← a1] at a2
    exact ⟨xs, rfl, own_mono a2 H.out.2.2, a3⟩

set_option maxHeartbeats 8000000 in
theorem readAll_span (R B f : Nat) (p : Ps PSpan) (size : Nat) (h1 : 1 ≤ size) (h4 : size ≤ 4) (eg : ∀ args w, (callFunc f args).run Try.prog w = .ok (.enter f args) w) (hf : Reads R B f p (fun y v _ => v = spV y ∧ I64 y.1 ∧ I64 y.2)) (hp : ∀ l y l', p l = some (y, l') → l'.length + 1 ≤ l.length)
  (w : World) (l : List UInt8) (hB : B ≤ w.heap.size) (hR : RdL R w l) (hl : l.length ≤ 60000) :
  Calls Try.prog 64 #[.pointer (some ⟨R, 0, none⟩), .int .i64 size, .func (.func f) #[] #[]] w fun e w' => PostX R w (pAll size p l) (fun ys v w' => SsOwn B w' v ys) e w' := by
 obtain ⟨i0, hi, hz0, hz1, hz2⟩ := info_parts info_span
 have hRlt := hR.lt
 have hN := ru32 R w l hR size h1 h4
 have H : Aside (Reads R B f p (fun y v _ => v = spV y ∧ I64 y.1 ∧ I64 y.2) ∧ (∀ l y l', p l = some (y, l') → l'.length + 1 ≤ l.length) ∧ B ≤ w.heap.size) := ⟨hf, hp, hB⟩
 clear hf hp hB hR
 cases hg : pInt size l with
 | none =>
  have E : Hid (pAll size p l = none) := pAll_none (pInt_getn hg)
  go_enter Try.func64, Try.ntmps64
  go_wp2_with (go_at_call 59; refine hN.mono ?_; intro e w1 hP; obtain ⟨⟨m, rfl⟩, hgr⟩ := hP.miss hg)
  exact ⟨rfl, PostX.none E.out hgr⟩
 | some q =>
  obtain ⟨y0, l1⟩ := q
  obtain ⟨n, rfl, hg1⟩ := pInt_get hg
  have hlt := (pInt_lt hg)
  have hn32 : n < 4294967296 := by
   have h2 := (pGet_val hg1).1
   have h3 : 256 ^ size ≤ 256 ^ 4 := Nat.pow_le_pow_right (by omega) h4
   rw [pow4n] at h3
   omega
  have E : Hid (pAll size p l = pTimes p n l1) := pAll_some hg1
  have hl1 : l1.length ≤ 60000 := by omega
  clear hlt hg1
  go_enter Try.func64, Try.ntmps64
  go_wp2_with (go_at_call 59; refine hN.mono ?_; intro e w1 hP; obtain ⟨v, rfl, rfl, hW1⟩ := hP.got hg; refine Hid.out ?_)
  refine hid ?_
  have HW1 : Aside (Went R w w1 l1) := hW1
  clear hN hg hP hW1
  go_wp2_with fail
  go_loopg [7, 11] n (fun g1 vv vi wr => ∃ (k : Nat), vi = .int .u32 k ∧ k ≤ n ∧ n - k ≤ g1 ∧ Aside (∃ (xs : List PSpan) (lk : List UInt8), xs.length = k ∧ wr.ownsRow w.heap.size 92 2 vv k (xs.flatMap spanC) ∧ (∀ x ∈ xs, I64 x.1 ∧ I64 x.2) ∧ Went R w wr lk ∧ k + lk.length ≤ l1.length ∧ pTimes p n l1 = (pTimes p (n - k) lk).map fun z => (xs ++ z.1, z.2)))
  case atStart => exact ⟨0, rfl, Nat.zero_le _, Nat.le_refl _, [], l1, rfl, World.ownsRow_nil _ _ _ _, by simp, HW1.out, by omega, by simp⟩
  case round =>
   obtain ⟨k, rfl, hk, hgk, SK⟩ := hrel
   by_cases hlt : k < n
   ·have hltz : (k : Int) < (n : Int) := by omega
    obtain ⟨xs, lk, hx1, hx2, hx3, hx4, hx5, hx6⟩ := SK.out
    obtain ⟨j, hj⟩ : ∃ j, n - k = j + 1 := ⟨n - k - 1, by omega⟩
    rw [hj] at hx6
    have hF := H.out.1 wr lk (Nat.le_trans H.out.2.2 hx4.grown.size) hx4.rdr (by omega)
    cases hq : p lk with
    | none =>
     have HN : Aside (pTimes p n l1 = none ∧ Went R w wr lk) := ⟨pTimes_miss hx6 hq, hx4⟩
     clear SK hx1 hx2 hx3 hx4 hx5 hx6 hj
     go_wp2_with fail
     refine hF.mono ?_
     intro e w2 hP
     obtain ⟨⟨m, rfl⟩, hgr⟩ := hP.miss hq
     exact ⟨rfl, PostX.none (E.out.trans HN.out.1) (grown_trans HN.out.2.grown hgr)⟩
    | some q =>
     obtain ⟨y, lk'⟩ := q
     have HS : Aside (xs.length = k ∧ wr.ownsRow w.heap.size 92 2 u7 k (xs.flatMap spanC) ∧ (∀ x ∈ xs, I64 x.1 ∧ I64 x.2) ∧ Went R w wr lk ∧ (k + 1) + lk'.length ≤ l1.length ∧ pTimes p n l1 = (pTimes p j lk').map fun z => ((xs ++ [y]) ++ z.1, z.2)) :=
      ⟨hx1, hx2, hx3, hx4, by have := H.out.2.1 lk y lk' hq; omega, pTimes_step hx6 hq⟩
     have HJ : Hid (n - k = j + 1) := hj
     have hkl : k ≤ 60000 := by omega
     clear SK hx1 hx2 hx3 hx4 hx5 hx6 hj
     go_wp2_with fail
     refine hF.mono ?_
     intro e w2 hP
     obtain ⟨v2, rfl, hgot, hW2⟩ := hP.got hq
     clear hP hF hq
     obtain ⟨rfl, hy64⟩ := hgot
     have hownx : Aside (I64 y.1 ∧ I64 y.2) := hy64
     unfold spV
     have hWW : Aside (Went R w w2 lk') := HS.out.2.2.2.1.trans hW2
     have hbz : w.heap.size ≤ w2.heap.size := hWW.out.grown.size
     have hfarI : ∀ e, 104 ≠ e → Far wr (some R) e := fun e he => by
      obtain ⟨a, n, c, h⟩ := HS.out.2.2.2.1.rdr
      exact far_rdr h he
     have hown2 : w2.ownsRow w.heap.size 92 2 u7 k (xs.flatMap spanC) := own_far HS.out.2.1 hW2.grown (hfarI _ (by decide))
     have HX : Aside (∀ x ∈ xs, I64 x.1 ∧ I64 x.2) := fun x hx => HS.out.2.2.1 x hx
     clear hW2
     go_wp2_with (at_builtin; refine wpList_append_lies _ rfl _ _ 39 rfl w.heap.size 92 i0 _ 2 16 Try.underlying39 hi hz0 hz1 hz2 rfl (by decide) _ k _ rfl (hown2.alloc _) ⟨w2.heap.size, 0, none⟩ 1 1 [Value.int .i64 y.1, Value.int .i64 y.2] rfl rfl (cells_two_new _ _ _ _) (by intro u hu; simp at hu; first | (rcases hu with rfl | rfl <;> rfl) | (subst hu; rfl)) (by omega) (by unfold maxLen; omega) (by omega) (by simp; omega) (w2.heap.size + 1) (by simp) ?_; intro g c3 w3 hown3 hgrow hat hglt)
     have S3 : Aside (∃ (xs : List PSpan) (lk : List UInt8), xs.length = k + 1 ∧ w3.ownsRow w.heap.size 92 2 (.slice (some ⟨g, 0, none⟩) (k + 1) c3) (k + 1) (xs.flatMap spanC) ∧ (∀ x ∈ xs, I64 x.1 ∧ I64 x.2) ∧ Went R w w3 lk ∧ (k + 1) + lk.length ≤ l1.length ∧ pTimes p n l1 = (pTimes p (n - (k + 1)) lk).map fun z => (xs ++ z.1, z.2)) := by
      obtain ⟨a1, a2, a3, a4, a5, a6⟩ := HS.out
      have hfr : ∀ o e', 92 ≠ e' → Far (w2.alloc o) u7.ownBlock e' := fun o e' he => far_row (hown2.alloc o) he
      refine ⟨xs ++ [y], lk', by simp [a1], ?_, fun x hx => ?_, (hWW.out.below (by (repeat (first | with_reducible exact Below.refl _ _ | (with_reducible refine Below.drew ?_) | (with_reducible refine Below.alloc ?_ (by first | omega | (simp; done) | (simp; omega)) _) | (with_reducible refine Below.setCell ?_ (by first | exact Nat.le_refl _ | omega | (simp; done) | (simp; omega)) _)))) hRlt).row hgrow (fun q hq => (hown2.lt q hq).1) hRlt, a5, ?_⟩
      ·have e1 : (xs ++ [y]).flatMap spanC = xs.flatMap spanC ++ [Value.int .i64 y.1, Value.int .i64 y.2] := by simp [spanC]
       rw [e1]; exact hown3
      ·rcases List.mem_append.1 hx with hx | hx
       ·exact HX.out x hx
       ·simp only [List.mem_singleton] at hx
        subst hx
        exact hownx.out
      ·rw [show n - (k + 1) = j by have := HJ.out; omega]
       first | exact a6 | (rw [a6]; simp)
     clear hown3 hgrow hat hglt hown2 HX hfarI
     go_wp2
     go_roundg (n - (k + 1))
     case measure => omega
     case rel => exact ⟨k + 1, by go_num, by omega, by omega, S3⟩
   ·have hltz : ¬ (k : Int) < (n : Int) := by omega
    have S3 : Aside (∃ (xs : List PSpan) (lk : List UInt8), xs.length = k ∧ wr.ownsRow w.heap.size 92 2 u7 k (xs.flatMap spanC) ∧ (∀ x ∈ xs, I64 x.1 ∧ I64 x.2) ∧ Went R w wr lk ∧ pTimes p n l1 = some (xs, lk)) := by
     obtain ⟨xs, lk, a1, a2, a3, a4, a5, a6⟩ := SK.out
     refine ⟨xs, lk, a1, a2, a3, a4, ?_⟩
     rw [a6, show n - k = 0 by omega]
     simp [pTimes]
    clear SK
    go_wp2
    go_ret
    obtain ⟨xs, lk, a1, a2, a3, a4, a5⟩ := S3.out
    refine PostX.some (E.out.trans a5) ?_ a4
    rw [← a1] at a2
    exact ⟨own_mono a2 H.out.2.2, a3⟩

set_option maxHeartbeats 8000000 in
theorem readAll_ent (R B f : Nat) (p : Ps PEnt) (size : Nat) (h1 : 1 ≤ size) (h4 : size ≤ 4) (eg : ∀ args w, (callFunc f args).run Try.prog w = .ok (.enter f args) w) (hf : Reads R B f p (fun y v w' => ∃ f, v = etV f ∧ pe f = y ∧ EtOwn B w' f)) (hp : ∀ l y l', p l = some (y, l') → l'.length + 1 ≤ l.length)
  (w : World) (l : List UInt8) (hB : B ≤ w.heap.size) (hR : RdL R w l) (hl : l.length ≤ 60000) :
  Calls Try.prog 67 #[.pointer (some ⟨R, 0, none⟩), .int .i64 size, .func (.func f) #[] #[]] w fun e w' => PostX R w (pAll size p l) (fun ys v w' => ∃ fs, fs.map pe = ys ∧ EsOwn B w' v fs) e w' := by
 obtain ⟨i0, hi, hz0, hz1, hz2⟩ := info_parts info_ent
 have hRlt := hR.lt
 have hN := ru32 R w l hR size h1 h4
 have H : Aside (Reads R B f p (fun y v w' => ∃ f, v = etV f ∧ pe f = y ∧ EtOwn B w' f) ∧ (∀ l y l', p l = some (y, l') → l'.length + 1 ≤ l.length) ∧ B ≤ w.heap.size) := ⟨hf, hp, hB⟩
 clear hf hp hB hR
 cases hg : pInt size l with
 | none =>
  have E : Hid (pAll size p l = none) := pAll_none (pInt_getn hg)
  go_enter Try.func67, Try.ntmps67
  go_wp2_with (go_at_call 59; refine hN.mono ?_; intro e w1 hP; obtain ⟨⟨m, rfl⟩, hgr⟩ := hP.miss hg)
  exact ⟨rfl, PostX.none E.out hgr⟩
 | some q =>
  obtain ⟨y0, l1⟩ := q
  obtain ⟨n, rfl, hg1⟩ := pInt_get hg
  have hlt := (pInt_lt hg)
  have hn32 : n < 4294967296 := by
   have h2 := (pGet_val hg1).1
   have h3 : 256 ^ size ≤ 256 ^ 4 := Nat.pow_le_pow_right (by omega) h4
   rw [pow4n] at h3
   omega
  have E : Hid (pAll size p l = pTimes p n l1) := pAll_some hg1
  have hl1 : l1.length ≤ 60000 := by omega
  clear hlt hg1
  go_enter Try.func67, Try.ntmps67
  go_wp2_with (go_at_call 59; refine hN.mono ?_; intro e w1 hP; obtain ⟨v, rfl, rfl, hW1⟩ := hP.got hg; refine Hid.out ?_)
  refine hid ?_
  have HW1 : Aside (Went R w w1 l1) := hW1
  clear hN hg hP hW1
  go_wp2_with fail
  go_loopg [7, 11] n (fun g1 vv vi wr => ∃ (k : Nat), vi = .int .u32 k ∧ k ≤ n ∧ n - k ≤ g1 ∧ Aside (∃ (xs : List Et) (lk : List UInt8), xs.length = k ∧ wr.ownsRow w.heap.size 77 2 vv k (xs.flatMap entC) ∧ (∀ x ∈ xs, EtOwn B wr x) ∧ Went R w wr lk ∧ k + lk.length ≤ l1.length ∧ pTimes p n l1 = (pTimes p (n - k) lk).map fun z => (xs.map pe ++ z.1, z.2)))
  case atStart => exact ⟨0, rfl, Nat.zero_le _, Nat.le_refl _, [], l1, rfl, World.ownsRow_nil _ _ _ _, by simp, HW1.out, by omega, by simp⟩
  case round =>
   obtain ⟨k, rfl, hk, hgk, SK⟩ := hrel
   by_cases hlt : k < n
   ·have hltz : (k : Int) < (n : Int) := by omega
    obtain ⟨xs, lk, hx1, hx2, hx3, hx4, hx5, hx6⟩ := SK.out
    obtain ⟨j, hj⟩ : ∃ j, n - k = j + 1 := ⟨n - k - 1, by omega⟩
    rw [hj] at hx6
    have hF := H.out.1 wr lk (Nat.le_trans H.out.2.2 hx4.grown.size) hx4.rdr (by omega)
    cases hq : p lk with
    | none =>
     have HN : Aside (pTimes p n l1 = none ∧ Went R w wr lk) := ⟨pTimes_miss hx6 hq, hx4⟩
     clear SK hx1 hx2 hx3 hx4 hx5 hx6 hj
     go_wp2_with fail
     refine hF.mono ?_
     intro e w2 hP
     obtain ⟨⟨m, rfl⟩, hgr⟩ := hP.miss hq
     exact ⟨rfl, PostX.none (E.out.trans HN.out.1) (grown_trans HN.out.2.grown hgr)⟩
    | some q =>
     obtain ⟨y, lk'⟩ := q
     have HS : Aside (xs.length = k ∧ wr.ownsRow w.heap.size 77 2 u7 k (xs.flatMap entC) ∧ (∀ x ∈ xs, EtOwn B wr x) ∧ Went R w wr lk ∧ (k + 1) + lk'.length ≤ l1.length ∧ pTimes p n l1 = (pTimes p j lk').map fun z => ((xs.map pe ++ [y]) ++ z.1, z.2)) :=
      ⟨hx1, hx2, hx3, hx4, by have := H.out.2.1 lk y lk' hq; omega, pTimes_step hx6 hq⟩
     have HJ : Hid (n - k = j + 1) := hj
     have hkl : k ≤ 60000 := by omega
     clear SK hx1 hx2 hx3 hx4 hx5 hx6 hj
     go_wp2_with fail
     refine hF.mono ?_
     intro e w2 hP
     obtain ⟨v2, rfl, hgot, hW2⟩ := hP.got hq
     clear hP hF hq
     obtain ⟨f0, rfl, rfl, hfo⟩ := hgot
     have hownx : Aside (EtOwn B w2 f0) := hfo
     unfold etV
     have hWW : Aside (Went R w w2 lk') := HS.out.2.2.2.1.trans hW2
     have hbz : w.heap.size ≤ w2.heap.size := hWW.out.grown.size
     have hfarI : ∀ e, 104 ≠ e → Far wr (some R) e := fun e he => by
      obtain ⟨a, n, c, h⟩ := HS.out.2.2.2.1.rdr
      exact far_rdr h he
     have hown2 : w2.ownsRow w.heap.size 77 2 u7 k (xs.flatMap entC) := own_far HS.out.2.1 hW2.grown (hfarI _ (by decide))
     have HX : Aside (∀ x ∈ xs, EtOwn B w2 x) := fun x hx => (HS.out.2.2.1 x hx).far hW2.grown (hfarI _ (by decide)) (hfarI _ (by decide))
     clear hW2
     go_wp2_with (at_builtin; refine wpList_append_lies _ rfl _ _ 42 rfl w.heap.size 77 i0 _ 2 32 Try.underlying42 hi hz0 hz1 hz2 rfl (by decide) _ k _ rfl (hown2.alloc _) ⟨w2.heap.size, 0, none⟩ 1 1 [Value.int .u32 f0.t, Value.slice f0.a f0.fs.length f0.cap] rfl rfl (cells_two_new _ _ _ _) (by intro u hu; simp at hu; first | (rcases hu with rfl | rfl <;> rfl) | (subst hu; rfl)) (by omega) (by unfold maxLen; omega) (by omega) (by simp; omega) (w2.heap.size + 1) (by simp) ?_; intro g c3 w3 hown3 hgrow hat hglt)
     have S3 : Aside (∃ (xs : List Et) (lk : List UInt8), xs.length = k + 1 ∧ w3.ownsRow w.heap.size 77 2 (.slice (some ⟨g, 0, none⟩) (k + 1) c3) (k + 1) (xs.flatMap entC) ∧ (∀ x ∈ xs, EtOwn B w3 x) ∧ Went R w w3 lk ∧ (k + 1) + lk.length ≤ l1.length ∧ pTimes p n l1 = (pTimes p (n - (k + 1)) lk).map fun z => (xs.map pe ++ z.1, z.2)) := by
      obtain ⟨a1, a2, a3, a4, a5, a6⟩ := HS.out
      have hfr : ∀ o e', 77 ≠ e' → Far (w2.alloc o) u7.ownBlock e' := fun o e' he => far_row (hown2.alloc o) he
      refine ⟨xs ++ [f0], lk', by simp [a1], ?_, fun x hx => ?_, (hWW.out.below (by (repeat (first | with_reducible exact Below.refl _ _ | (with_reducible refine Below.drew ?_) | (with_reducible refine Below.alloc ?_ (by first | omega | (simp; done) | (simp; omega)) _) | (with_reducible refine Below.setCell ?_ (by first | exact Nat.le_refl _ | omega | (simp; done) | (simp; omega)) _)))) hRlt).row hgrow (fun q hq => (hown2.lt q hq).1) hRlt, a5, ?_⟩
      ·have e1 : (xs ++ [f0]).flatMap entC = xs.flatMap entC ++ [Value.int .u32 f0.t, Value.slice f0.a f0.fs.length f0.cap] := by simp [entC]
       rw [e1]; exact hown3
      ·rcases List.mem_append.1 hx with hx | hx
       ·exact (EtOwn.far (HX.out x hx) (World.grownBy_alloc _ _ none) (far_none _ _) (far_none _ _)).far hgrow (hfr _ _ (by decide)) (hfr _ _ (by decide))
       ·simp only [List.mem_singleton] at hx
        subst hx
        exact (EtOwn.far (hownx.out) (World.grownBy_alloc _ _ none) (far_none _ _) (far_none _ _)).far hgrow (hfr _ _ (by decide)) (hfr _ _ (by decide))
      ·rw [show n - (k + 1) = j by have := HJ.out; omega]
       first | exact a6 | (rw [a6]; simp)
     clear hown3 hgrow hat hglt hown2 HX hfarI
     go_wp2
     go_roundg (n - (k + 1))
     case measure => omega
     case rel => exact ⟨k + 1, by go_num, by omega, by omega, S3⟩
   ·have hltz : ¬ (k : Int) < (n : Int) := by omega
    have S3 : Aside (∃ (xs : List Et) (lk : List UInt8), xs.length = k ∧ wr.ownsRow w.heap.size 77 2 u7 k (xs.flatMap entC) ∧ (∀ x ∈ xs, EtOwn B wr x) ∧ Went R w wr lk ∧ pTimes p n l1 = some (xs.map pe, lk)) := by
     obtain ⟨xs, lk, a1, a2, a3, a4, a5, a6⟩ := SK.out
     refine ⟨xs, lk, a1, a2, a3, a4, ?_⟩
     rw [a6, show n - k = 0 by omega]
     simp [pTimes]
    clear SK
    go_wp2
    go_ret
    obtain ⟨xs, lk, a1, a2, a3, a4, a5⟩ := S3.out
    refine PostX.some (E.out.trans a5) ?_ a4
    rw [← a1] at a2
    exact ⟨xs, rfl, own_mono a2 H.out.2.2, a3⟩
end Go.Proofs.Ytlcjllgfpfldlaa.code

namespace Go.Proofs.Ytlcjllgfpfldlaa.code
open Go.ChangeShapes Go.WideShapes Go.ChangeAt Go.RowKit Go.Deep
open Go.Proofs.Ytlcjllgfpfldlaa.dims (nth Ints cell_lt vals vals_len vals_get own_below own_mono own_out RowOut ret_bool)
set_option linter.unusedVariables false
set_option maxRecDepth 100000

theorem readNode_any (R B : Nat) : Reads R B 61 (pInt 1) (fun y v _ => v = .int .i64 y ∧ I64 y) := by
 intro w l hB hR hl
 have hC := rint R w l hR 1 (by omega) (by omega)
 cases hq : pInt 1 l with
 | none =>
  go_enter Try.func61, Try.ntmps61
  go_wp2_with (go_at_call 66; refine hC.mono ?_; intro e w1 hP; obtain ⟨⟨m, rfl⟩, hgr⟩ := hP.miss hq)
  exact ⟨rfl, PostX.none rfl hgr⟩
 | some q =>
  obtain ⟨y, l'⟩ := q
  have hy : I64 y := by have := pInt_lt hq; unfold I64; rw [pow1] at this; omega
  go_enter Try.func61, Try.ntmps61
  go_wp2_with (go_at_call 66; refine hC.mono ?_; intro e w1 hP; obtain ⟨v, rfl, rfl, hW⟩ := hP.got hq)
  go_ret
  exact PostX.some rfl ⟨rfl, hy⟩ hW
theorem readPlace_any (R B : Nat) : Reads R B 82 (pInt 4) (fun y v _ => v = .int .i64 y ∧ I64 y) := by
 intro w l hB hR hl
 have hC := rint R w l hR 4 (by omega) (by omega)
 cases hq : pInt 4 l with
 | none =>
  go_enter Try.func82, Try.ntmps82
  go_wp2_with (go_at_call 66; refine hC.mono ?_; intro e w1 hP; obtain ⟨⟨m, rfl⟩, hgr⟩ := hP.miss hq)
  exact ⟨rfl, PostX.none rfl hgr⟩
 | some q =>
  obtain ⟨y, l'⟩ := q
  have hy : I64 y := by have := pInt_lt hq; unfold I64; rw [pow4] at this; omega
  go_enter Try.func82, Try.ntmps82
  go_wp2_with (go_at_call 66; refine hC.mono ?_; intro e w1 hP; obtain ⟨v, rfl, rfl, hW⟩ := hP.got hq)
  go_ret
  exact PostX.some rfl ⟨rfl, hy⟩ hW
theorem pInt_less {k : Nat} (hk : 1 ≤ k) : ∀ l y l', pInt k l = some (y, l') → l'.length + 1 ≤ l.length := fun l y l' h => by have := (pInt_lt h).2.2; omega
theorem pTimes_len {γ : Type} {p : Ps γ} (hp : ∀ l y l', p l = some (y, l') → l'.length + 1 ≤ l.length) : ∀ n l ys l', pTimes p n l = some (ys, l') → l'.length + n ≤ l.length
 | 0, l, ys, l', h => by simp [pTimes] at h; rw [← h.2]; omega
 | n + 1, l, ys, l', h => by
  simp only [pTimes] at h
  obtain ⟨⟨y, l1⟩, h1, h2⟩ := Option.bind_eq_some_iff.1 h
  obtain ⟨⟨zs, l2⟩, h3, h4⟩ := Option.map_eq_some_iff.1 h2
  simp only [Prod.mk.injEq] at h4
  obtain ⟨-, rfl⟩ := h4
  have := hp l y l1 h1
  have := pTimes_len hp n l1 zs l2 h3
  omega
theorem pAll_less {γ : Type} {p : Ps γ} (hp : ∀ l y l', p l = some (y, l') → l'.length + 1 ≤ l.length) {k : Nat} (hk : 1 ≤ k) : ∀ l y l', pAll k p l = some (y, l') → l'.length + 1 ≤ l.length := fun l y l' h => by
 unfold pAll at h
 obtain ⟨⟨n, l1⟩, h1, h2⟩ := Option.bind_eq_some_iff.1 h
 have := (pGet_val h1).2
 have := pTimes_len hp n l1 y l' h2
 omega


theorem pPlaces_less : ∀ l y l', pAll 1 (pInt 4) l = some (y, l') → l'.length + 1 ≤ l.length := pAll_less (pInt_less (by omega)) (by omega)
theorem pI64_less : ∀ l y l', pI64 l = some (y, l') → l'.length + 1 ≤ l.length := fun l y l' h => by have := (pI64_lt h).2; omega

theorem pFact_none1 {l : List UInt8} (h : pAll 1 (pInt 4) l = none) : pFact l = none := by unfold pFact; rw [h]; rfl
theorem pFact_none2 {l l1 : List UInt8} {k : List Int} (h : pAll 1 (pInt 4) l = some (k, l1)) (h2 : pI64 l1 = none) : pFact l = none := by unfold pFact; rw [h]; simp [h2]
theorem pFact_some {l l1 l2 : List UInt8} {k : List Int} {v : Int} (h : pAll 1 (pInt 4) l = some (k, l1)) (h2 : pI64 l1 = some (v, l2)) : pFact l = some ((k, v), l2) := by unfold pFact; rw [h]; simp [h2]
theorem pFact_less : ∀ l y l', pFact l = some (y, l') → l'.length + 1 ≤ l.length := fun l y l' h => by
 unfold pFact at h
 obtain ⟨⟨k, l1⟩, h1, h2⟩ := Option.bind_eq_some_iff.1 h
 obtain ⟨⟨v, l2⟩, h3, h4⟩ := Option.map_eq_some_iff.1 h2
 simp only [Prod.mk.injEq] at h4
 obtain ⟨-, rfl⟩ := h4
 have e1 := pPlaces_less l k l1 h1
 have e2 := pI64_less l1 v l2 h3
 omega

set_option maxHeartbeats 4000000 in
theorem readFact_any (R B : Nat) (hRB : R < B) : Reads R B 63 pFact (fun y v w' => ∃ f, v = ftV f ∧ pf f = y ∧ FtOwn B w' f) := by
 intro w l hB hR hl
 have hb0 : Below w.heap.size w (w.alloc (.cells #[.slice none 0 0, .int .i64 0] 97)) := by (repeat (first | with_reducible exact Below.refl _ _ | (with_reducible refine Below.drew ?_) | (with_reducible refine Below.alloc ?_ (by first | omega | (simp; done) | (simp; omega)) _) | (with_reducible refine Below.setCell ?_ (by first | exact Nat.le_refl _ | omega | (simp; done) | (simp; omega)) _)))
 have hx0 := Boxed.new w #[.slice none 0 0, .int .i64 0] 97
 have hRlt := hR.lt
 have H0 : Went R w (w.alloc (.cells #[.slice none 0 0, .int .i64 0] 97)) l := Went.start hR hb0
 generalize hW0 : w.alloc (.cells #[.slice none 0 0, .int .i64 0] 97) = W0 at hb0 hx0 H0
 have hBW : B ≤ W0.heap.size := Nat.le_trans hB hb0.size
 have hC1 := readAll_int R B 82 (pInt 4) 1 (by omega) (by omega) (fun _ _ => rfl) (readPlace_any R B) (pInt_less (by omega)) W0 l hBW H0.rdr hl
 have HW : Hid (w.alloc (.cells #[.slice none 0 0, .int .i64 0] 97) = W0) := hW0
 clear hb0 hR hW0
 cases hq : pAll 1 (pInt 4) l with
 | none =>
  have E : Hid (pFact l = none) := pFact_none1 hq
  go_enter Try.func63, Try.ntmps63
  go_wp2_with fail
  rw [HW.out]
  refine hC1.mono ?_
  intro e w1 hP
  obtain ⟨⟨m, rfl⟩, hgr⟩ := hP.miss hq
  exact ⟨rfl, PostX.none E.out (grown_trans H0.grown hgr)⟩
 | some q =>
  obtain ⟨ks, l1⟩ := q
  have hl1 : l1.length ≤ 60000 := by have := pPlaces_less l ks l1 hq; omega
  go_enter Try.func63, Try.ntmps63
  go_wp2_with fail
  rw [HW.out]
  refine hC1.mono ?_
  intro e w1 hP
  obtain ⟨v1, rfl, hg1, hW1⟩ := hP.got hq
  have hx1 := hx0.grown hW1.grown (by simp only [ne_eq, Option.some.injEq]; omega)
  have hWW : Went R w w1 l1 := H0.trans hW1
  have hBW1 : B ≤ w1.heap.size := Nat.le_trans hBW hW1.grown.size
  have hC2 := ri64 R w1 l1 hWW.rdr
  have hfar : ∀ e, 104 ≠ e → Far w1 (some R) e := fun e he => RdL.far hWW.rdr he
  clear hC1 hP HW H0 hx0
  cases hq2 : pI64 l1 with
  | none =>
   have E : Hid (pFact l = none) := pFact_none2 hq hq2
   clear hW1 hfar hx1
   go_wp2_with (go_at_call 83; refine hC2.mono ?_; intro e w2 hP; obtain ⟨⟨m, rfl⟩, hgr⟩ := hP.miss hq2)
   exact ⟨rfl, PostX.none E.out (grown_trans hWW.grown hgr)⟩
  | some q2 =>
   obtain ⟨y, l2⟩ := q2
   have E : Hid (pFact l = some ((ks, y), l2)) := pFact_some hq hq2
   have HQ : Hid (pAll 1 (pInt 4) l = some (ks, l1) ∧ pI64 l1 = some (y, l2)) := ⟨hq, hq2⟩
   go_wp2_with (go_at_call 83; refine hC2.mono ?_; intro e w2 hP; obtain ⟨v2, rfl, hg2, hW2⟩ := hP.got hq2; refine Hid.out ?_)
   refine hid ?_
   have hx2 := hx1.grown hW2.grown (by simp only [ne_eq, Option.some.injEq]; omega)
   have hWW2 : Went R w w2 l2 := hWW.trans hW2
   have c0 := hx2.cell (j := 0) rfl
   have c1 := hx2.cell (j := 1) rfl
   have z0 := hx2.frz 0
   have z1 := hx2.frz 1
   subst hg2
   obtain ⟨ka, kcap, hkv⟩ : ∃ ka kcap, v1 = .slice ka ks.length kcap := by
    obtain ⟨a, cap, e, -⟩ := (own_out hg1.own).1
    exact ⟨a, cap, e⟩
   subst hkv
   have HO : Aside (NsOwn B w2 (.slice ka ks.length kcap) ks) := hg1.far hW2.grown (hfar _ (by decide))
   clear hg1
   have HH : Aside (∀ x1 x2, w2.grownBy ((w2.setCell ⟨w.heap.size, 0, none⟩ x1).setCell ⟨w.heap.size, 1, none⟩ x2) (some w.heap.size)) := fun x1 x2 => grown_trans (grown_at _ _ _ _) (grown_at _ _ _ _)
   have HX2 : Aside (Boxed w2 w.heap.size #[.slice none 0 0, .int .i64 0] 97) := hx2
   have HE : Aside (Went R w w2 l2) := hWW2
   clear hC2 hP hW1 hW2 hfar hx1 hWW hWW2 hx2 hq hq2
   go_wp2
   refine bodyPost_ret (v := .agg #[.slice ka ks.length kcap, .int .i64 y]) (by simp [results, Try.results63, go_sem, *]) rfl ?_
   refine PostX.some E.out ?_ (HE.out.row (HH.out _ _) (fun g hg => by injection hg with hg; omega) hRlt)
   refine ⟨⟨ka, kcap, ks, y⟩, rfl, rfl, ?_, HO.out.all, (pI64_lt HQ.out.2).1⟩
   exact own_far HO.out.own (HH.out _ _) (HX2.out.far (by decide))

theorem pSpan_none1 {l : List UInt8} (h : pInt 4 l = none) : pSpan l = none := by unfold pSpan; rw [h]; rfl
theorem pSpan_none2 {l l1 : List UInt8} {k : Int} (h : pInt 4 l = some (k, l1)) (h2 : pInt 1 l1 = none) : pSpan l = none := by unfold pSpan; rw [h]; simp [h2]
theorem pSpan_some {l l1 l2 : List UInt8} {k : Int} {v : Int} (h : pInt 4 l = some (k, l1)) (h2 : pInt 1 l1 = some (v, l2)) : pSpan l = some ((k, v), l2) := by unfold pSpan; rw [h]; simp [h2]
theorem pSpan_less : ∀ l y l', pSpan l = some (y, l') → l'.length + 1 ≤ l.length := fun l y l' h => by
 unfold pSpan at h
 obtain ⟨⟨k, l1⟩, h1, h2⟩ := Option.bind_eq_some_iff.1 h
 obtain ⟨⟨v, l2⟩, h3, h4⟩ := Option.map_eq_some_iff.1 h2
 simp only [Prod.mk.injEq] at h4
 obtain ⟨-, rfl⟩ := h4
 have e1 := (pInt_less (by omega)) l k l1 h1
 have e2 := (pInt_less (by omega)) l1 v l2 h3
 omega

set_option maxHeartbeats 4000000 in
theorem readSpan_any (R B : Nat) (hRB : R < B) : Reads R B 65 pSpan (fun y v _ => v = spV y ∧ I64 y.1 ∧ I64 y.2) := by
 intro w l hB hR hl
 have hb0 : Below w.heap.size w (w.alloc (.cells #[.int .i64 0, .int .i64 0] 92)) := by (repeat (first | with_reducible exact Below.refl _ _ | (with_reducible refine Below.drew ?_) | (with_reducible refine Below.alloc ?_ (by first | omega | (simp; done) | (simp; omega)) _) | (with_reducible refine Below.setCell ?_ (by first | exact Nat.le_refl _ | omega | (simp; done) | (simp; omega)) _)))
 have hx0 := Boxed.new w #[.int .i64 0, .int .i64 0] 92
 have hRlt := hR.lt
 have H0 : Went R w (w.alloc (.cells #[.int .i64 0, .int .i64 0] 92)) l := Went.start hR hb0
 generalize hW0 : w.alloc (.cells #[.int .i64 0, .int .i64 0] 92) = W0 at hb0 hx0 H0
 have hBW : B ≤ W0.heap.size := Nat.le_trans hB hb0.size
 have hC1 := rint R W0 l H0.rdr 4 (by omega) (by omega)
 have HW : Hid (w.alloc (.cells #[.int .i64 0, .int .i64 0] 92) = W0) := hW0
 clear hb0 hR hW0
 cases hq : pInt 4 l with
 | none =>
  have E : Hid (pSpan l = none) := pSpan_none1 hq
  go_enter Try.func65, Try.ntmps65
  go_wp2_with fail
  rw [HW.out]
  refine hC1.mono ?_
  intro e w1 hP
  obtain ⟨⟨m, rfl⟩, hgr⟩ := hP.miss hq
  exact ⟨rfl, PostX.none E.out (grown_trans H0.grown hgr)⟩
 | some q =>
  obtain ⟨ks, l1⟩ := q
  have hl1 : l1.length ≤ 60000 := by have := (pInt_less (by omega)) l ks l1 hq; omega
  go_enter Try.func65, Try.ntmps65
  go_wp2_with fail
  rw [HW.out]
  refine hC1.mono ?_
  intro e w1 hP
  obtain ⟨v1, rfl, hg1, hW1⟩ := hP.got hq
  have hx1 := hx0.grown hW1.grown (by simp only [ne_eq, Option.some.injEq]; omega)
  have hWW : Went R w w1 l1 := H0.trans hW1
  have hBW1 : B ≤ w1.heap.size := Nat.le_trans hBW hW1.grown.size
  have hC2 := readNode_any R B w1 l1 hBW1 hWW.rdr hl1
  have hfar : ∀ e, 104 ≠ e → Far w1 (some R) e := fun e he => RdL.far hWW.rdr he
  clear hC1 hP HW H0 hx0
  cases hq2 : pInt 1 l1 with
  | none =>
   have E : Hid (pSpan l = none) := pSpan_none2 hq hq2
   clear hW1 hfar hx1
   go_wp2_with (go_at_call 61; refine hC2.mono ?_; intro e w2 hP; obtain ⟨⟨m, rfl⟩, hgr⟩ := hP.miss hq2)
   exact ⟨rfl, PostX.none E.out (grown_trans hWW.grown hgr)⟩
  | some q2 =>
   obtain ⟨y, l2⟩ := q2
   have E : Hid (pSpan l = some ((ks, y), l2)) := pSpan_some hq hq2
   have HQ : Hid (pInt 4 l = some (ks, l1) ∧ pInt 1 l1 = some (y, l2)) := ⟨hq, hq2⟩
   go_wp2_with (go_at_call 61; refine hC2.mono ?_; intro e w2 hP; obtain ⟨v2, rfl, hg2, hW2⟩ := hP.got hq2; refine Hid.out ?_)
   refine hid ?_
   have hx2 := hx1.grown hW2.grown (by simp only [ne_eq, Option.some.injEq]; omega)
   have hWW2 : Went R w w2 l2 := hWW.trans hW2
   have c0 := hx2.cell (j := 0) rfl
   have c1 := hx2.cell (j := 1) rfl
   have z0 := hx2.frz 0
   have z1 := hx2.frz 1
   obtain ⟨hg2, hy64⟩ := hg2
   subst hg2
   subst hg1
   have HH : Aside (∀ x1 x2, w2.grownBy ((w2.setCell ⟨w.heap.size, 0, none⟩ x1).setCell ⟨w.heap.size, 1, none⟩ x2) (some w.heap.size)) := fun x1 x2 => grown_trans (grown_at _ _ _ _) (grown_at _ _ _ _)
   have HX2 : Aside (Boxed w2 w.heap.size #[.int .i64 0, .int .i64 0] 92) := hx2
   have HE : Aside (Went R w w2 l2) := hWW2
   clear hC2 hP hW1 hW2 hfar hx1 hWW hWW2 hx2 hq hq2
   go_wp2
   refine bodyPost_ret (v := .agg #[.int .i64 ks, .int .i64 y]) (by simp [results, Try.results65, go_sem, *]) rfl ?_
   refine PostX.some E.out ?_ (HE.out.row (HH.out _ _) (fun g hg => by injection hg with hg; omega) hRlt)
   refine ⟨rfl, ?_, hy64⟩
   have := pInt_lt HQ.out.1
   rw [pow4] at this
   unfold I64
   simp only
   omega

theorem pFacts_less : ∀ l y l', pAll 4 pFact l = some (y, l') → l'.length + 1 ≤ l.length := pAll_less pFact_less (by omega)
theorem fs_form {B : Nat} {W : World} {v : Value} {fs : List Ft} (h : FsOwn B W v fs) : ∃ a cap, v = .slice a fs.length cap := by
 rcases h.own.2 with ⟨h1, h2⟩ | ⟨g, cap, cur, h1, _⟩
 ·rw [h1, h2]; exact ⟨_, _, rfl⟩
 ·exact ⟨_, _, h1⟩

theorem pEnt_none1 {l : List UInt8} (h : pInt 4 l = none) : pEnt l = none := by unfold pEnt; rw [h]; rfl
theorem pEnt_none2 {l l1 : List UInt8} {k : Int} (h : pInt 4 l = some (k, l1)) (h2 : pAll 4 pFact l1 = none) : pEnt l = none := by unfold pEnt; rw [h]; simp [h2]
theorem pEnt_some {l l1 l2 : List UInt8} {k : Int} {v : List PFact} (h : pInt 4 l = some (k, l1)) (h2 : pAll 4 pFact l1 = some (v, l2)) : pEnt l = some ((k, v), l2) := by unfold pEnt; rw [h]; simp [h2]
theorem pEnt_less : ∀ l y l', pEnt l = some (y, l') → l'.length + 1 ≤ l.length := fun l y l' h => by
 unfold pEnt at h
 obtain ⟨⟨k, l1⟩, h1, h2⟩ := Option.bind_eq_some_iff.1 h
 obtain ⟨⟨v, l2⟩, h3, h4⟩ := Option.map_eq_some_iff.1 h2
 simp only [Prod.mk.injEq] at h4
 obtain ⟨-, rfl⟩ := h4
 have e1 := (pInt_less (by omega)) l k l1 h1
 have e2 := pFacts_less l1 v l2 h3
 omega

set_option maxHeartbeats 4000000 in
theorem readEntry_any (R B : Nat) (hRB : R < B) : Reads R B 68 pEnt (fun y v w' => ∃ f, v = etV f ∧ pe f = y ∧ EtOwn B w' f) := by
 intro w l hB hR hl
 have hb0 : Below w.heap.size w (w.alloc (.cells #[.int .u32 0, .slice none 0 0] 77)) := by (repeat (first | with_reducible exact Below.refl _ _ | (with_reducible refine Below.drew ?_) | (with_reducible refine Below.alloc ?_ (by first | omega | (simp; done) | (simp; omega)) _) | (with_reducible refine Below.setCell ?_ (by first | exact Nat.le_refl _ | omega | (simp; done) | (simp; omega)) _)))
 have hx0 := Boxed.new w #[.int .u32 0, .slice none 0 0] 77
 have hRlt := hR.lt
 have H0 : Went R w (w.alloc (.cells #[.int .u32 0, .slice none 0 0] 77)) l := Went.start hR hb0
 generalize hW0 : w.alloc (.cells #[.int .u32 0, .slice none 0 0] 77) = W0 at hb0 hx0 H0
 have hBW : B ≤ W0.heap.size := Nat.le_trans hB hb0.size
 have hC1 := ru32 R W0 l H0.rdr 4 (by omega) (by omega)
 have HW : Hid (w.alloc (.cells #[.int .u32 0, .slice none 0 0] 77) = W0) := hW0
 clear hb0 hR hW0
 cases hq : pInt 4 l with
 | none =>
  have E : Hid (pEnt l = none) := pEnt_none1 hq
  go_enter Try.func68, Try.ntmps68
  go_wp2_with fail
  rw [HW.out]
  refine hC1.mono ?_
  intro e w1 hP
  obtain ⟨⟨m, rfl⟩, hgr⟩ := hP.miss hq
  exact ⟨rfl, PostX.none E.out (grown_trans H0.grown hgr)⟩
 | some q =>
  obtain ⟨ks, l1⟩ := q
  have hl1 : l1.length ≤ 60000 := by have := (pInt_less (by omega)) l ks l1 hq; omega
  go_enter Try.func68, Try.ntmps68
  go_wp2_with fail
  rw [HW.out]
  refine hC1.mono ?_
  intro e w1 hP
  obtain ⟨v1, rfl, hg1, hW1⟩ := hP.got hq
  have hx1 := hx0.grown hW1.grown (by simp only [ne_eq, Option.some.injEq]; omega)
  have hWW : Went R w w1 l1 := H0.trans hW1
  have hBW1 : B ≤ w1.heap.size := Nat.le_trans hBW hW1.grown.size
  have hC2 := readAll_fact R B 63 pFact 4 (by omega) (by omega) (fun _ _ => rfl) (readFact_any R B hRB) pFact_less w1 l1 hBW1 hWW.rdr hl1
  have hfar : ∀ e, 104 ≠ e → Far w1 (some R) e := fun e he => RdL.far hWW.rdr he
  clear hC1 hP HW H0 hx0
  cases hq2 : pAll 4 pFact l1 with
  | none =>
   have E : Hid (pEnt l = none) := pEnt_none2 hq hq2
   clear hW1 hfar hx1
   go_wp2_with (go_at_call 62; refine hC2.mono ?_; intro e w2 hP; obtain ⟨⟨m, rfl⟩, hgr⟩ := hP.miss hq2)
   exact ⟨rfl, PostX.none E.out (grown_trans hWW.grown hgr)⟩
  | some q2 =>
   obtain ⟨y, l2⟩ := q2
   have E : Hid (pEnt l = some ((ks, y), l2)) := pEnt_some hq hq2
   have HQ : Hid (pInt 4 l = some (ks, l1) ∧ pAll 4 pFact l1 = some (y, l2)) := ⟨hq, hq2⟩
   go_wp2_with (go_at_call 62; refine hC2.mono ?_; intro e w2 hP; obtain ⟨v2, rfl, hg2, hW2⟩ := hP.got hq2; refine Hid.out ?_)
   refine hid ?_
   have hx2 := hx1.grown hW2.grown (by simp only [ne_eq, Option.some.injEq]; omega)
   have hWW2 : Went R w w2 l2 := hWW.trans hW2
   have c0 := hx2.cell (j := 0) rfl
   have c1 := hx2.cell (j := 1) rfl
   have z0 := hx2.frz 0
   have z1 := hx2.frz 1
   subst hg1
   obtain ⟨fs, hfs, hfo⟩ := hg2
   obtain ⟨ka, kcap, hkv⟩ := fs_form hfo
   subst hkv
   have HO : Aside (fs.map pf = y ∧ FsOwn B w2 (.slice ka fs.length kcap) fs) := ⟨hfs, hfo⟩
   clear hfs hfo
   have HH : Aside (∀ x1 x2, w2.grownBy ((w2.setCell ⟨w.heap.size, 0, none⟩ x1).setCell ⟨w.heap.size, 1, none⟩ x2) (some w.heap.size)) := fun x1 x2 => grown_trans (grown_at _ _ _ _) (grown_at _ _ _ _)
   have HX2 : Aside (Boxed w2 w.heap.size #[.int .u32 0, .slice none 0 0] 77) := hx2
   have HE : Aside (Went R w w2 l2) := hWW2
   clear hC2 hP hW1 hW2 hfar hx1 hWW hWW2 hx2 hq hq2
   go_wp2
   refine bodyPost_ret (v := .agg #[.int .u32 ks, .slice ka fs.length kcap]) (by simp [results, Try.results68, go_sem, *]) rfl ?_
   refine PostX.some E.out ?_ (HE.out.row (HH.out _ _) (fun g hg => by injection hg with hg; omega) hRlt)
   refine ⟨⟨ks, ka, kcap, fs⟩, rfl, ?_, HO.out.2.far (HH.out _ _) (HX2.out.far (by decide)) (HX2.out.far (by decide)), ?_⟩
   ·show (ks, fs.map pf) = (ks, y)
    rw [HO.out.1]
   ·have := pInt_lt HQ.out.1
    rw [pow4] at this
    unfold U32
    simp only
    omega

theorem pEnts_less : ∀ l y l', pAll 4 pEnt l = some (y, l') → l'.length + 1 ≤ l.length := pAll_less pEnt_less (by omega)
theorem pSpans_less : ∀ l y l', pAll 1 pSpan l = some (y, l') → l'.length + 1 ≤ l.length := pAll_less pSpan_less (by omega)
theorem pNodes_less : ∀ l y l', pAll 1 (pInt 1) l = some (y, l') → l'.length + 1 ≤ l.length := pAll_less (pInt_less (by omega)) (by omega)
end Go.Proofs.Ytlcjllgfpfldlaa.code
