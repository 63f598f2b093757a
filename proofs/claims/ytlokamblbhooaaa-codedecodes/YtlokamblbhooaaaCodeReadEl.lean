/-
  A node, a place, a fact, a span, an entry read: the program's functions.
-/
import Derived.Test.YtlokamblbhooaaaCodeReadAll
namespace Go.Proofs.Ytlokamblbhooaaa.code
open Go.ChangeShapes Go.WideShapes Go.ChangeAt Go.RowKit Go.Deep
open Go.Proofs.Ytlokamblbhooaaa.dims (nth Ints cell_lt vals vals_len vals_get vals_one vals_app own_below own_mono own_out own_apart RowOut ret_bool ret_int)
set_option linter.unusedVariables false
set_option maxRecDepth 100000

theorem readNode_any (R B : Nat) : Reads R B 60 (pInt 1) (fun y v _ => v = .int .i64 y ∧ I64 y) := by
  intro w l hB hR hl
  have hC := rint R w l hR 1 (by omega) (by omega)
  cases hq : pInt 1 l with
  | none =>
    go_enter Try.func60, Try.ntmps60
    go_wp2_with (go_at_call 65; refine hC.mono ?_; intro e w1 hP; obtain ⟨⟨m, rfl⟩, hgr⟩ := hP.miss hq)
    exact ⟨rfl, PostX.none rfl hgr⟩
  | some q =>
    obtain ⟨y, l'⟩ := q
    have hy : I64 y := by have := pInt_lt hq; unfold I64; rw [pow1] at this; omega
    go_enter Try.func60, Try.ntmps60
    go_wp2_with (go_at_call 65; refine hC.mono ?_; intro e w1 hP; obtain ⟨v, rfl, rfl, hW⟩ := hP.got hq)
    go_ret
    exact PostX.some rfl ⟨rfl, hy⟩ hW
theorem readPlace_any (R B : Nat) : Reads R B 76 (pInt 4) (fun y v _ => v = .int .i64 y ∧ I64 y) := by
  intro w l hB hR hl
  have hC := rint R w l hR 4 (by omega) (by omega)
  cases hq : pInt 4 l with
  | none =>
    go_enter Try.func76, Try.ntmps76
    go_wp2_with (go_at_call 65; refine hC.mono ?_; intro e w1 hP; obtain ⟨⟨m, rfl⟩, hgr⟩ := hP.miss hq)
    exact ⟨rfl, PostX.none rfl hgr⟩
  | some q =>
    obtain ⟨y, l'⟩ := q
    have hy : I64 y := by have := pInt_lt hq; unfold I64; rw [pow4] at this; omega
    go_enter Try.func76, Try.ntmps76
    go_wp2_with (go_at_call 65; refine hC.mono ?_; intro e w1 hP; obtain ⟨v, rfl, rfl, hW⟩ := hP.got hq)
    go_ret
    exact PostX.some rfl ⟨rfl, hy⟩ hW
theorem pInt_less {k : Nat} (hk : 1 ≤ k) : ∀ l y l', pInt k l = some (y, l') → l'.length + 1 ≤ l.length := fun l y l' h => by have := (pInt_lt h).2.2; omega
theorem pTimes_len {γ : Type} {p : Ps γ} (hp : ∀ l y l', p l = some (y, l') → l'.length + 1 ≤ l.length) : ∀ n l ys l', pTimes p n l = some (ys, l') → l'.length + n ≤ l.length
  | 0, l, ys, l', h => by simp [pTimes] at h; rw [← h.2]; omega
  | n + 1, l, ys, l', h => by
    simp only [pTimes] at h
    obtain ⟨⟨y, l1⟩, h1, h2⟩ := Option.bind_eq_some_iff.1 h
    obtain ⟨⟨zs, l2⟩, h3, h4⟩ := Option.map_eq_some_iff.1 h2
    simp only [Prod.mk.injEq] at h4
    obtain ⟨-, rfl⟩ := h4
    have := hp l y l1 h1
    have := pTimes_len hp n l1 zs l2 h3
    omega
theorem pAll_less {γ : Type} {p : Ps γ} (hp : ∀ l y l', p l = some (y, l') → l'.length + 1 ≤ l.length) {k : Nat} (hk : 1 ≤ k) : ∀ l y l', pAll k p l = some (y, l') → l'.length + 1 ≤ l.length := fun l y l' h => by
  unfold pAll at h
  obtain ⟨⟨n, l1⟩, h1, h2⟩ := Option.bind_eq_some_iff.1 h
  have := (pGet_val h1).2
  have := pTimes_len hp n l1 y l' h2
  omega


theorem pPlaces_less : ∀ l y l', pAll 1 (pInt 4) l = some (y, l') → l'.length + 1 ≤ l.length := pAll_less (pInt_less (by omega)) (by omega)
theorem pI64_less : ∀ l y l', pI64 l = some (y, l') → l'.length + 1 ≤ l.length := fun l y l' h => by have := (pI64_lt h).2; omega

theorem pFact_none1 {l : List UInt8} (h : pAll 1 (pInt 4) l = none) : pFact l = none := by unfold pFact; rw [h]; rfl
theorem pFact_none2 {l l1 : List UInt8} {k : List Int} (h : pAll 1 (pInt 4) l = some (k, l1)) (h2 : pI64 l1 = none) : pFact l = none := by unfold pFact; rw [h]; simp [h2]
theorem pFact_some {l l1 l2 : List UInt8} {k : List Int} {v : Int} (h : pAll 1 (pInt 4) l = some (k, l1)) (h2 : pI64 l1 = some (v, l2)) : pFact l = some ((k, v), l2) := by unfold pFact; rw [h]; simp [h2]
theorem pFact_less : ∀ l y l', pFact l = some (y, l') → l'.length + 1 ≤ l.length := fun l y l' h => by
  unfold pFact at h
  obtain ⟨⟨k, l1⟩, h1, h2⟩ := Option.bind_eq_some_iff.1 h
  obtain ⟨⟨v, l2⟩, h3, h4⟩ := Option.map_eq_some_iff.1 h2
  simp only [Prod.mk.injEq] at h4
  obtain ⟨-, rfl⟩ := h4
  have e1 := pPlaces_less l k l1 h1
  have e2 := pI64_less l1 v l2 h3
  omega

set_option maxHeartbeats 4000000 in
theorem readFact_any (R B : Nat) (hRB : R < B) : Reads R B 62 pFact (fun y v w' => ∃ f, v = ftV f ∧ pf f = y ∧ FtOwn B w' f) := by
  intro w l hB hR hl
  have hb0 : Below w.heap.size w (w.alloc (.cells #[.slice none 0 0, .int .i64 0] 53)) := by (repeat (first | with_reducible exact Below.refl _ _ | (with_reducible refine Below.drew ?_) | (with_reducible refine Below.alloc ?_ (by first | omega | (simp; done) | (simp; omega)) _) | (with_reducible refine Below.setCell ?_ (by first | exact Nat.le_refl _ | omega | (simp; done) | (simp; omega)) _)))
  have hx0 := Boxed.new w #[.slice none 0 0, .int .i64 0] 53
  have hRlt := hR.lt
  have H0 : Went R w (w.alloc (.cells #[.slice none 0 0, .int .i64 0] 53)) l := Went.start hR hb0
  generalize hW0 : w.alloc (.cells #[.slice none 0 0, .int .i64 0] 53) = W0 at hb0 hx0 H0
  have hBW : B ≤ W0.heap.size := Nat.le_trans hB hb0.size
  have hC1 := readAll_int R B 76 (pInt 4) 1 (by omega) (by omega) (fun _ _ => rfl) (readPlace_any R B) (pInt_less (by omega)) W0 l hBW H0.rdr hl
  have HW : Hid (w.alloc (.cells #[.slice none 0 0, .int .i64 0] 53) = W0) := hW0
  clear hb0 hR hW0
  cases hq : pAll 1 (pInt 4) l with
  | none =>
    have E : Hid (pFact l = none) := pFact_none1 hq
    go_enter Try.func62, Try.ntmps62
    go_wp2_with fail
    rw [HW.out]
    refine hC1.mono ?_
    intro e w1 hP
    obtain ⟨⟨m, rfl⟩, hgr⟩ := hP.miss hq
    exact ⟨rfl, PostX.none E.out (grown_trans H0.grown hgr)⟩
  | some q =>
    obtain ⟨ks, l1⟩ := q
    have hl1 : l1.length ≤ 60000 := by have := pPlaces_less l ks l1 hq; omega
    go_enter Try.func62, Try.ntmps62
    go_wp2_with fail
    rw [HW.out]
    refine hC1.mono ?_
    intro e w1 hP
    obtain ⟨v1, rfl, hg1, hW1⟩ := hP.got hq
    have hx1 := hx0.grown hW1.grown (by simp only [ne_eq, Option.some.injEq]; omega)
    have hWW : Went R w w1 l1 := H0.trans hW1
    have hBW1 : B ≤ w1.heap.size := Nat.le_trans hBW hW1.grown.size
    have hC2 := ri64 R w1 l1 hWW.rdr
    have hfar : ∀ e, 77 ≠ e → Far w1 (some R) e := fun e he => RdL.far hWW.rdr he
    clear hC1 hP HW H0 hx0
    cases hq2 : pI64 l1 with
    | none =>
      have E : Hid (pFact l = none) := pFact_none2 hq hq2
      clear hW1 hfar hx1
      go_wp2_with (go_at_call 77; refine hC2.mono ?_; intro e w2 hP; obtain ⟨⟨m, rfl⟩, hgr⟩ := hP.miss hq2)
      exact ⟨rfl, PostX.none E.out (grown_trans hWW.grown hgr)⟩
    | some q2 =>
      obtain ⟨y, l2⟩ := q2
      have E : Hid (pFact l = some ((ks, y), l2)) := pFact_some hq hq2
      have HQ : Hid (pAll 1 (pInt 4) l = some (ks, l1) ∧ pI64 l1 = some (y, l2)) := ⟨hq, hq2⟩
      go_wp2_with (go_at_call 77; refine hC2.mono ?_; intro e w2 hP; obtain ⟨v2, rfl, hg2, hW2⟩ := hP.got hq2; refine Hid.out ?_)
      refine hid ?_
      have hx2 := hx1.grown hW2.grown (by simp only [ne_eq, Option.some.injEq]; omega)
      have hWW2 : Went R w w2 l2 := hWW.trans hW2
      have c0 := hx2.cell (j := 0) rfl
      have c1 := hx2.cell (j := 1) rfl
      have z0 := hx2.frz 0
      have z1 := hx2.frz 1
      subst hg2
      obtain ⟨ka, kcap, hkv⟩ : ∃ ka kcap, v1 = .slice ka ks.length kcap := by
        obtain ⟨a, cap, e, -⟩ := (own_out hg1.own).1
        exact ⟨a, cap, e⟩
      subst hkv
      have HO : Aside (NsOwn B w2 (.slice ka ks.length kcap) ks) := hg1.far hW2.grown (hfar _ (by decide))
      clear hg1
      have HH : Aside (∀ x1 x2, w2.grownBy ((w2.setCell ⟨w.heap.size, 0, none⟩ x1).setCell ⟨w.heap.size, 1, none⟩ x2) (some w.heap.size)) := fun x1 x2 => grown_trans (grown_at _ _ _ _) (grown_at _ _ _ _)
      have HX2 : Aside (Boxed w2 w.heap.size #[.slice none 0 0, .int .i64 0] 53) := hx2
      have HE : Aside (Went R w w2 l2) := hWW2
      clear hC2 hP hW1 hW2 hfar hx1 hWW hWW2 hx2 hq hq2
      go_wp2
      refine bodyPost_ret (v := .agg #[.slice ka ks.length kcap, .int .i64 y]) (by simp [results, Try.results62, go_sem, *]) rfl ?_
      refine PostX.some E.out ?_ (HE.out.row (HH.out _ _) (fun g hg => by injection hg with hg; omega) hRlt)
      refine ⟨⟨ka, kcap, ks, y⟩, rfl, rfl, ?_, HO.out.all, (pI64_lt HQ.out.2).1⟩
      exact own_far HO.out.own (HH.out _ _) (HX2.out.far (by decide))

theorem pSpan_none1 {l : List UInt8} (h : pInt 4 l = none) : pSpan l = none := by unfold pSpan; rw [h]; rfl
theorem pSpan_none2 {l l1 : List UInt8} {k : Int} (h : pInt 4 l = some (k, l1)) (h2 : pInt 1 l1 = none) : pSpan l = none := by unfold pSpan; rw [h]; simp [h2]
theorem pSpan_some {l l1 l2 : List UInt8} {k : Int} {v : Int} (h : pInt 4 l = some (k, l1)) (h2 : pInt 1 l1 = some (v, l2)) : pSpan l = some ((k, v), l2) := by unfold pSpan; rw [h]; simp [h2]
theorem pSpan_less : ∀ l y l', pSpan l = some (y, l') → l'.length + 1 ≤ l.length := fun l y l' h => by
  unfold pSpan at h
  obtain ⟨⟨k, l1⟩, h1, h2⟩ := Option.bind_eq_some_iff.1 h
  obtain ⟨⟨v, l2⟩, h3, h4⟩ := Option.map_eq_some_iff.1 h2
  simp only [Prod.mk.injEq] at h4
  obtain ⟨-, rfl⟩ := h4
  have e1 := (pInt_less (by omega)) l k l1 h1
  have e2 := (pInt_less (by omega)) l1 v l2 h3
  omega

set_option maxHeartbeats 4000000 in
theorem readSpan_any (R B : Nat) (hRB : R < B) : Reads R B 64 pSpan (fun y v _ => v = spV y ∧ I64 y.1 ∧ I64 y.2) := by
  intro w l hB hR hl
  have hb0 : Below w.heap.size w (w.alloc (.cells #[.int .i64 0, .int .i64 0] 63)) := by (repeat (first | with_reducible exact Below.refl _ _ | (with_reducible refine Below.drew ?_) | (with_reducible refine Below.alloc ?_ (by first | omega | (simp; done) | (simp; omega)) _) | (with_reducible refine Below.setCell ?_ (by first | exact Nat.le_refl _ | omega | (simp; done) | (simp; omega)) _)))
  have hx0 := Boxed.new w #[.int .i64 0, .int .i64 0] 63
  have hRlt := hR.lt
  have H0 : Went R w (w.alloc (.cells #[.int .i64 0, .int .i64 0] 63)) l := Went.start hR hb0
  generalize hW0 : w.alloc (.cells #[.int .i64 0, .int .i64 0] 63) = W0 at hb0 hx0 H0
  have hBW : B ≤ W0.heap.size := Nat.le_trans hB hb0.size
  have hC1 := rint R W0 l H0.rdr 4 (by omega) (by omega)
  have HW : Hid (w.alloc (.cells #[.int .i64 0, .int .i64 0] 63) = W0) := hW0
  clear hb0 hR hW0
  cases hq : pInt 4 l with
  | none =>
    have E : Hid (pSpan l = none) := pSpan_none1 hq
    go_enter Try.func64, Try.ntmps64
    go_wp2_with fail
    rw [HW.out]
    refine hC1.mono ?_
    intro e w1 hP
    obtain ⟨⟨m, rfl⟩, hgr⟩ := hP.miss hq
    exact ⟨rfl, PostX.none E.out (grown_trans H0.grown hgr)⟩
  | some q =>
    obtain ⟨ks, l1⟩ := q
    have hl1 : l1.length ≤ 60000 := by have := (pInt_less (by omega)) l ks l1 hq; omega
    go_enter Try.func64, Try.ntmps64
    go_wp2_with fail
    rw [HW.out]
    refine hC1.mono ?_
    intro e w1 hP
    obtain ⟨v1, rfl, hg1, hW1⟩ := hP.got hq
    have hx1 := hx0.grown hW1.grown (by simp only [ne_eq, Option.some.injEq]; omega)
    have hWW : Went R w w1 l1 := H0.trans hW1
    have hBW1 : B ≤ w1.heap.size := Nat.le_trans hBW hW1.grown.size
    have hC2 := readNode_any R B w1 l1 hBW1 hWW.rdr hl1
    have hfar : ∀ e, 77 ≠ e → Far w1 (some R) e := fun e he => RdL.far hWW.rdr he
    clear hC1 hP HW H0 hx0
    cases hq2 : pInt 1 l1 with
    | none =>
      have E : Hid (pSpan l = none) := pSpan_none2 hq hq2
      clear hW1 hfar hx1
      go_wp2_with (go_at_call 60; refine hC2.mono ?_; intro e w2 hP; obtain ⟨⟨m, rfl⟩, hgr⟩ := hP.miss hq2)
      exact ⟨rfl, PostX.none E.out (grown_trans hWW.grown hgr)⟩
    | some q2 =>
      obtain ⟨y, l2⟩ := q2
      have E : Hid (pSpan l = some ((ks, y), l2)) := pSpan_some hq hq2
      have HQ : Hid (pInt 4 l = some (ks, l1) ∧ pInt 1 l1 = some (y, l2)) := ⟨hq, hq2⟩
      go_wp2_with (go_at_call 60; refine hC2.mono ?_; intro e w2 hP; obtain ⟨v2, rfl, hg2, hW2⟩ := hP.got hq2; refine Hid.out ?_)
      refine hid ?_
      have hx2 := hx1.grown hW2.grown (by simp only [ne_eq, Option.some.injEq]; omega)
      have hWW2 : Went R w w2 l2 := hWW.trans hW2
      have c0 := hx2.cell (j := 0) rfl
      have c1 := hx2.cell (j := 1) rfl
      have z0 := hx2.frz 0
      have z1 := hx2.frz 1
      obtain ⟨hg2, hy64⟩ := hg2
      subst hg2
      subst hg1
      have HH : Aside (∀ x1 x2, w2.grownBy ((w2.setCell ⟨w.heap.size, 0, none⟩ x1).setCell ⟨w.heap.size, 1, none⟩ x2) (some w.heap.size)) := fun x1 x2 => grown_trans (grown_at _ _ _ _) (grown_at _ _ _ _)
      have HX2 : Aside (Boxed w2 w.heap.size #[.int .i64 0, .int .i64 0] 63) := hx2
      have HE : Aside (Went R w w2 l2) := hWW2
      clear hC2 hP hW1 hW2 hfar hx1 hWW hWW2 hx2 hq hq2
      go_wp2
      refine bodyPost_ret (v := .agg #[.int .i64 ks, .int .i64 y]) (by simp [results, Try.results64, go_sem, *]) rfl ?_
      refine PostX.some E.out ?_ (HE.out.row (HH.out _ _) (fun g hg => by injection hg with hg; omega) hRlt)
      refine ⟨rfl, ?_, hy64⟩
      have := pInt_lt HQ.out.1
      rw [pow4] at this
      unfold I64
      simp only
      omega

theorem pFacts_less : ∀ l y l', pAll 4 pFact l = some (y, l') → l'.length + 1 ≤ l.length := pAll_less pFact_less (by omega)
theorem fs_form {B : Nat} {W : World} {v : Value} {fs : List Ft} (h : FsOwn B W v fs) : ∃ a cap, v = .slice a fs.length cap := by
  rcases h.own.2 with ⟨h1, h2⟩ | ⟨g, cap, cur, h1, _⟩
  · rw [h1, h2]; exact ⟨_, _, rfl⟩
  · exact ⟨_, _, h1⟩

theorem pEnt_none1 {l : List UInt8} (h : pInt 4 l = none) : pEnt l = none := by unfold pEnt; rw [h]; rfl
theorem pEnt_none2 {l l1 : List UInt8} {k : Int} (h : pInt 4 l = some (k, l1)) (h2 : pAll 4 pFact l1 = none) : pEnt l = none := by unfold pEnt; rw [h]; simp [h2]
theorem pEnt_some {l l1 l2 : List UInt8} {k : Int} {v : List PFact} (h : pInt 4 l = some (k, l1)) (h2 : pAll 4 pFact l1 = some (v, l2)) : pEnt l = some ((k, v), l2) := by unfold pEnt; rw [h]; simp [h2]
theorem pEnt_less : ∀ l y l', pEnt l = some (y, l') → l'.length + 1 ≤ l.length := fun l y l' h => by
  unfold pEnt at h
  obtain ⟨⟨k, l1⟩, h1, h2⟩ := Option.bind_eq_some_iff.1 h
  obtain ⟨⟨v, l2⟩, h3, h4⟩ := Option.map_eq_some_iff.1 h2
  simp only [Prod.mk.injEq] at h4
  obtain ⟨-, rfl⟩ := h4
  have e1 := (pInt_less (by omega)) l k l1 h1
  have e2 := pFacts_less l1 v l2 h3
  omega

set_option maxHeartbeats 4000000 in
theorem readEntry_any (R B : Nat) (hRB : R < B) : Reads R B 67 pEnt (fun y v w' => ∃ f, v = etV f ∧ pe f = y ∧ EtOwn B w' f) := by
  intro w l hB hR hl
  have hb0 : Below w.heap.size w (w.alloc (.cells #[.int .u32 0, .slice none 0 0] 56)) := by (repeat (first | with_reducible exact Below.refl _ _ | (with_reducible refine Below.drew ?_) | (with_reducible refine Below.alloc ?_ (by first | omega | (simp; done) | (simp; omega)) _) | (with_reducible refine Below.setCell ?_ (by first | exact Nat.le_refl _ | omega | (simp; done) | (simp; omega)) _)))
  have hx0 := Boxed.new w #[.int .u32 0, .slice none 0 0] 56
  have hRlt := hR.lt
  have H0 : Went R w (w.alloc (.cells #[.int .u32 0, .slice none 0 0] 56)) l := Went.start hR hb0
  generalize hW0 : w.alloc (.cells #[.int .u32 0, .slice none 0 0] 56) = W0 at hb0 hx0 H0
  have hBW : B ≤ W0.heap.size := Nat.le_trans hB hb0.size
  have hC1 := ru32 R W0 l H0.rdr 4 (by omega) (by omega)
  have HW : Hid (w.alloc (.cells #[.int .u32 0, .slice none 0 0] 56) = W0) := hW0
  clear hb0 hR hW0
  cases hq : pInt 4 l with
  | none =>
    have E : Hid (pEnt l = none) := pEnt_none1 hq
    go_enter Try.func67, Try.ntmps67
    go_wp2_with fail
    rw [HW.out]
    refine hC1.mono ?_
    intro e w1 hP
    obtain ⟨⟨m, rfl⟩, hgr⟩ := hP.miss hq
    exact ⟨rfl, PostX.none E.out (grown_trans H0.grown hgr)⟩
  | some q =>
    obtain ⟨ks, l1⟩ := q
    have hl1 : l1.length ≤ 60000 := by have := (pInt_less (by omega)) l ks l1 hq; omega
    go_enter Try.func67, Try.ntmps67
    go_wp2_with fail
    rw [HW.out]
    refine hC1.mono ?_
    intro e w1 hP
    obtain ⟨v1, rfl, hg1, hW1⟩ := hP.got hq
    have hx1 := hx0.grown hW1.grown (by simp only [ne_eq, Option.some.injEq]; omega)
    have hWW : Went R w w1 l1 := H0.trans hW1
    have hBW1 : B ≤ w1.heap.size := Nat.le_trans hBW hW1.grown.size
    have hC2 := readAll_fact R B 62 pFact 4 (by omega) (by omega) (fun _ _ => rfl) (readFact_any R B hRB) pFact_less w1 l1 hBW1 hWW.rdr hl1
    have hfar : ∀ e, 77 ≠ e → Far w1 (some R) e := fun e he => RdL.far hWW.rdr he
    clear hC1 hP HW H0 hx0
    cases hq2 : pAll 4 pFact l1 with
    | none =>
      have E : Hid (pEnt l = none) := pEnt_none2 hq hq2
      clear hW1 hfar hx1
      go_wp2_with (go_at_call 61; refine hC2.mono ?_; intro e w2 hP; obtain ⟨⟨m, rfl⟩, hgr⟩ := hP.miss hq2)
      exact ⟨rfl, PostX.none E.out (grown_trans hWW.grown hgr)⟩
    | some q2 =>
      obtain ⟨y, l2⟩ := q2
      have E : Hid (pEnt l = some ((ks, y), l2)) := pEnt_some hq hq2
      have HQ : Hid (pInt 4 l = some (ks, l1) ∧ pAll 4 pFact l1 = some (y, l2)) := ⟨hq, hq2⟩
      go_wp2_with (go_at_call 61; refine hC2.mono ?_; intro e w2 hP; obtain ⟨v2, rfl, hg2, hW2⟩ := hP.got hq2; refine Hid.out ?_)
      refine hid ?_
      have hx2 := hx1.grown hW2.grown (by simp only [ne_eq, Option.some.injEq]; omega)
      have hWW2 : Went R w w2 l2 := hWW.trans hW2
      have c0 := hx2.cell (j := 0) rfl
      have c1 := hx2.cell (j := 1) rfl
      have z0 := hx2.frz 0
      have z1 := hx2.frz 1
      subst hg1
      obtain ⟨fs, hfs, hfo⟩ := hg2
      obtain ⟨ka, kcap, hkv⟩ := fs_form hfo
      subst hkv
      have HO : Aside (fs.map pf = y ∧ FsOwn B w2 (.slice ka fs.length kcap) fs) := ⟨hfs, hfo⟩
      clear hfs hfo
      have HH : Aside (∀ x1 x2, w2.grownBy ((w2.setCell ⟨w.heap.size, 0, none⟩ x1).setCell ⟨w.heap.size, 1, none⟩ x2) (some w.heap.size)) := fun x1 x2 => grown_trans (grown_at _ _ _ _) (grown_at _ _ _ _)
      have HX2 : Aside (Boxed w2 w.heap.size #[.int .u32 0, .slice none 0 0] 56) := hx2
      have HE : Aside (Went R w w2 l2) := hWW2
      clear hC2 hP hW1 hW2 hfar hx1 hWW hWW2 hx2 hq hq2
      go_wp2
      refine bodyPost_ret (v := .agg #[.int .u32 ks, .slice ka fs.length kcap]) (by simp [results, Try.results67, go_sem, *]) rfl ?_
      refine PostX.some E.out ?_ (HE.out.row (HH.out _ _) (fun g hg => by injection hg with hg; omega) hRlt)
      refine ⟨⟨ks, ka, kcap, fs⟩, rfl, ?_, HO.out.2.far (HH.out _ _) (HX2.out.far (by decide)) (HX2.out.far (by decide)), ?_⟩
      · show (ks, fs.map pf) = (ks, y)
        rw [HO.out.1]
      · have := pInt_lt HQ.out.1
        rw [pow4] at this
        unfold U32
        simp only
        omega

theorem pEnts_less : ∀ l y l', pAll 4 pEnt l = some (y, l') → l'.length + 1 ≤ l.length := pAll_less pEnt_less (by omega)
theorem pSpans_less : ∀ l y l', pAll 1 pSpan l = some (y, l') → l'.length + 1 ≤ l.length := pAll_less pSpan_less (by omega)
theorem pNodes_less : ∀ l y l', pAll 1 (pInt 1) l = some (y, l') → l'.length + 1 ≤ l.length := pAll_less (pInt_less (by omega)) (by omega)
end Go.Proofs.Ytlokamblbhooaaa.code
