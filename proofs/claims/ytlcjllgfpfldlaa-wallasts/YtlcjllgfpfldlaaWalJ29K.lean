/-
 Lists laid behind bytes: the program's layAll at each of its types.
 A node, a place, a fact, a span, an entry laid behind bytes: the program's functions.
-/
import Derived.Test.YtlcjllgfpfldlaaWalJ28K
import Derived.Test.YtlcjllgfpfldlaaWalJ19K
namespace Go.Proofs.Ytlcjllgfpfldlaa.code
open Go.ChangeShapes Go.WideShapes Go.ChangeAt Go.RowKit Go.Deep
open Go.Proofs.Ytlcjllgfpfldlaa.dims (nth Ints cell_lt vals vals_len vals_get own_below own_mono own_out RowOut ret_bool)
set_option linter.unusedVariables false
set_option maxRecDepth 100000

/-- a function that lays one behind bytes -/
def Lays {α : Type} (w0 : World) (f : Nat) (val : α → Value) (enc : α → List UInt8) (x : α) : Prop :=
 ∀ W V L, Below w0.heap.size w0 W → Bs w0.heap.size W V L → L.length + (enc x).length ≤ 60000 → Calls Try.prog f #[V, val x] W fun e W' => ∃ V', e = .returned V' ∧ Bs w0.heap.size W' V' (L ++ enc x) ∧ Gr W V W' V'

set_option maxHeartbeats 4000000 in
theorem layAll_int (w0 : World) (f : Nat) (enc : Int → List UInt8) (a : Option Addr) (xs : List Int) (n c size : Nat) (hI : Ints w0 a xs) (hn : xs.length = n) (hs : size ≤ 8) (eg : ∀ args w, (callFunc f args).run Try.prog w = .ok (.enter f args) w) (hf : ∀ x ∈ xs, Lays w0 f (Value.int .i64) enc x)
  (w : World) (v : Value) (l : List UInt8) (hb : Below w0.heap.size w0 w) (ho : Bs w0.heap.size w v l) (hm : n ≤ 60000) (hl : l.length + size + (xs.flatMap enc).length ≤ 60000) :
  Calls Try.prog 89 #[v, .int .i64 size, .slice a n c, .func (.func f) #[] #[]] w fun e w' => ∃ v', e = .returned v' ∧ Bs w0.heap.size w' v' (l ++ (putI xs.length size ++ xs.flatMap enc)) ∧ Gr w v w' v' := by
 have hB := hb.size
 have hC := lay_int w0.heap.size size n (by omega) hs v l w ho hB (by omega)
 have H : Aside (Ints w0 a xs ∧ xs.length = n ∧ (∀ x ∈ xs, Lays w0 f (Value.int .i64) enc x) ∧ Below w0.heap.size w0 w ∧ Bs w0.heap.size w v l) := ⟨hI, hn, hf, hb, ho⟩
 have HL : Aside (l.length + size + (xs.flatMap enc).length ≤ 60000) := hl
 clear hI hn hf hb ho hl
 go_enter Try.func89, Try.ntmps89
 go_wp2_with (go_at_call 95; refine hC.mono ?_; rintro e w1 ⟨v1, rfl, hown1, hgr1⟩; refine Hid.out ?_)
 refine hid ?_
 have S1 : Aside (Bs w0.heap.size w1 v1 (l ++ (putI xs.length size ++ (xs.take 0).flatMap enc)) ∧ Gr w v w1 v1) := by
  refine ⟨?_, hgr1⟩
  rw [H.out.2.1]
  simpa using hown1
 clear hown1 hgr1 hC
 go_wp2_with fail
 go_loopg [0, 18] n (fun g1 vv vi wr => ∃ (k : Nat), vi = .int .i64 k ∧ k ≤ n ∧ n - k ≤ g1 ∧ Aside (Bs w0.heap.size wr vv (l ++ (putI xs.length size ++ (xs.take k).flatMap enc)) ∧ Gr w v wr vv))
 case atStart => exact ⟨0, rfl, Nat.zero_le _, Nat.le_refl _, S1⟩
 case round =>
  clear S1
  obtain ⟨k, rfl, hk, hg1, SK⟩ := hrel
  have HBW : Aside (Below w0.heap.size w0 wr) := H.out.2.2.2.1.trans (SK.out.2.below H.out.2.2.2.2 H.out.2.2.2.1.size)
  by_cases hlt : k < n
  ·have hltz : (k : Int) < (n : Int) := by omega
   have hkl : k < xs.length := by rw [H.out.2.1]; exact hlt
   obtain ⟨b, off, ha, hc⟩ := (H.out.1.keep HBW.out).get hkl
   subst ha
   have hcc := hc k hkl
   clear hc
   have hmem : nth xs k ∈ xs := nth_mem hkl
   have HT : Hid ((xs.take (k + 1)).flatMap enc = (xs.take k).flatMap enc ++ enc (nth xs k)) := by show _ = _; rw [take_nth xs k hkl, List.flatMap_append]; simp
   have hlen2 : (l ++ (putI xs.length size ++ (xs.take k).flatMap enc)).length + (enc (nth xs k)).length ≤ 60000 := by
    have h1 := flat_take enc xs (k + 1)
    rw [HT.out] at h1
    have h2 := HL.out
    simp only [List.length_append, putI_len] at h1 ⊢
    omega
   obtain ⟨va, vc, hvv⟩ := Bs.form SK.out.1
   generalize hD : l ++ (putI xs.length size ++ (xs.take k).flatMap enc) = D at SK hlen2 hvv
   obtain ⟨m, hmD⟩ : ∃ m, D.length = m := ⟨_, rfl⟩
   rw [hmD] at hvv
   subst hvv
   have hmz : ¬ (60000 : Int) < (m : Int) := by omega
   have HDD : Hid (l ++ (putI xs.length size ++ (xs.take k).flatMap enc) = D) := hD
   clear hD
   have hF := fun W (hW : Below wr.heap.size wr W) => H.out.2.2.1 _ hmem W (.slice va m vc) D (HBW.out.trans (hW.mono HBW.out.size)) (SK.out.1.keep hW) hlen2
   clear hlen2 hmem hmD
   have r0 := hcc
   clear hcc
   generalize nth xs k = x at r0 hF HT
   go_wp2_with fail
   refine (hF _ (by (repeat (first | with_reducible exact Below.refl _ _ | (with_reducible refine Below.drew ?_) | (with_reducible refine Below.alloc ?_ (by first | omega | (simp; done) | (simp; omega)) _) | (with_reducible refine Below.setCell ?_ (by first | exact Nat.le_refl _ | omega | (simp; done) | (simp; omega)) _))))).mono ?_
   rintro e w2 ⟨v2, rfl, hown2, hgr2⟩
   have S2 : Aside (Bs w0.heap.size w2 v2 (l ++ (putI xs.length size ++ (xs.take (k + 1)).flatMap enc)) ∧ Gr w v w2 v2) := by
    refine ⟨?_, SK.out.2.trans ((Gr.of_below _ (by (repeat (first | with_reducible exact Below.refl _ _ | (with_reducible refine Below.drew ?_) | (with_reducible refine Below.alloc ?_ (by first | omega | (simp; done) | (simp; omega)) _) | (with_reducible refine Below.setCell ?_ (by first | exact Nat.le_refl _ | omega | (simp; done) | (simp; omega)) _))))).trans hgr2)⟩
    rw [HT.out, ← List.append_assoc (putI _ _), ← List.append_assoc l, HDD.out]; exact hown2
   clear hown2 hgr2 hF
   go_wp2
   go_roundg (n - (k + 1))
   case measure => omega
   case rel => exact ⟨k + 1, by go_num, by omega, by omega, S2⟩
  ·have hltz : ¬ (k : Int) < (n : Int) := by omega
   have S2 : Aside (Bs w0.heap.size wr u0 (l ++ (putI xs.length size ++ xs.flatMap enc)) ∧ Gr w v wr u0) := by
    have h := SK.out
    rw [List.take_of_length_le (by rw [H.out.2.1]; omega)] at h
    exact h
   clear SK
   go_wp2
   go_ret
   exact ⟨_, rfl, S2.out.1, S2.out.2⟩

set_option maxHeartbeats 4000000 in
theorem layAll_fact (w0 : World) (f : Nat) (enc : Ft → List UInt8) (a : Option Addr) (xs : List Ft) (n c size : Nat) (hI : FactsIn w0 a xs) (hn : xs.length = n) (hs : size ≤ 8) (eg : ∀ args w, (callFunc f args).run Try.prog w = .ok (.enter f args) w) (hf : ∀ x ∈ xs, Lays w0 f ftV enc x)
  (w : World) (v : Value) (l : List UInt8) (hb : Below w0.heap.size w0 w) (ho : Bs w0.heap.size w v l) (hm : n ≤ 60000) (hl : l.length + size + (xs.flatMap enc).length ≤ 60000) :
  Calls Try.prog 91 #[v, .int .i64 size, .slice a n c, .func (.func f) #[] #[]] w fun e w' => ∃ v', e = .returned v' ∧ Bs w0.heap.size w' v' (l ++ (putI xs.length size ++ xs.flatMap enc)) ∧ Gr w v w' v' := by
 have hB := hb.size
 have hC := lay_int w0.heap.size size n (by omega) hs v l w ho hB (by omega)
 have H : Aside (FactsIn w0 a xs ∧ xs.length = n ∧ (∀ x ∈ xs, Lays w0 f ftV enc x) ∧ Below w0.heap.size w0 w ∧ Bs w0.heap.size w v l) := ⟨hI, hn, hf, hb, ho⟩
 have HL : Aside (l.length + size + (xs.flatMap enc).length ≤ 60000) := hl
 clear hI hn hf hb ho hl
 go_enter Try.func91, Try.ntmps91
 go_wp2_with (go_at_call 95; refine hC.mono ?_; rintro e w1 ⟨v1, rfl, hown1, hgr1⟩; refine Hid.out ?_)
 refine hid ?_
 have S1 : Aside (Bs w0.heap.size w1 v1 (l ++ (putI xs.length size ++ (xs.take 0).flatMap enc)) ∧ Gr w v w1 v1) := by
  refine ⟨?_, hgr1⟩
  rw [H.out.2.1]
  simpa using hown1
 clear hown1 hgr1 hC
 go_wp2_with fail
 go_loopg [0, 18] n (fun g1 vv vi wr => ∃ (k : Nat), vi = .int .i64 k ∧ k ≤ n ∧ n - k ≤ g1 ∧ Aside (Bs w0.heap.size wr vv (l ++ (putI xs.length size ++ (xs.take k).flatMap enc)) ∧ Gr w v wr vv))
 case atStart => exact ⟨0, rfl, Nat.zero_le _, Nat.le_refl _, S1⟩
 case round =>
  clear S1
  obtain ⟨k, rfl, hk, hg1, SK⟩ := hrel
  have HBW : Aside (Below w0.heap.size w0 wr) := H.out.2.2.2.1.trans (SK.out.2.below H.out.2.2.2.2 H.out.2.2.2.1.size)
  by_cases hlt : k < n
  ·have hltz : (k : Int) < (n : Int) := by omega
   have hkl : k < xs.length := by rw [H.out.2.1]; exact hlt
   obtain ⟨b, off, ha, hc⟩ := (H.out.1.keep HBW.out).get hkl
   subst ha
   have hcc := hc k hkl
   clear hc
   have hmem : ftn xs k ∈ xs := ftn_mem hkl
   have HT : Hid ((xs.take (k + 1)).flatMap enc = (xs.take k).flatMap enc ++ enc (ftn xs k)) := by show _ = _; rw [take_ftn xs k hkl, List.flatMap_append]; simp
   have hlen2 : (l ++ (putI xs.length size ++ (xs.take k).flatMap enc)).length + (enc (ftn xs k)).length ≤ 60000 := by
    have h1 := flat_take enc xs (k + 1)
    rw [HT.out] at h1
    have h2 := HL.out
    simp only [List.length_append, putI_len] at h1 ⊢
    omega
   obtain ⟨va, vc, hvv⟩ := Bs.form SK.out.1
   generalize hD : l ++ (putI xs.length size ++ (xs.take k).flatMap enc) = D at SK hlen2 hvv
   obtain ⟨m, hmD⟩ : ∃ m, D.length = m := ⟨_, rfl⟩
   rw [hmD] at hvv
   subst hvv
   have hmz : ¬ (60000 : Int) < (m : Int) := by omega
   have HDD : Hid (l ++ (putI xs.length size ++ (xs.take k).flatMap enc) = D) := hD
   clear hD
   have hF := fun W (hW : Below wr.heap.size wr W) => H.out.2.2.1 _ hmem W (.slice va m vc) D (HBW.out.trans (hW.mono HBW.out.size)) (SK.out.1.keep hW) hlen2
   clear hlen2 hmem hmD
   obtain ⟨r0, r1, -⟩ := hcc
   unfold ftV at hF
   generalize (ftn xs k).a = x0 at r0 hF
   generalize (ftn xs k).k.length = x1 at r0 hF
   generalize (ftn xs k).cap = x2 at r0 hF
   generalize (ftn xs k).v = x3 at r1 hF
   go_wp2_with fail
   refine (hF _ (by (repeat (first | with_reducible exact Below.refl _ _ | (with_reducible refine Below.drew ?_) | (with_reducible refine Below.alloc ?_ (by first | omega | (simp; done) | (simp; omega)) _) | (with_reducible refine Below.setCell ?_ (by first | exact Nat.le_refl _ | omega | (simp; done) | (simp; omega)) _))))).mono ?_
   rintro e w2 ⟨v2, rfl, hown2, hgr2⟩
   have S2 : Aside (Bs w0.heap.size w2 v2 (l ++ (putI xs.length size ++ (xs.take (k + 1)).flatMap enc)) ∧ Gr w v w2 v2) := by
    refine ⟨?_, SK.out.2.trans ((Gr.of_below _ (by (repeat (first | with_reducible exact Below.refl _ _ | (with_reducible refine Below.drew ?_) | (with_reducible refine Below.alloc ?_ (by first | omega | (simp; done) | (simp; omega)) _) | (with_reducible refine Below.setCell ?_ (by first | exact Nat.le_refl _ | omega | (simp; done) | (simp; omega)) _))))).trans hgr2)⟩
    rw [HT.out, ← List.append_assoc (putI _ _), ← List.append_assoc l, HDD.out]; exact hown2
   clear hown2 hgr2 hF
   go_wp2
   go_roundg (n - (k + 1))
   case measure => omega
   case rel => exact ⟨k + 1, by go_num, by omega, by omega, S2⟩
  ·have hltz : ¬ (k : Int) < (n : Int) := by omega
   have S2 : Aside (Bs w0.heap.size wr u0 (l ++ (putI xs.length size ++ xs.flatMap enc)) ∧ Gr w v wr u0) := by
    have h := SK.out
    rw [List.take_of_length_le (by rw [H.out.2.1]; omega)] at h
    exact h
   clear SK
   go_wp2
   go_ret
   exact ⟨_, rfl, S2.out.1, S2.out.2⟩

set_option maxHeartbeats 4000000 in
theorem layAll_span (w0 : World) (f : Nat) (enc : PSpan → List UInt8) (a : Option Addr) (xs : List PSpan) (n c size : Nat) (hI : SpansIn w0 a xs) (hn : xs.length = n) (hs : size ≤ 8) (eg : ∀ args w, (callFunc f args).run Try.prog w = .ok (.enter f args) w) (hf : ∀ x ∈ xs, Lays w0 f spV enc x)
  (w : World) (v : Value) (l : List UInt8) (hb : Below w0.heap.size w0 w) (ho : Bs w0.heap.size w v l) (hm : n ≤ 60000) (hl : l.length + size + (xs.flatMap enc).length ≤ 60000) :
  Calls Try.prog 93 #[v, .int .i64 size, .slice a n c, .func (.func f) #[] #[]] w fun e w' => ∃ v', e = .returned v' ∧ Bs w0.heap.size w' v' (l ++ (putI xs.length size ++ xs.flatMap enc)) ∧ Gr w v w' v' := by
 have hB := hb.size
 have hC := lay_int w0.heap.size size n (by omega) hs v l w ho hB (by omega)
 have H : Aside (SpansIn w0 a xs ∧ xs.length = n ∧ (∀ x ∈ xs, Lays w0 f spV enc x) ∧ Below w0.heap.size w0 w ∧ Bs w0.heap.size w v l) := ⟨hI, hn, hf, hb, ho⟩
 have HL : Aside (l.length + size + (xs.flatMap enc).length ≤ 60000) := hl
 clear hI hn hf hb ho hl
 go_enter Try.func93, Try.ntmps93
 go_wp2_with (go_at_call 95; refine hC.mono ?_; rintro e w1 ⟨v1, rfl, hown1, hgr1⟩; refine Hid.out ?_)
 refine hid ?_
 have S1 : Aside (Bs w0.heap.size w1 v1 (l ++ (putI xs.length size ++ (xs.take 0).flatMap enc)) ∧ Gr w v w1 v1) := by
  refine ⟨?_, hgr1⟩
  rw [H.out.2.1]
  simpa using hown1
 clear hown1 hgr1 hC
 go_wp2_with fail
 go_loopg [0, 18] n (fun g1 vv vi wr => ∃ (k : Nat), vi = .int .i64 k ∧ k ≤ n ∧ n - k ≤ g1 ∧ Aside (Bs w0.heap.size wr vv (l ++ (putI xs.length size ++ (xs.take k).flatMap enc)) ∧ Gr w v wr vv))
 case atStart => exact ⟨0, rfl, Nat.zero_le _, Nat.le_refl _, S1⟩
 case round =>
  clear S1
  obtain ⟨k, rfl, hk, hg1, SK⟩ := hrel
  have HBW : Aside (Below w0.heap.size w0 wr) := H.out.2.2.2.1.trans (SK.out.2.below H.out.2.2.2.2 H.out.2.2.2.1.size)
  by_cases hlt : k < n
  ·have hltz : (k : Int) < (n : Int) := by omega
   have hkl : k < xs.length := by rw [H.out.2.1]; exact hlt
   obtain ⟨b, off, ha, hc⟩ := (H.out.1.keep HBW.out).get hkl
   subst ha
   have hcc := hc k hkl
   clear hc
   have hmem : spn xs k ∈ xs := spn_mem hkl
   have HT : Hid ((xs.take (k + 1)).flatMap enc = (xs.take k).flatMap enc ++ enc (spn xs k)) := by show _ = _; rw [take_spn xs k hkl, List.flatMap_append]; simp
   have hlen2 : (l ++ (putI xs.length size ++ (xs.take k).flatMap enc)).length + (enc (spn xs k)).length ≤ 60000 := by
    have h1 := flat_take enc xs (k + 1)
    rw [HT.out] at h1
    have h2 := HL.out
    simp only [List.length_append, putI_len] at h1 ⊢
    omega
   obtain ⟨va, vc, hvv⟩ := Bs.form SK.out.1
   generalize hD : l ++ (putI xs.length size ++ (xs.take k).flatMap enc) = D at SK hlen2 hvv
   obtain ⟨m, hmD⟩ : ∃ m, D.length = m := ⟨_, rfl⟩
   rw [hmD] at hvv
   subst hvv
   have hmz : ¬ (60000 : Int) < (m : Int) := by omega
   have HDD : Hid (l ++ (putI xs.length size ++ (xs.take k).flatMap enc) = D) := hD
   clear hD
   have hF := fun W (hW : Below wr.heap.size wr W) => H.out.2.2.1 _ hmem W (.slice va m vc) D (HBW.out.trans (hW.mono HBW.out.size)) (SK.out.1.keep hW) hlen2
   clear hlen2 hmem hmD
   obtain ⟨r0, r1, -⟩ := hcc
   unfold spV at hF
   generalize (spn xs k).1 = x0 at r0 hF
   generalize (spn xs k).2 = x1 at r1 hF
   go_wp2_with fail
   refine (hF _ (by (repeat (first | with_reducible exact Below.refl _ _ | (with_reducible refine Below.drew ?_) | (with_reducible refine Below.alloc ?_ (by first | omega | (simp; done) | (simp; omega)) _) | (with_reducible refine Below.setCell ?_ (by first | exact Nat.le_refl _ | omega | (simp; done) | (simp; omega)) _))))).mono ?_
   rintro e w2 ⟨v2, rfl, hown2, hgr2⟩
   have S2 : Aside (Bs w0.heap.size w2 v2 (l ++ (putI xs.length size ++ (xs.take (k + 1)).flatMap enc)) ∧ Gr w v w2 v2) := by
    refine ⟨?_, SK.out.2.trans ((Gr.of_below _ (by (repeat (first | with_reducible exact Below.refl _ _ | (with_reducible refine Below.drew ?_) | (with_reducible refine Below.alloc ?_ (by first | omega | (simp; done) | (simp; omega)) _) | (with_reducible refine Below.setCell ?_ (by first | exact Nat.le_refl _ | omega | (simp; done) | (simp; omega)) _))))).trans hgr2)⟩
    rw [HT.out, ← List.append_assoc (putI _ _), ← List.append_assoc l, HDD.out]; exact hown2
   clear hown2 hgr2 hF
   go_wp2
   go_roundg (n - (k + 1))
   case measure => omega
   case rel => exact ⟨k + 1, by go_num, by omega, by omega, S2⟩
  ·have hltz : ¬ (k : Int) < (n : Int) := by omega
   have S2 : Aside (Bs w0.heap.size wr u0 (l ++ (putI xs.length size ++ xs.flatMap enc)) ∧ Gr w v wr u0) := by
    have h := SK.out
    rw [List.take_of_length_le (by rw [H.out.2.1]; omega)] at h
    exact h
   clear SK
   go_wp2
   go_ret
   exact ⟨_, rfl, S2.out.1, S2.out.2⟩

set_option maxHeartbeats 4000000 in
theorem layAll_ent (w0 : World) (f : Nat) (enc : Et → List UInt8) (a : Option Addr) (xs : List Et) (n c size : Nat) (hI : EntsIn w0 a xs) (hn : xs.length = n) (hs : size ≤ 8) (eg : ∀ args w, (callFunc f args).run Try.prog w = .ok (.enter f args) w) (hf : ∀ x ∈ xs, Lays w0 f etV enc x)
  (w : World) (v : Value) (l : List UInt8) (hb : Below w0.heap.size w0 w) (ho : Bs w0.heap.size w v l) (hm : n ≤ 60000) (hl : l.length + size + (xs.flatMap enc).length ≤ 60000) :
  Calls Try.prog 96 #[v, .int .i64 size, .slice a n c, .func (.func f) #[] #[]] w fun e w' => ∃ v', e = .returned v' ∧ Bs w0.heap.size w' v' (l ++ (putI xs.length size ++ xs.flatMap enc)) ∧ Gr w v w' v' := by
 have hB := hb.size
 have hC := lay_int w0.heap.size size n (by omega) hs v l w ho hB (by omega)
 have H : Aside (EntsIn w0 a xs ∧ xs.length = n ∧ (∀ x ∈ xs, Lays w0 f etV enc x) ∧ Below w0.heap.size w0 w ∧ Bs w0.heap.size w v l) := ⟨hI, hn, hf, hb, ho⟩
 have HL : Aside (l.length + size + (xs.flatMap enc).length ≤ 60000) := hl
 clear hI hn hf hb ho hl
 go_enter Try.func96, Try.ntmps96
 go_wp2_with (go_at_call 95; refine hC.mono ?_; rintro e w1 ⟨v1, rfl, hown1, hgr1⟩; refine Hid.out ?_)
 refine hid ?_
 have S1 : Aside (Bs w0.heap.size w1 v1 (l ++ (putI xs.length size ++ (xs.take 0).flatMap enc)) ∧ Gr w v w1 v1) := by
  refine ⟨?_, hgr1⟩
  rw [H.out.2.1]
  simpa using hown1
 clear hown1 hgr1 hC
 go_wp2_with fail
 go_loopg [0, 18] n (fun g1 vv vi wr => ∃ (k : Nat), vi = .int .i64 k ∧ k ≤ n ∧ n - k ≤ g1 ∧ Aside (Bs w0.heap.size wr vv (l ++ (putI xs.length size ++ (xs.take k).flatMap enc)) ∧ Gr w v wr vv))
 case atStart => exact ⟨0, rfl, Nat.zero_le _, Nat.le_refl _, S1⟩
 case round =>
  clear S1
  obtain ⟨k, rfl, hk, hg1, SK⟩ := hrel
  have HBW : Aside (Below w0.heap.size w0 wr) := H.out.2.2.2.1.trans (SK.out.2.below H.out.2.2.2.2 H.out.2.2.2.1.size)
  by_cases hlt : k < n
  ·have hltz : (k : Int) < (n : Int) := by omega
   have hkl : k < xs.length := by rw [H.out.2.1]; exact hlt
   obtain ⟨b, off, ha, hc⟩ := (H.out.1.keep HBW.out).get hkl
   subst ha
   have hcc := hc k hkl
   clear hc
   have hmem : etn xs k ∈ xs := etn_mem hkl
   have HT : Hid ((xs.take (k + 1)).flatMap enc = (xs.take k).flatMap enc ++ enc (etn xs k)) := by show _ = _; rw [take_etn xs k hkl, List.flatMap_append]; simp
   have hlen2 : (l ++ (putI xs.length size ++ (xs.take k).flatMap enc)).length + (enc (etn xs k)).length ≤ 60000 := by
    have h1 := flat_take enc xs (k + 1)
    rw [HT.out] at h1
    have h2 := HL.out
    simp only [List.length_append, putI_len] at h1 ⊢
    omega
   obtain ⟨va, vc, hvv⟩ := Bs.form SK.out.1
   generalize hD : l ++ (putI xs.length size ++ (xs.take k).flatMap enc) = D at SK hlen2 hvv
   obtain ⟨m, hmD⟩ : ∃ m, D.length = m := ⟨_, rfl⟩
   rw [hmD] at hvv
   subst hvv
   have hmz : ¬ (60000 : Int) < (m : Int) := by omega
   have HDD : Hid (l ++ (putI xs.length size ++ (xs.take k).flatMap enc) = D) := hD
   clear hD
   have hF := fun W (hW : Below wr.heap.size wr W) => H.out.2.2.1 _ hmem W (.slice va m vc) D (HBW.out.trans (hW.mono HBW.out.size)) (SK.out.1.keep hW) hlen2
   clear hlen2 hmem hmD
   obtain ⟨r0, r1, -⟩ := hcc
   unfold etV at hF
   generalize (etn xs k).t = x0 at r0 hF
   generalize (etn xs k).a = x1 at r1 hF
   generalize (etn xs k).fs.length = x2 at r1 hF
   generalize (etn xs k).cap = x3 at r1 hF
   go_wp2_with fail
   refine (hF _ (by (repeat (first | with_reducible exact Below.refl _ _ | (with_reducible refine Below.drew ?_) | (with_reducible refine Below.alloc ?_ (by first | omega | (simp; done) | (simp; omega)) _) | (with_reducible refine Below.setCell ?_ (by first | exact Nat.le_refl _ | omega | (simp; done) | (simp; omega)) _))))).mono ?_
   rintro e w2 ⟨v2, rfl, hown2, hgr2⟩
   have S2 : Aside (Bs w0.heap.size w2 v2 (l ++ (putI xs.length size ++ (xs.take (k + 1)).flatMap enc)) ∧ Gr w v w2 v2) := by
    refine ⟨?_, SK.out.2.trans ((Gr.of_below _ (by (repeat (first | with_reducible exact Below.refl _ _ | (with_reducible refine Below.drew ?_) | (with_reducible refine Below.alloc ?_ (by first | omega | (simp; done) | (simp; omega)) _) | (with_reducible refine Below.setCell ?_ (by first | exact Nat.le_refl _ | omega | (simp; done) | (simp; omega)) _))))).trans hgr2)⟩
    rw [HT.out, ← List.append_assoc (putI _ _), ← List.append_assoc l, HDD.out]; exact hown2
   clear hown2 hgr2 hF
   go_wp2
   go_roundg (n - (k + 1))
   case measure => omega
   case rel => exact ⟨k + 1, by go_num, by omega, by omega, S2⟩
  ·have hltz : ¬ (k : Int) < (n : Int) := by omega
   have S2 : Aside (Bs w0.heap.size wr u0 (l ++ (putI xs.length size ++ xs.flatMap enc)) ∧ Gr w v wr u0) := by
    have h := SK.out
    rw [List.take_of_length_le (by rw [H.out.2.1]; omega)] at h
    exact h
   clear SK
   go_wp2
   go_ret
   exact ⟨_, rfl, S2.out.1, S2.out.2⟩
end Go.Proofs.Ytlcjllgfpfldlaa.code

namespace Go.Proofs.Ytlcjllgfpfldlaa.code
open Go.ChangeShapes Go.WideShapes Go.ChangeAt Go.RowKit Go.Deep
open Go.Proofs.Ytlcjllgfpfldlaa.dims (nth Ints cell_lt vals vals_len vals_get own_below own_mono own_out RowOut ret_bool)
set_option linter.unusedVariables false
set_option maxRecDepth 100000

theorem box_ne {B : Nat} {W : World} {V : Value} {L : List UInt8} (h : Bs B W V L) : some W.heap.size ≠ V.ownBlock := fun e => by have := (World.ownsRow.lt h _ e.symm).2; omega
theorem layNode_any (w0 : World) (x : Int) (hx : I64 x) : Lays w0 90 (Value.int .i64) (putI · 1) x := by
 intro W V L hb ho hl
 have hC := lay_int w0.heap.size 1 x hx (by omega) V L W ho hb.size (by omega)
 go_enter Try.func90, Try.ntmps90
 go_wp2_with (go_at_call 95; refine hC.mono ?_; rintro e w1 ⟨v1, rfl, h1, h2⟩)
 go_ret
 exact ⟨_, rfl, h1, h2⟩
theorem layPlace_any (w0 : World) (x : Int) (hx : I64 x) : Lays w0 101 (Value.int .i64) (putI · 4) x := by
 intro W V L hb ho hl
 have hC := lay_int w0.heap.size 4 x hx (by omega) V L W ho hb.size (by omega)
 go_enter Try.func101, Try.ntmps101
 go_wp2_with (go_at_call 95; refine hC.mono ?_; rintro e w1 ⟨v1, rfl, h1, h2⟩)
 go_ret
 exact ⟨_, rfl, h1, h2⟩
theorem flat4_len (l : List Int) : (l.flatMap (putI · 4)).length = 4 * l.length := by
 induction l with
 | nil => rfl
 | cons x l ih => rw [List.flatMap_cons, List.length_append, ih, putI_len, List.length_cons]; omega
theorem factB_len (f : PFact) : (factB f).length = 9 + 4 * f.1.length := by
 unfold factB
 rw [List.length_append, List.length_append, putI_len, putI_len, flat4_len]; omega

set_option maxHeartbeats 4000000 in
theorem layFact_any (w0 : World) (f : Ft) (hf : FtOk w0 f) : Lays w0 92 ftV (fun f => factB (pf f)) f := by
 intro W V L hb ho hl
 simp only [factB_len, pf] at hl
 have hb1 : Below W.heap.size W (W.alloc (.cells #[.slice f.a f.k.length f.cap, .int .i64 f.v] 97)) := by (repeat (first | with_reducible exact Below.refl _ _ | (with_reducible refine Below.drew ?_) | (with_reducible refine Below.alloc ?_ (by first | omega | (simp; done) | (simp; omega)) _) | (with_reducible refine Below.setCell ?_ (by first | exact Nat.le_refl _ | omega | (simp; done) | (simp; omega)) _)))
 have hC1 := layAll_int w0 101 (putI · 4) f.a f.k f.k.length f.cap 1 hf.mem rfl (by omega) (fun _ _ => rfl) (fun x hx => layPlace_any w0 x (hf.key x hx)) _ V L (hb.trans (hb1.mono hb.size)) (ho.alloc _) (by omega) (by rw [flat4_len]; omega)
 have H : Aside (FtOk w0 f ∧ Below w0.heap.size w0 W ∧ Bs w0.heap.size W V L) := ⟨hf, hb, ho⟩
 have hne := box_ne ho
 have E : Hid (factB (pf f) = putI f.k.length 1 ++ (f.k.flatMap (putI · 4) ++ putI f.v 8)) := rfl
 show Calls _ _ #[V, .agg #[.slice f.a f.k.length f.cap, .int .i64 f.v]] _ _
 have HN : Aside (I64 f.v) := hf.num
 have hlk : L.length + (9 + 4 * f.k.length) ≤ 60000 := hl
 generalize f.a = fa at hC1
 generalize hk : f.k = fk at hC1 E hlk
 generalize f.cap = fcap at hC1
 generalize hv : f.v = fv at hC1 E HN
 clear hf hb ho hb1 hl hk hv
 go_enter Try.func92, Try.ntmps92
 go_wp2_with (go_at_call 89; refine hC1.mono ?_; rintro e w2 ⟨v2, rfl, h1, g1⟩; refine Hid.out ?_)
 refine hid ?_
 have r1 : w2.cell? ⟨W.heap.size, 1, none⟩ = some (.int .i64 fv) := g1.cell (by simp [go_sem]) hne
 have hG : Gr W V w2 v2 := (Gr.alloc W V _).trans g1
 have hC2 := lay_int64 w0.heap.size 8 fv HN.out (by omega) v2 _ w2 h1 (Nat.le_trans H.out.2.1.size hG.grown.size) (by simp only [List.length_append, putI_len, flat4_len]; omega)
 clear h1 g1 hC1 hne
 go_wp2_with (go_at_call 102; refine hC2.mono ?_; rintro e w3 ⟨v3, rfl, h3, g3⟩)
 go_ret
 refine ⟨_, rfl, ?_, hG.trans g3⟩
 rw [E.out]; simpa [List.append_assoc] using h3

set_option maxHeartbeats 4000000 in
theorem laySpan_any (w0 : World) (s : PSpan) (h1 : I64 s.1) (h2 : I64 s.2) : Lays w0 94 spV spanB s := by
 intro W V L hb ho hl
 obtain ⟨x, y⟩ := s
 have hl2 : L.length + 5 ≤ 60000 := by rw [spanB_len] at hl; exact hl
 have hb1 : Below W.heap.size W (W.alloc (.cells #[.int .i64 x, .int .i64 y] 92)) := by (repeat (first | with_reducible exact Below.refl _ _ | (with_reducible refine Below.drew ?_) | (with_reducible refine Below.alloc ?_ (by first | omega | (simp; done) | (simp; omega)) _) | (with_reducible refine Below.setCell ?_ (by first | exact Nat.le_refl _ | omega | (simp; done) | (simp; omega)) _)))
 have hC1 := lay_int w0.heap.size 4 x h1 (by omega) V L _ (ho.alloc (.cells #[.int .i64 x, .int .i64 y] 92)) (by have := hb.size; simp; omega) (by omega)
 have H : Aside (Below w0.heap.size w0 W ∧ I64 y ∧ Bs w0.heap.size W V L) := ⟨hb, h2, ho⟩
 have hne := box_ne ho
 show Calls _ _ #[V, .agg #[.int .i64 x, .int .i64 y]] _ _
 clear hl ho hb1 h1 h2 hb
 go_enter Try.func94, Try.ntmps94
 go_wp2_with (go_at_call 95; refine hC1.mono ?_; rintro e w2 ⟨v2, rfl, h1, g1⟩; refine Hid.out ?_)
 refine hid ?_
 have r1 : w2.cell? ⟨W.heap.size, 1, none⟩ = some (.int .i64 y) := g1.cell (by simp [go_sem]) hne
 have hG : Gr W V w2 v2 := (Gr.alloc W V _).trans g1
 have hC2 := layNode_any w0 y H.out.2.1 w2 v2 _ (H.out.1.trans (hG.below H.out.2.2 H.out.1.size)) h1 (by simp only [List.length_append, putI_len]; omega)
 clear h1 g1 hC1 hne
 go_wp2_with (go_at_call 90; refine hC2.mono ?_; rintro e w3 ⟨v3, rfl, h3, g3⟩)
 go_ret
 refine ⟨_, rfl, ?_, hG.trans g3⟩
 simpa [List.append_assoc, spanB] using h3

theorem flatF_map (l : List Ft) : (l.map pf).flatMap factB = l.flatMap (fun f => factB (pf f)) := List.flatMap_map _ _ _
theorem flatE_map (l : List Et) : (l.map pe).flatMap entB = l.flatMap (fun e => entB (pe e)) := List.flatMap_map _ _ _
theorem flatF_least (l : List Ft) : l.length ≤ (l.flatMap (fun f => factB (pf f))).length := by
 have := flat_least (e := fun f : Ft => factB (pf f)) (m := 1) (fun x => by have := factB_least (pf x); omega) l
 omega
theorem flatE_least (l : List Et) : l.length ≤ (l.flatMap (fun e => entB (pe e))).length := by
 have := flat_least (e := fun f : Et => entB (pe f)) (m := 1) (fun x => by have := entB_least (pe x); omega) l
 omega
theorem flatS_least (l : List PSpan) : l.length ≤ (l.flatMap spanB).length := by
 have := flat_least (e := spanB) (m := 1) (fun x => by rw [spanB_len]; omega) l
 omega
theorem flatN_len (l : List Int) : (l.flatMap (putI · 1)).length = l.length := by
 induction l with
 | nil => rfl
 | cons x l ih => rw [List.flatMap_cons, List.length_append, ih, putI_len, List.length_cons]; omega
theorem entB_pe (e : Et) : entB (pe e) = putI e.t 4 ++ (putI e.fs.length 4 ++ e.fs.flatMap (fun f => factB (pf f))) := by
 unfold entB factsB pe
 simp only [flatF_map, List.length_map]

set_option maxHeartbeats 4000000 in
theorem layEntry_any (w0 : World) (f : Et) (hf : EtOk w0 f) : Lays w0 97 etV (fun f => entB (pe f)) f := by
 intro W V L hb ho hl
 simp only [entB_pe, List.length_append, putI_len] at hl
 have hfl := flatF_least f.fs
 have hb1 : Below W.heap.size W (W.alloc (.cells #[.int .u32 f.t, .slice f.a f.fs.length f.cap] 77)) := by (repeat (first | with_reducible exact Below.refl _ _ | (with_reducible refine Below.drew ?_) | (with_reducible refine Below.alloc ?_ (by first | omega | (simp; done) | (simp; omega)) _) | (with_reducible refine Below.setCell ?_ (by first | exact Nat.le_refl _ | omega | (simp; done) | (simp; omega)) _)))
 have hC1 := lay_u32 w0.heap.size 4 f.t hf.num (by omega) V L _ (ho.alloc (.cells #[.int .u32 f.t, .slice f.a f.fs.length f.cap] 77)) (by have := hb.size; simp; omega) (by omega)
 have H : Aside (FactsIn w0 f.a f.fs ∧ Below w0.heap.size w0 W ∧ Bs w0.heap.size W V L) := ⟨hf.mem, hb, ho⟩
 have hne := box_ne ho
 have E : Hid (entB (pe f) = putI f.t 4 ++ (putI f.fs.length 4 ++ f.fs.flatMap (fun f => factB (pf f)))) := entB_pe f
 show Calls _ _ #[V, .agg #[.int .u32 f.t, .slice f.a f.fs.length f.cap]] _ _
 generalize f.a = fa at hC1 H
 generalize hk : f.fs = fs at hC1 E hl hfl H
 generalize f.cap = fcap at hC1
 generalize hv : f.t = ft at hC1 E
 obtain ⟨n, hn⟩ : ∃ n, fs.length = n := ⟨_, rfl⟩
 have HNN : Hid (fs.length = n) := hn
 have hfn : n ≤ 60000 := by omega
 rw [hn] at hC1 ⊢
 clear hf hb ho hb1 hk hv hn
 go_enter Try.func97, Try.ntmps97
 go_wp2_with (go_at_call 88; refine hC1.mono ?_; rintro e w2 ⟨v2, rfl, h1, g1⟩; refine Hid.out ?_)
 refine hid ?_
 have r1 : w2.cell? ⟨W.heap.size, 1, none⟩ = some (.slice fa n fcap) := g1.cell (by simp [go_sem]) hne
 have hG : Gr W V w2 v2 := (Gr.alloc W V _).trans g1
 have hC2 := layAll_fact w0 92 (fun f => factB (pf f)) fa fs n fcap 4 H.out.1 HNN.out (by omega) (fun _ _ => rfl) (fun f hf => layFact_any w0 f (H.out.1.ok f hf)) w2 v2 _ (H.out.2.1.trans (hG.below H.out.2.2 H.out.2.1.size)) h1 hfn (by simp only [List.length_append, putI_len]; omega)
 clear h1 g1 hC1 hne hl hfl
 go_wp2_with (go_at_call 91; refine hC2.mono ?_; rintro e w3 ⟨v3, rfl, h3, g3⟩)
 go_ret
 refine ⟨_, rfl, ?_, hG.trans g3⟩
 rw [E.out]; simpa [List.append_assoc] using h3
end Go.Proofs.Ytlcjllgfpfldlaa.code
