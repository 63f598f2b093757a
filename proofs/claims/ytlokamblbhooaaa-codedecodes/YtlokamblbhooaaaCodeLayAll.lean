/-
  Lists laid behind bytes: the program's layAll at each of its types.
-/
import Derived.Test.YtlokamblbhooaaaCodeLay
import Derived.Test.YtlokamblbhooaaaCodeRec
namespace Go.Proofs.Ytlokamblbhooaaa.code
open Go.ChangeShapes Go.WideShapes Go.ChangeAt Go.RowKit Go.Deep
open Go.Proofs.Ytlokamblbhooaaa.dims (nth Ints cell_lt vals vals_len vals_get vals_one vals_app own_below own_mono own_out own_apart RowOut ret_bool ret_int)
set_option linter.unusedVariables false
set_option maxRecDepth 100000

/-- a function that lays one behind bytes -/
def Lays {α : Type} (w0 : World) (f : Nat) (val : α → Value) (enc : α → List UInt8) (x : α) : Prop :=
  ∀ W V L, Below w0.heap.size w0 W → Bs w0.heap.size W V L → L.length + (enc x).length ≤ 60000 → Calls Try.prog f #[V, val x] W fun e W' => ∃ V', e = .returned V' ∧ Bs w0.heap.size W' V' (L ++ enc x) ∧ Gr W V W' V'

set_option maxHeartbeats 4000000 in
theorem layAll_int (w0 : World) (f : Nat) (enc : Int → List UInt8) (a : Option Addr) (xs : List Int) (n c size : Nat) (hI : Ints w0 a xs) (hn : xs.length = n) (hs : size ≤ 8) (eg : ∀ args w, (callFunc f args).run Try.prog w = .ok (.enter f args) w) (hf : ∀ x ∈ xs, Lays w0 f (Value.int .i64) enc x)
    (w : World) (v : Value) (l : List UInt8) (hb : Below w0.heap.size w0 w) (ho : Bs w0.heap.size w v l) (hm : n ≤ 60000) (hl : l.length + size + (xs.flatMap enc).length ≤ 60000) :
    Calls Try.prog 47 #[v, .int .i64 size, .slice a n c, .func (.func f) #[] #[]] w fun e w' => ∃ v', e = .returned v' ∧ Bs w0.heap.size w' v' (l ++ (putI xs.length size ++ xs.flatMap enc)) ∧ Gr w v w' v' := by
  have hB := hb.size
  have hC := lay_int w0.heap.size size n (by omega) hs v l w ho hB (by omega)
  have H : Aside (Ints w0 a xs ∧ xs.length = n ∧ (∀ x ∈ xs, Lays w0 f (Value.int .i64) enc x) ∧ Below w0.heap.size w0 w ∧ Bs w0.heap.size w v l) := ⟨hI, hn, hf, hb, ho⟩
  have HL : Aside (l.length + size + (xs.flatMap enc).length ≤ 60000) := hl
  clear hI hn hf hb ho hl
  go_enter Try.func47, Try.ntmps47
  go_wp2_with (go_at_call 53; refine hC.mono ?_; rintro e w1 ⟨v1, rfl, hown1, hgr1⟩; refine Hid.out ?_)
  refine hid ?_
  have S1 : Aside (Bs w0.heap.size w1 v1 (l ++ (putI xs.length size ++ (xs.take 0).flatMap enc)) ∧ Gr w v w1 v1) := by
    refine ⟨?_, hgr1⟩
    rw [H.out.2.1]
    simpa using hown1
  clear hown1 hgr1 hC
  go_wp2_with fail
  go_loopg [0, 18] n (fun g1 vv vi wr => ∃ (k : Nat), vi = .int .i64 k ∧ k ≤ n ∧ n - k ≤ g1 ∧ Aside (Bs w0.heap.size wr vv (l ++ (putI xs.length size ++ (xs.take k).flatMap enc)) ∧ Gr w v wr vv))
  case atStart => exact ⟨0, rfl, Nat.zero_le _, Nat.le_refl _, S1⟩
  case round =>
    clear S1
    obtain ⟨k, rfl, hk, hg1, SK⟩ := hrel
    have HBW : Aside (Below w0.heap.size w0 wr) := H.out.2.2.2.1.trans (SK.out.2.below H.out.2.2.2.2 H.out.2.2.2.1.size)
    by_cases hlt : k < n
    · have hltz : (k : Int) < (n : Int) := by omega
      have hkl : k < xs.length := by rw [H.out.2.1]; exact hlt
      obtain ⟨b, off, ha, hc⟩ := (H.out.1.keep HBW.out).get hkl
      subst ha
      have hcc := hc k hkl
      clear hc
      have hmem : nth xs k ∈ xs := nth_mem hkl
      have HT : Hid ((xs.take (k + 1)).flatMap enc = (xs.take k).flatMap enc ++ enc (nth xs k)) := by show _ = _; rw [take_nth xs k hkl, List.flatMap_append]; simp
      have hlen2 : (l ++ (putI xs.length size ++ (xs.take k).flatMap enc)).length + (enc (nth xs k)).length ≤ 60000 := by
        have h1 := flat_take enc xs (k + 1)
        rw [HT.out] at h1
        have h2 := HL.out
        simp only [List.length_append, putI_len] at h1 ⊢
        omega
      obtain ⟨va, vc, hvv⟩ := Bs.form SK.out.1
      generalize hD : l ++ (putI xs.length size ++ (xs.take k).flatMap enc) = D at SK hlen2 hvv
      obtain ⟨m, hmD⟩ : ∃ m, D.length = m := ⟨_, rfl⟩
      rw [hmD] at hvv
      subst hvv
      have hmz : ¬ (60000 : Int) < (m : Int) := by omega
      have HDD : Hid (l ++ (putI xs.length size ++ (xs.take k).flatMap enc) = D) := hD
      clear hD
      have hF := fun W (hW : Below wr.heap.size wr W) => H.out.2.2.1 _ hmem W (.slice va m vc) D (HBW.out.trans (hW.mono HBW.out.size)) (SK.out.1.keep hW) hlen2
      clear hlen2 hmem hmD
      have r0 := hcc
      clear hcc
      generalize nth xs k = x at r0 hF HT
      go_wp2_with fail
      refine (hF _ (by (repeat (first | with_reducible exact Below.refl _ _ | (with_reducible refine Below.drew ?_) | (with_reducible refine Below.alloc ?_ (by first | omega | (simp; done) | (simp; omega)) _) | (with_reducible refine Below.setCell ?_ (by first | exact Nat.le_refl _ | omega | (simp; done) | (simp; omega)) _))))).mono ?_
      rintro e w2 ⟨v2, rfl, hown2, hgr2⟩
      have S2 : Aside (Bs w0.heap.size w2 v2 (l ++ (putI xs.length size ++ (xs.take (k + 1)).flatMap enc)) ∧ Gr w v w2 v2) := by
        refine ⟨?_, SK.out.2.trans ((Gr.of_below _ (by (repeat (first | with_reducible exact Below.refl _ _ | (with_reducible refine Below.drew ?_) | (with_reducible refine Below.alloc ?_ (by first | omega | (simp; done) | (simp; omega)) _) | (with_reducible refine Below.setCell ?_ (by first | exact Nat.le_refl _ | omega | (simp; done) | (simp; omega)) _))))).trans hgr2)⟩
        rw [HT.out, ← List.append_assoc (putI _ _), ← List.append_assoc l, HDD.out]; exact hown2
      clear hown2 hgr2 hF
      go_wp2
      go_roundg (n - (k + 1))
      case measure => omega
      case rel => exact ⟨k + 1, by go_num, by omega, by omega, S2⟩
    · have hltz : ¬ (k : Int) < (n : Int) := by omega
      have S2 : Aside (Bs w0.heap.size wr u0 (l ++ (putI xs.length size ++ xs.flatMap enc)) ∧ Gr w v wr u0) := by
        have h := SK.out
        rw [List.take_of_length_le (by rw [H.out.2.1]; omega)] at h
        exact h
      clear SK
      go_wp2
      go_ret
      exact ⟨_, rfl, S2.out.1, S2.out.2⟩

set_option maxHeartbeats 4000000 in
theorem layAll_fact (w0 : World) (f : Nat) (enc : Ft → List UInt8) (a : Option Addr) (xs : List Ft) (n c size : Nat) (hI : FactsIn w0 a xs) (hn : xs.length = n) (hs : size ≤ 8) (eg : ∀ args w, (callFunc f args).run Try.prog w = .ok (.enter f args) w) (hf : ∀ x ∈ xs, Lays w0 f ftV enc x)
    (w : World) (v : Value) (l : List UInt8) (hb : Below w0.heap.size w0 w) (ho : Bs w0.heap.size w v l) (hm : n ≤ 60000) (hl : l.length + size + (xs.flatMap enc).length ≤ 60000) :
    Calls Try.prog 49 #[v, .int .i64 size, .slice a n c, .func (.func f) #[] #[]] w fun e w' => ∃ v', e = .returned v' ∧ Bs w0.heap.size w' v' (l ++ (putI xs.length size ++ xs.flatMap enc)) ∧ Gr w v w' v' := by
  have hB := hb.size
  have hC := lay_int w0.heap.size size n (by omega) hs v l w ho hB (by omega)
  have H : Aside (FactsIn w0 a xs ∧ xs.length = n ∧ (∀ x ∈ xs, Lays w0 f ftV enc x) ∧ Below w0.heap.size w0 w ∧ Bs w0.heap.size w v l) := ⟨hI, hn, hf, hb, ho⟩
  have HL : Aside (l.length + size + (xs.flatMap enc).length ≤ 60000) := hl
  clear hI hn hf hb ho hl
  go_enter Try.func49, Try.ntmps49
  go_wp2_with (go_at_call 53; refine hC.mono ?_; rintro e w1 ⟨v1, rfl, hown1, hgr1⟩; refine Hid.out ?_)
  refine hid ?_
  have S1 : Aside (Bs w0.heap.size w1 v1 (l ++ (putI xs.length size ++ (xs.take 0).flatMap enc)) ∧ Gr w v w1 v1) := by
    refine ⟨?_, hgr1⟩
    rw [H.out.2.1]
    simpa using hown1
  clear hown1 hgr1 hC
  go_wp2_with fail
  go_loopg [0, 18] n (fun g1 vv vi wr => ∃ (k : Nat), vi = .int .i64 k ∧ k ≤ n ∧ n - k ≤ g1 ∧ Aside (Bs w0.heap.size wr vv (l ++ (putI xs.length size ++ (xs.take k).flatMap enc)) ∧ Gr w v wr vv))
  case atStart => exact ⟨0, rfl, Nat.zero_le _, Nat.le_refl _, S1⟩
  case round =>
    clear S1
    obtain ⟨k, rfl, hk, hg1, SK⟩ := hrel
    have HBW : Aside (Below w0.heap.size w0 wr) := H.out.2.2.2.1.trans (SK.out.2.below H.out.2.2.2.2 H.out.2.2.2.1.size)
    by_cases hlt : k < n
    · have hltz : (k : Int) < (n : Int) := by omega
      have hkl : k < xs.length := by rw [H.out.2.1]; exact hlt
      obtain ⟨b, off, ha, hc⟩ := (H.out.1.keep HBW.out).get hkl
      subst ha
      have hcc := hc k hkl
      clear hc
      have hmem : ftn xs k ∈ xs := ftn_mem hkl
      have HT : Hid ((xs.take (k + 1)).flatMap enc = (xs.take k).flatMap enc ++ enc (ftn xs k)) := by show _ = _; rw [take_ftn xs k hkl, List.flatMap_append]; simp
      have hlen2 : (l ++ (putI xs.length size ++ (xs.take k).flatMap enc)).length + (enc (ftn xs k)).length ≤ 60000 := by
        have h1 := flat_take enc xs (k + 1)
        rw [HT.out] at h1
        have h2 := HL.out
        simp only [List.length_append, putI_len] at h1 ⊢
        omega
      obtain ⟨va, vc, hvv⟩ := Bs.form SK.out.1
      generalize hD : l ++ (putI xs.length size ++ (xs.take k).flatMap enc) = D at SK hlen2 hvv
      obtain ⟨m, hmD⟩ : ∃ m, D.length = m := ⟨_, rfl⟩
      rw [hmD] at hvv
      subst hvv
      have hmz : ¬ (60000 : Int) < (m : Int) := by omega
      have HDD : Hid (l ++ (putI xs.length size ++ (xs.take k).flatMap enc) = D) := hD
      clear hD
      have hF := fun W (hW : Below wr.heap.size wr W) => H.out.2.2.1 _ hmem W (.slice va m vc) D (HBW.out.trans (hW.mono HBW.out.size)) (SK.out.1.keep hW) hlen2
      clear hlen2 hmem hmD
      obtain ⟨r0, r1, -⟩ := hcc
      unfold ftV at hF
      generalize (ftn xs k).a = x0 at r0 hF
      generalize (ftn xs k).k.length = x1 at r0 hF
      generalize (ftn xs k).cap = x2 at r0 hF
      generalize (ftn xs k).v = x3 at r1 hF
      go_wp2_with fail
      refine (hF _ (by (repeat (first | with_reducible exact Below.refl _ _ | (with_reducible refine Below.drew ?_) | (with_reducible refine Below.alloc ?_ (by first | omega | (simp; done) | (simp; omega)) _) | (with_reducible refine Below.setCell ?_ (by first | exact Nat.le_refl _ | omega | (simp; done) | (simp; omega)) _))))).mono ?_
      rintro e w2 ⟨v2, rfl, hown2, hgr2⟩
      have S2 : Aside (Bs w0.heap.size w2 v2 (l ++ (putI xs.length size ++ (xs.take (k + 1)).flatMap enc)) ∧ Gr w v w2 v2) := by
        refine ⟨?_, SK.out.2.trans ((Gr.of_below _ (by (repeat (first | with_reducible exact Below.refl _ _ | (with_reducible refine Below.drew ?_) | (with_reducible refine Below.alloc ?_ (by first | omega | (simp; done) | (simp; omega)) _) | (with_reducible refine Below.setCell ?_ (by first | exact Nat.le_refl _ | omega | (simp; done) | (simp; omega)) _))))).trans hgr2)⟩
        rw [HT.out, ← List.append_assoc (putI _ _), ← List.append_assoc l, HDD.out]; exact hown2
      clear hown2 hgr2 hF
      go_wp2
      go_roundg (n - (k + 1))
      case measure => omega
      case rel => exact ⟨k + 1, by go_num, by omega, by omega, S2⟩
    · have hltz : ¬ (k : Int) < (n : Int) := by omega
      have S2 : Aside (Bs w0.heap.size wr u0 (l ++ (putI xs.length size ++ xs.flatMap enc)) ∧ Gr w v wr u0) := by
        have h := SK.out
        rw [List.take_of_length_le (by rw [H.out.2.1]; omega)] at h
        exact h
      clear SK
      go_wp2
      go_ret
      exact ⟨_, rfl, S2.out.1, S2.out.2⟩

set_option maxHeartbeats 4000000 in
theorem layAll_span (w0 : World) (f : Nat) (enc : PSpan → List UInt8) (a : Option Addr) (xs : List PSpan) (n c size : Nat) (hI : SpansIn w0 a xs) (hn : xs.length = n) (hs : size ≤ 8) (eg : ∀ args w, (callFunc f args).run Try.prog w = .ok (.enter f args) w) (hf : ∀ x ∈ xs, Lays w0 f spV enc x)
    (w : World) (v : Value) (l : List UInt8) (hb : Below w0.heap.size w0 w) (ho : Bs w0.heap.size w v l) (hm : n ≤ 60000) (hl : l.length + size + (xs.flatMap enc).length ≤ 60000) :
    Calls Try.prog 51 #[v, .int .i64 size, .slice a n c, .func (.func f) #[] #[]] w fun e w' => ∃ v', e = .returned v' ∧ Bs w0.heap.size w' v' (l ++ (putI xs.length size ++ xs.flatMap enc)) ∧ Gr w v w' v' := by
  have hB := hb.size
  have hC := lay_int w0.heap.size size n (by omega) hs v l w ho hB (by omega)
  have H : Aside (SpansIn w0 a xs ∧ xs.length = n ∧ (∀ x ∈ xs, Lays w0 f spV enc x) ∧ Below w0.heap.size w0 w ∧ Bs w0.heap.size w v l) := ⟨hI, hn, hf, hb, ho⟩
  have HL : Aside (l.length + size + (xs.flatMap enc).length ≤ 60000) := hl
  clear hI hn hf hb ho hl
  go_enter Try.func51, Try.ntmps51
  go_wp2_with (go_at_call 53; refine hC.mono ?_; rintro e w1 ⟨v1, rfl, hown1, hgr1⟩; refine Hid.out ?_)
  refine hid ?_
  have S1 : Aside (Bs w0.heap.size w1 v1 (l ++ (putI xs.length size ++ (xs.take 0).flatMap enc)) ∧ Gr w v w1 v1) := by
    refine ⟨?_, hgr1⟩
    rw [H.out.2.1]
    simpa using hown1
  clear hown1 hgr1 hC
  go_wp2_with fail
  go_loopg [0, 18] n (fun g1 vv vi wr => ∃ (k : Nat), vi = .int .i64 k ∧ k ≤ n ∧ n - k ≤ g1 ∧ Aside (Bs w0.heap.size wr vv (l ++ (putI xs.length size ++ (xs.take k).flatMap enc)) ∧ Gr w v wr vv))
  case atStart => exact ⟨0, rfl, Nat.zero_le _, Nat.le_refl _, S1⟩
  case round =>
    clear S1
    obtain ⟨k, rfl, hk, hg1, SK⟩ := hrel
    have HBW : Aside (Below w0.heap.size w0 wr) := H.out.2.2.2.1.trans (SK.out.2.below H.out.2.2.2.2 H.out.2.2.2.1.size)
    by_cases hlt : k < n
    · have hltz : (k : Int) < (n : Int) := by omega
      have hkl : k < xs.length := by rw [H.out.2.1]; exact hlt
      obtain ⟨b, off, ha, hc⟩ := (H.out.1.keep HBW.out).get hkl
      subst ha
      have hcc := hc k hkl
      clear hc
      have hmem : spn xs k ∈ xs := spn_mem hkl
      have HT : Hid ((xs.take (k + 1)).flatMap enc = (xs.take k).flatMap enc ++ enc (spn xs k)) := by show _ = _; rw [take_spn xs k hkl, List.flatMap_append]; simp
      have hlen2 : (l ++ (putI xs.length size ++ (xs.take k).flatMap enc)).length + (enc (spn xs k)).length ≤ 60000 := by
        have h1 := flat_take enc xs (k + 1)
        rw [HT.out] at h1
        have h2 := HL.out
        simp only [List.length_append, putI_len] at h1 ⊢
        omega
      obtain ⟨va, vc, hvv⟩ := Bs.form SK.out.1
      generalize hD : l ++ (putI xs.length size ++ (xs.take k).flatMap enc) = D at SK hlen2 hvv
      obtain ⟨m, hmD⟩ : ∃ m, D.length = m := ⟨_, rfl⟩
      rw [hmD] at hvv
      subst hvv
      have hmz : ¬ (60000 : Int) < (m : Int) := by omega
      have HDD : Hid (l ++ (putI xs.length size ++ (xs.take k).flatMap enc) = D) := hD
      clear hD
      have hF := fun W (hW : Below wr.heap.size wr W) => H.out.2.2.1 _ hmem W (.slice va m vc) D (HBW.out.trans (hW.mono HBW.out.size)) (SK.out.1.keep hW) hlen2
      clear hlen2 hmem hmD
      obtain ⟨r0, r1, -⟩ := hcc
      unfold spV at hF
      generalize (spn xs k).1 = x0 at r0 hF
      generalize (spn xs k).2 = x1 at r1 hF
      go_wp2_with fail
      refine (hF _ (by (repeat (first | with_reducible exact Below.refl _ _ | (with_reducible refine Below.drew ?_) | (with_reducible refine Below.alloc ?_ (by first | omega | (simp; done) | (simp; omega)) _) | (with_reducible refine Below.setCell ?_ (by first | exact Nat.le_refl _ | omega | (simp; done) | (simp; omega)) _))))).mono ?_
      rintro e w2 ⟨v2, rfl, hown2, hgr2⟩
      have S2 : Aside (Bs w0.heap.size w2 v2 (l ++ (putI xs.length size ++ (xs.take (k + 1)).flatMap enc)) ∧ Gr w v w2 v2) := by
        refine ⟨?_, SK.out.2.trans ((Gr.of_below _ (by (repeat (first | with_reducible exact Below.refl _ _ | (with_reducible refine Below.drew ?_) | (with_reducible refine Below.alloc ?_ (by first | omega | (simp; done) | (simp; omega)) _) | (with_reducible refine Below.setCell ?_ (by first | exact Nat.le_refl _ | omega | (simp; done) | (simp; omega)) _))))).trans hgr2)⟩
        rw [HT.out, ← List.append_assoc (putI _ _), ← List.append_assoc l, HDD.out]; exact hown2
      clear hown2 hgr2 hF
      go_wp2
      go_roundg (n - (k + 1))
      case measure => omega
      case rel => exact ⟨k + 1, by go_num, by omega, by omega, S2⟩
    · have hltz : ¬ (k : Int) < (n : Int) := by omega
      have S2 : Aside (Bs w0.heap.size wr u0 (l ++ (putI xs.length size ++ xs.flatMap enc)) ∧ Gr w v wr u0) := by
        have h := SK.out
        rw [List.take_of_length_le (by rw [H.out.2.1]; omega)] at h
        exact h
      clear SK
      go_wp2
      go_ret
      exact ⟨_, rfl, S2.out.1, S2.out.2⟩

set_option maxHeartbeats 4000000 in
theorem layAll_ent (w0 : World) (f : Nat) (enc : Et → List UInt8) (a : Option Addr) (xs : List Et) (n c size : Nat) (hI : EntsIn w0 a xs) (hn : xs.length = n) (hs : size ≤ 8) (eg : ∀ args w, (callFunc f args).run Try.prog w = .ok (.enter f args) w) (hf : ∀ x ∈ xs, Lays w0 f etV enc x)
    (w : World) (v : Value) (l : List UInt8) (hb : Below w0.heap.size w0 w) (ho : Bs w0.heap.size w v l) (hm : n ≤ 60000) (hl : l.length + size + (xs.flatMap enc).length ≤ 60000) :
    Calls Try.prog 54 #[v, .int .i64 size, .slice a n c, .func (.func f) #[] #[]] w fun e w' => ∃ v', e = .returned v' ∧ Bs w0.heap.size w' v' (l ++ (putI xs.length size ++ xs.flatMap enc)) ∧ Gr w v w' v' := by
  have hB := hb.size
  have hC := lay_int w0.heap.size size n (by omega) hs v l w ho hB (by omega)
  have H : Aside (EntsIn w0 a xs ∧ xs.length = n ∧ (∀ x ∈ xs, Lays w0 f etV enc x) ∧ Below w0.heap.size w0 w ∧ Bs w0.heap.size w v l) := ⟨hI, hn, hf, hb, ho⟩
  have HL : Aside (l.length + size + (xs.flatMap enc).length ≤ 60000) := hl
  clear hI hn hf hb ho hl
  go_enter Try.func54, Try.ntmps54
  go_wp2_with (go_at_call 53; refine hC.mono ?_; rintro e w1 ⟨v1, rfl, hown1, hgr1⟩; refine Hid.out ?_)
  refine hid ?_
  have S1 : Aside (Bs w0.heap.size w1 v1 (l ++ (putI xs.length size ++ (xs.take 0).flatMap enc)) ∧ Gr w v w1 v1) := by
    refine ⟨?_, hgr1⟩
    rw [H.out.2.1]
    simpa using hown1
  clear hown1 hgr1 hC
  go_wp2_with fail
  go_loopg [0, 18] n (fun g1 vv vi wr => ∃ (k : Nat), vi = .int .i64 k ∧ k ≤ n ∧ n - k ≤ g1 ∧ Aside (Bs w0.heap.size wr vv (l ++ (putI xs.length size ++ (xs.take k).flatMap enc)) ∧ Gr w v wr vv))
  case atStart => exact ⟨0, rfl, Nat.zero_le _, Nat.le_refl _, S1⟩
  case round =>
    clear S1
    obtain ⟨k, rfl, hk, hg1, SK⟩ := hrel
    have HBW : Aside (Below w0.heap.size w0 wr) := H.out.2.2.2.1.trans (SK.out.2.below H.out.2.2.2.2 H.out.2.2.2.1.size)
    by_cases hlt : k < n
    · have hltz : (k : Int) < (n : Int) := by omega
      have hkl : k < xs.length := by rw [H.out.2.1]; exact hlt
      obtain ⟨b, off, ha, hc⟩ := (H.out.1.keep HBW.out).get hkl
      subst ha
      have hcc := hc k hkl
      clear hc
      have hmem : etn xs k ∈ xs := etn_mem hkl
      have HT : Hid ((xs.take (k + 1)).flatMap enc = (xs.take k).flatMap enc ++ enc (etn xs k)) := by show _ = _; rw [take_etn xs k hkl, List.flatMap_append]; simp
      have hlen2 : (l ++ (putI xs.length size ++ (xs.take k).flatMap enc)).length + (enc (etn xs k)).length ≤ 60000 := by
        have h1 := flat_take enc xs (k + 1)
        rw [HT.out] at h1
        have h2 := HL.out
        simp only [List.length_append, putI_len] at h1 ⊢
        omega
      obtain ⟨va, vc, hvv⟩ := Bs.form SK.out.1
      generalize hD : l ++ (putI xs.length size ++ (xs.take k).flatMap enc) = D at SK hlen2 hvv
      obtain ⟨m, hmD⟩ : ∃ m, D.length = m := ⟨_, rfl⟩
      rw [hmD] at hvv
      subst hvv
      have hmz : ¬ (60000 : Int) < (m : Int) := by omega
      have HDD : Hid (l ++ (putI xs.length size ++ (xs.take k).flatMap enc) = D) := hD
      clear hD
      have hF := fun W (hW : Below wr.heap.size wr W) => H.out.2.2.1 _ hmem W (.slice va m vc) D (HBW.out.trans (hW.mono HBW.out.size)) (SK.out.1.keep hW) hlen2
      clear hlen2 hmem hmD
      obtain ⟨r0, r1, -⟩ := hcc
      unfold etV at hF
      generalize (etn xs k).t = x0 at r0 hF
      generalize (etn xs k).a = x1 at r1 hF
      generalize (etn xs k).fs.length = x2 at r1 hF
      generalize (etn xs k).cap = x3 at r1 hF
      go_wp2_with fail
      refine (hF _ (by (repeat (first | with_reducible exact Below.refl _ _ | (with_reducible refine Below.drew ?_) | (with_reducible refine Below.alloc ?_ (by first | omega | (simp; done) | (simp; omega)) _) | (with_reducible refine Below.setCell ?_ (by first | exact Nat.le_refl _ | omega | (simp; done) | (simp; omega)) _))))).mono ?_
      rintro e w2 ⟨v2, rfl, hown2, hgr2⟩
      have S2 : Aside (Bs w0.heap.size w2 v2 (l ++ (putI xs.length size ++ (xs.take (k + 1)).flatMap enc)) ∧ Gr w v w2 v2) := by
        refine ⟨?_, SK.out.2.trans ((Gr.of_below _ (by (repeat (first | with_reducible exact Below.refl _ _ | (with_reducible refine Below.drew ?_) | (with_reducible refine Below.alloc ?_ (by first | omega | (simp; done) | (simp; omega)) _) | (with_reducible refine Below.setCell ?_ (by first | exact Nat.le_refl _ | omega | (simp; done) | (simp; omega)) _))))).trans hgr2)⟩
        rw [HT.out, ← List.append_assoc (putI _ _), ← List.append_assoc l, HDD.out]; exact hown2
      clear hown2 hgr2 hF
      go_wp2
      go_roundg (n - (k + 1))
      case measure => omega
      case rel => exact ⟨k + 1, by go_num, by omega, by omega, S2⟩
    · have hltz : ¬ (k : Int) < (n : Int) := by omega
      have S2 : Aside (Bs w0.heap.size wr u0 (l ++ (putI xs.length size ++ xs.flatMap enc)) ∧ Gr w v wr u0) := by
        have h := SK.out
        rw [List.take_of_length_le (by rw [H.out.2.1]; omega)] at h
        exact h
      clear SK
      go_wp2
      go_ret
      exact ⟨_, rfl, S2.out.1, S2.out.2⟩
end Go.Proofs.Ytlokamblbhooaaa.code
