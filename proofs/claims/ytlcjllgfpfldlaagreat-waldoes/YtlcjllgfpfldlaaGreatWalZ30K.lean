/-
 Records that come to too many bytes: the program's Encode refuses them.
 A record that comes to too many bytes: the program's Encode refuses it.
-/
import Derived.Test.YtlcjllgfpfldlaaGreatWalZ29K
set_option maxHeartbeats 8000000
open Go.ChangeShapes Go.WideShapes Go.ChangeAt Go.RowKit Go.Deep
set_option linter.unusedVariables false
set_option maxRecDepth 100000
set_option linter.unusedSimpArgs false
namespace Go.Proofs.YtlcjllgfpfldlaaGreat
namespace code
open dims (nth Ints own_mono)
def PX (B : Nat) (w : World) (v : Value) (wr : World) (vv : Value) (full : List UInt8) : Prop := ∃ D, Bs B wr vv D ∧ Gr w v wr vv ∧ (D = full ∨ 60000 < D.length) ∧ D.length ≤ full.length
def LaysX {α : Type} (w0 : World) (f : Nat) (val : α → Value) (enc : α → List UInt8) (x : α) : Prop :=
 ∀ W V L, Below w0.heap.size w0 W → Bs w0.heap.size W V L → L.length ≤ 60000 → Calls Tryz.prog f #[V, val x] W fun e W' => ∃ V', e = .returned V' ∧ PX w0.heap.size W V W' V' (L ++ enc x)
theorem PX.alloc {B : Nat} {w wr : World} {v vv : Value} {full : List UInt8} (h : PX B w v wr vv full) (o : Obj) : PX B w v (wr.alloc o) vv full := by
 obtain ⟨D, h1, h2, h3, h4⟩ := h
 exact ⟨D, h1.alloc o, h2.trans (Gr.alloc _ _ _), h3, h4⟩
theorem PX.more {B : Nat} {w w1 w2 : World} {v v1 v2 : Value} {full b : List UInt8} {D : List UInt8} (h1 : Gr w v w1 v1) (hor : D = full ∨ 60000 < D.length) (hle : D.length ≤ full.length) (h3 : Bs B w2 v2 (D ++ b)) (g3 : Gr w1 v1 w2 v2) : PX B w v w2 v2 (full ++ b) := by
 refine ⟨D ++ b, h3, h1.trans g3, ?_, by simp only [laQ]; omega⟩
 rcases hor with h | h
 ·left; rw [h]
 ·right; rw [laQ]; omega

theorem layAllX_int (w0 : World) (f : Nat) (enc : Int → List UInt8) (a : Option Addr) (xs : List Int) (n c size : Nat) (hI : Ints w0 a xs) (hn : xs.length = n) (hs : size ≤ 8) (eg : ∀ args w, (callFunc f args).run Tryz.prog w = .ok (.enter f args) w) (hf : ∀ x ∈ xs, LaysX w0 f (Value.int .i64) enc x)
  (w : World) (v : Value) (l : List UInt8) (hb : Below w0.heap.size w0 w) (ho : Bs w0.heap.size w v l) (hm : n ≤ 60000) (hl : l.length + size + (xs.flatMap enc).length ≤ 900000000) :
  Calls Tryz.prog 119 #[v, .int .i64 size, .slice a n c, .func (.func f) #[] #[]] w fun e w' => ∃ v', e = .returned v' ∧ PX w0.heap.size w v w' v' (l ++ (putI xs.length size ++ xs.flatMap enc)) := by
 have hB := hb.size
 have hC := lay_int w0.heap.size size n (by omega) hs v l w ho hB (by omega)
 have H : Aside (Ints w0 a xs ∧ xs.length = n ∧ (∀ x ∈ xs, LaysX w0 f (Value.int .i64) enc x) ∧ Below w0.heap.size w0 w ∧ Bs w0.heap.size w v l) := ⟨hI, hn, hf, hb, ho⟩
 clear hI hn hf hb ho hl
 go_enter Tryz.func119, Tryz.ntmps119
 go_wp2_with (go_at_call 125; refine hC.mono ?_; rintro e w1 ⟨v1, rfl, hown1, hgr1⟩; refine Hid.out ?_)
 refine hid ?_
 have S1 : Aside (PX w0.heap.size w v w1 v1 (l ++ (putI xs.length size ++ (xs.take 0).flatMap enc))) := by
  refine ⟨l ++ putI n size, hown1, hgr1, .inl ?_, ?_⟩
  ·rw [H.out.2.1]; simp
  ·rw [H.out.2.1]; simp
 clear hown1 hgr1 hC
 go_wp2_with fail
 go_loopg [0, 18] n (fun g1 vv vi wr => ∃ (k : Nat), vi = .int .i64 k ∧ k ≤ n ∧ n - k ≤ g1 ∧ Aside (PX w0.heap.size w v wr vv (l ++ (putI xs.length size ++ (xs.take k).flatMap enc))))
 case atStart => exact ⟨0, rfl, Nat.zero_le _, nrQ _, S1⟩
 case round =>
  clear S1
  obtain ⟨k, rfl, hk, hg1, SK0⟩ := hrel
  obtain ⟨D, hDB, hDG, hDor, hDle⟩ := SK0.out
  have SK : Aside (Bs w0.heap.size wr u0 D ∧ Gr w v wr u0) := ⟨hDB, hDG⟩
  have HBW : Aside (Below w0.heap.size w0 wr) := H.out.2.2.2.1.trans (SK.out.2.below H.out.2.2.2.2 H.out.2.2.2.1.size)
  clear SK0 hDB hDG
  by_cases hlt : k < n
  ·have hltz : (k : Int) < (n : Int) := by omega
   have hkl : k < xs.length := by rw [H.out.2.1]; exact hlt
   obtain ⟨b, off, ha, hc⟩ := (H.out.1.keep HBW.out).get hkl
   subst ha
   have hcc := hc k hkl
   clear hc
   have hmem : nth xs k ∈ xs := nth_mem hkl
   have HT : Hid ((xs.take (k + 1)).flatMap enc = (xs.take k).flatMap enc ++ enc (nth xs k)) := by show _ = _; rw [take_nth xs k hkl, List.flatMap_append]; simp
   obtain ⟨va, vc, hvv⟩ := Bs.form SK.out.1
   obtain ⟨m, hmD⟩ : ∃ m, D.length = m := ⟨_, rfl⟩
   rw [hmD] at hvv
   subst hvv
   have r0 := hcc
   clear hcc
   by_cases h60 : 60000 < m
   ·have hmz : (60000 : Int) < (m : Int) := by omega
    have S2 : Aside (PX w0.heap.size w v wr (.slice va m vc) (l ++ (putI xs.length size ++ xs.flatMap enc))) := by
     refine ⟨D, SK.out.1, SK.out.2, .inr (by omega), ?_⟩
     have h1 := flat_take enc xs k
     simp only [laQ] at hDle ⊢
     omega
    clear hmem HT hDor hDle hmD
    go_wp2
    go_ret
    first
     | exact ⟨_, rfl, S2.out⟩
     | exact ⟨_, rfl, S2.out.alloc _⟩
   have hmz : ¬ (60000 : Int) < (m : Int) := by omega
   have HDD : Hid (l ++ (putI xs.length size ++ (xs.take k).flatMap enc) = D) := by
    show _ = _
    rcases hDor with h | h
    ·exact h.symm
    ·omega
   have hlen2 : D.length ≤ 60000 := by omega
   have hF := fun W (hW : Below wr.heap.size wr W) => H.out.2.2.1 _ hmem W (.slice va m vc) D (HBW.out.trans (hW.mono HBW.out.size)) (SK.out.1.keep hW) hlen2
   clear hlen2 hmem hmD hDor hDle
   generalize nth xs k = x at r0 hF HT
   go_wp2_with fail
   refine (hF _ (by (repeat (first | with_reducible exact Below.refl _ _ | (with_reducible refine Below.drew ?_) | (with_reducible refine Below.alloc ?_ (by first | omega | (simp; done) | (simp; omega)) _) | (with_reducible refine Below.setCell ?_ (by first | exact nrQ _ | omega | (simp; done) | (simp; omega)) _))))).mono ?_
   rintro e w2 ⟨v2, rfl, hP2⟩
   have S2 : Aside (PX w0.heap.size w v w2 v2 (l ++ (putI xs.length size ++ (xs.take (k + 1)).flatMap enc))) := by
    obtain ⟨D2, e1, e2, e3, e4⟩ := hP2
    rw [HT.out, ← apQ (putI _ _), ← apQ l, HDD.out]
    exact ⟨D2, e1, SK.out.2.trans ((Gr.of_below _ (by (repeat (first | with_reducible exact Below.refl _ _ | (with_reducible refine Below.drew ?_) | (with_reducible refine Below.alloc ?_ (by first | omega | (simp; done) | (simp; omega)) _) | (with_reducible refine Below.setCell ?_ (by first | exact nrQ _ | omega | (simp; done) | (simp; omega)) _))))).trans e2), e3, e4⟩
   clear hP2 hF
   go_wp2
   go_roundg (n - (k + 1))
   case measure => omega
   case rel => exact ⟨k + 1, by go_num, by omega, by omega, S2⟩
  ·have hltz : ¬ (k : Int) < (n : Int) := by omega
   have S2 : Aside (PX w0.heap.size w v wr u0 (l ++ (putI xs.length size ++ xs.flatMap enc))) := by
    rw [List.take_of_length_le (by rw [H.out.2.1]; omega)] at hDor hDle
    exact ⟨D, SK.out.1, SK.out.2, hDor, hDle⟩
   clear SK hDor hDle
   go_wp2
   go_ret
   exact ⟨_, rfl, S2.out⟩

theorem layAllX_fact (w0 : World) (f : Nat) (enc : Ft → List UInt8) (a : Option Addr) (xs : List Ft) (n c size : Nat) (hI : FactsIn w0 a xs) (hn : xs.length = n) (hs : size ≤ 8) (eg : ∀ args w, (callFunc f args).run Tryz.prog w = .ok (.enter f args) w) (hf : ∀ x ∈ xs, LaysX w0 f ftV enc x)
  (w : World) (v : Value) (l : List UInt8) (hb : Below w0.heap.size w0 w) (ho : Bs w0.heap.size w v l) (hm : n ≤ 60000) (hl : l.length + size + (xs.flatMap enc).length ≤ 900000000) :
  Calls Tryz.prog 121 #[v, .int .i64 size, .slice a n c, .func (.func f) #[] #[]] w fun e w' => ∃ v', e = .returned v' ∧ PX w0.heap.size w v w' v' (l ++ (putI xs.length size ++ xs.flatMap enc)) := by
 have hB := hb.size
 have hC := lay_int w0.heap.size size n (by omega) hs v l w ho hB (by omega)
 have H : Aside (FactsIn w0 a xs ∧ xs.length = n ∧ (∀ x ∈ xs, LaysX w0 f ftV enc x) ∧ Below w0.heap.size w0 w ∧ Bs w0.heap.size w v l) := ⟨hI, hn, hf, hb, ho⟩
 clear hI hn hf hb ho hl
 go_enter Tryz.func121, Tryz.ntmps121
 go_wp2_with (go_at_call 125; refine hC.mono ?_; rintro e w1 ⟨v1, rfl, hown1, hgr1⟩; refine Hid.out ?_)
 refine hid ?_
 have S1 : Aside (PX w0.heap.size w v w1 v1 (l ++ (putI xs.length size ++ (xs.take 0).flatMap enc))) := by
  refine ⟨l ++ putI n size, hown1, hgr1, .inl ?_, ?_⟩
  ·rw [H.out.2.1]; simp
  ·rw [H.out.2.1]; simp
 clear hown1 hgr1 hC
 go_wp2_with fail
 go_loopg [0, 18] n (fun g1 vv vi wr => ∃ (k : Nat), vi = .int .i64 k ∧ k ≤ n ∧ n - k ≤ g1 ∧ Aside (PX w0.heap.size w v wr vv (l ++ (putI xs.length size ++ (xs.take k).flatMap enc))))
 case atStart => exact ⟨0, rfl, Nat.zero_le _, nrQ _, S1⟩
 case round =>
  clear S1
  obtain ⟨k, rfl, hk, hg1, SK0⟩ := hrel
  obtain ⟨D, hDB, hDG, hDor, hDle⟩ := SK0.out
  have SK : Aside (Bs w0.heap.size wr u0 D ∧ Gr w v wr u0) := ⟨hDB, hDG⟩
  have HBW : Aside (Below w0.heap.size w0 wr) := H.out.2.2.2.1.trans (SK.out.2.below H.out.2.2.2.2 H.out.2.2.2.1.size)
  clear SK0 hDB hDG
  by_cases hlt : k < n
  ·have hltz : (k : Int) < (n : Int) := by omega
   have hkl : k < xs.length := by rw [H.out.2.1]; exact hlt
   obtain ⟨b, off, ha, hc⟩ := (H.out.1.keep HBW.out).get hkl
   subst ha
   have hcc := hc k hkl
   clear hc
   have hmem : ftn xs k ∈ xs := ftn_mem hkl
   have HT : Hid ((xs.take (k + 1)).flatMap enc = (xs.take k).flatMap enc ++ enc (ftn xs k)) := by show _ = _; rw [take_ftn xs k hkl, List.flatMap_append]; simp
   obtain ⟨va, vc, hvv⟩ := Bs.form SK.out.1
   obtain ⟨m, hmD⟩ : ∃ m, D.length = m := ⟨_, rfl⟩
   rw [hmD] at hvv
   subst hvv
   obtain ⟨r0, r1, -⟩ := hcc
   by_cases h60 : 60000 < m
   ·have hmz : (60000 : Int) < (m : Int) := by omega
    have S2 : Aside (PX w0.heap.size w v wr (.slice va m vc) (l ++ (putI xs.length size ++ xs.flatMap enc))) := by
     refine ⟨D, SK.out.1, SK.out.2, .inr (by omega), ?_⟩
     have h1 := flat_take enc xs k
     simp only [laQ] at hDle ⊢
     omega
    clear hmem HT hDor hDle hmD
    go_wp2
    go_ret
    first
     | exact ⟨_, rfl, S2.out⟩
     | exact ⟨_, rfl, S2.out.alloc _⟩
   have hmz : ¬ (60000 : Int) < (m : Int) := by omega
   have HDD : Hid (l ++ (putI xs.length size ++ (xs.take k).flatMap enc) = D) := by
    show _ = _
    rcases hDor with h | h
    ·exact h.symm
    ·omega
   have hlen2 : D.length ≤ 60000 := by omega
   have hF := fun W (hW : Below wr.heap.size wr W) => H.out.2.2.1 _ hmem W (.slice va m vc) D (HBW.out.trans (hW.mono HBW.out.size)) (SK.out.1.keep hW) hlen2
   clear hlen2 hmem hmD hDor hDle
   unfold ftV at hF
   generalize (ftn xs k).a = x0 at r0 hF
   generalize (ftn xs k).k.length = x1 at r0 hF
   generalize (ftn xs k).cap = x2 at r0 hF
   generalize (ftn xs k).v = x3 at r1 hF
   go_wp2_with fail
   refine (hF _ (by (repeat (first | with_reducible exact Below.refl _ _ | (with_reducible refine Below.drew ?_) | (with_reducible refine Below.alloc ?_ (by first | omega | (simp; done) | (simp; omega)) _) | (with_reducible refine Below.setCell ?_ (by first | exact nrQ _ | omega | (simp; done) | (simp; omega)) _))))).mono ?_
   rintro e w2 ⟨v2, rfl, hP2⟩
   have S2 : Aside (PX w0.heap.size w v w2 v2 (l ++ (putI xs.length size ++ (xs.take (k + 1)).flatMap enc))) := by
    obtain ⟨D2, e1, e2, e3, e4⟩ := hP2
    rw [HT.out, ← apQ (putI _ _), ← apQ l, HDD.out]
    exact ⟨D2, e1, SK.out.2.trans ((Gr.of_below _ (by (repeat (first | with_reducible exact Below.refl _ _ | (with_reducible refine Below.drew ?_) | (with_reducible refine Below.alloc ?_ (by first | omega | (simp; done) | (simp; omega)) _) | (with_reducible refine Below.setCell ?_ (by first | exact nrQ _ | omega | (simp; done) | (simp; omega)) _))))).trans e2), e3, e4⟩
   clear hP2 hF
   go_wp2
   go_roundg (n - (k + 1))
   case measure => omega
   case rel => exact ⟨k + 1, by go_num, by omega, by omega, S2⟩
  ·have hltz : ¬ (k : Int) < (n : Int) := by omega
   have S2 : Aside (PX w0.heap.size w v wr u0 (l ++ (putI xs.length size ++ xs.flatMap enc))) := by
    rw [List.take_of_length_le (by rw [H.out.2.1]; omega)] at hDor hDle
    exact ⟨D, SK.out.1, SK.out.2, hDor, hDle⟩
   clear SK hDor hDle
   go_wp2
   go_ret
   exact ⟨_, rfl, S2.out⟩

theorem layAllX_ent (w0 : World) (f : Nat) (enc : Et → List UInt8) (a : Option Addr) (xs : List Et) (n c size : Nat) (hI : EntsIn w0 a xs) (hn : xs.length = n) (hs : size ≤ 8) (eg : ∀ args w, (callFunc f args).run Tryz.prog w = .ok (.enter f args) w) (hf : ∀ x ∈ xs, LaysX w0 f etV enc x)
  (w : World) (v : Value) (l : List UInt8) (hb : Below w0.heap.size w0 w) (ho : Bs w0.heap.size w v l) (hm : n ≤ 60000) (hl : l.length + size + (xs.flatMap enc).length ≤ 900000000) :
  Calls Tryz.prog 126 #[v, .int .i64 size, .slice a n c, .func (.func f) #[] #[]] w fun e w' => ∃ v', e = .returned v' ∧ PX w0.heap.size w v w' v' (l ++ (putI xs.length size ++ xs.flatMap enc)) := by
 have hB := hb.size
 have hC := lay_int w0.heap.size size n (by omega) hs v l w ho hB (by omega)
 have H : Aside (EntsIn w0 a xs ∧ xs.length = n ∧ (∀ x ∈ xs, LaysX w0 f etV enc x) ∧ Below w0.heap.size w0 w ∧ Bs w0.heap.size w v l) := ⟨hI, hn, hf, hb, ho⟩
 clear hI hn hf hb ho hl
 go_enter Tryz.func126, Tryz.ntmps126
 go_wp2_with (go_at_call 125; refine hC.mono ?_; rintro e w1 ⟨v1, rfl, hown1, hgr1⟩; refine Hid.out ?_)
 refine hid ?_
 have S1 : Aside (PX w0.heap.size w v w1 v1 (l ++ (putI xs.length size ++ (xs.take 0).flatMap enc))) := by
  refine ⟨l ++ putI n size, hown1, hgr1, .inl ?_, ?_⟩
  ·rw [H.out.2.1]; simp
  ·rw [H.out.2.1]; simp
 clear hown1 hgr1 hC
 go_wp2_with fail
 go_loopg [0, 18] n (fun g1 vv vi wr => ∃ (k : Nat), vi = .int .i64 k ∧ k ≤ n ∧ n - k ≤ g1 ∧ Aside (PX w0.heap.size w v wr vv (l ++ (putI xs.length size ++ (xs.take k).flatMap enc))))
 case atStart => exact ⟨0, rfl, Nat.zero_le _, nrQ _, S1⟩
 case round =>
  clear S1
  obtain ⟨k, rfl, hk, hg1, SK0⟩ := hrel
  obtain ⟨D, hDB, hDG, hDor, hDle⟩ := SK0.out
  have SK : Aside (Bs w0.heap.size wr u0 D ∧ Gr w v wr u0) := ⟨hDB, hDG⟩
  have HBW : Aside (Below w0.heap.size w0 wr) := H.out.2.2.2.1.trans (SK.out.2.below H.out.2.2.2.2 H.out.2.2.2.1.size)
  clear SK0 hDB hDG
  by_cases hlt : k < n
  ·have hltz : (k : Int) < (n : Int) := by omega
   have hkl : k < xs.length := by rw [H.out.2.1]; exact hlt
   obtain ⟨b, off, ha, hc⟩ := (H.out.1.keep HBW.out).get hkl
   subst ha
   have hcc := hc k hkl
   clear hc
   have hmem : etn xs k ∈ xs := etn_mem hkl
   have HT : Hid ((xs.take (k + 1)).flatMap enc = (xs.take k).flatMap enc ++ enc (etn xs k)) := by show _ = _; rw [take_etn xs k hkl, List.flatMap_append]; simp
   obtain ⟨va, vc, hvv⟩ := Bs.form SK.out.1
   obtain ⟨m, hmD⟩ : ∃ m, D.length = m := ⟨_, rfl⟩
   rw [hmD] at hvv
   subst hvv
   obtain ⟨r0, r1, -⟩ := hcc
   by_cases h60 : 60000 < m
   ·have hmz : (60000 : Int) < (m : Int) := by omega
    have S2 : Aside (PX w0.heap.size w v wr (.slice va m vc) (l ++ (putI xs.length size ++ xs.flatMap enc))) := by
     refine ⟨D, SK.out.1, SK.out.2, .inr (by omega), ?_⟩
     have h1 := flat_take enc xs k
     simp only [laQ] at hDle ⊢
     omega
    clear hmem HT hDor hDle hmD
    go_wp2
    go_ret
    first
     | exact ⟨_, rfl, S2.out⟩
     | exact ⟨_, rfl, S2.out.alloc _⟩
   have hmz : ¬ (60000 : Int) < (m : Int) := by omega
   have HDD : Hid (l ++ (putI xs.length size ++ (xs.take k).flatMap enc) = D) := by
    show _ = _
    rcases hDor with h | h
    ·exact h.symm
    ·omega
   have hlen2 : D.length ≤ 60000 := by omega
   have hF := fun W (hW : Below wr.heap.size wr W) => H.out.2.2.1 _ hmem W (.slice va m vc) D (HBW.out.trans (hW.mono HBW.out.size)) (SK.out.1.keep hW) hlen2
   clear hlen2 hmem hmD hDor hDle
   unfold etV at hF
   generalize (etn xs k).t = x0 at r0 hF
   generalize (etn xs k).a = x1 at r1 hF
   generalize (etn xs k).fs.length = x2 at r1 hF
   generalize (etn xs k).cap = x3 at r1 hF
   go_wp2_with fail
   refine (hF _ (by (repeat (first | with_reducible exact Below.refl _ _ | (with_reducible refine Below.drew ?_) | (with_reducible refine Below.alloc ?_ (by first | omega | (simp; done) | (simp; omega)) _) | (with_reducible refine Below.setCell ?_ (by first | exact nrQ _ | omega | (simp; done) | (simp; omega)) _))))).mono ?_
   rintro e w2 ⟨v2, rfl, hP2⟩
   have S2 : Aside (PX w0.heap.size w v w2 v2 (l ++ (putI xs.length size ++ (xs.take (k + 1)).flatMap enc))) := by
    obtain ⟨D2, e1, e2, e3, e4⟩ := hP2
    rw [HT.out, ← apQ (putI _ _), ← apQ l, HDD.out]
    exact ⟨D2, e1, SK.out.2.trans ((Gr.of_below _ (by (repeat (first | with_reducible exact Below.refl _ _ | (with_reducible refine Below.drew ?_) | (with_reducible refine Below.alloc ?_ (by first | omega | (simp; done) | (simp; omega)) _) | (with_reducible refine Below.setCell ?_ (by first | exact nrQ _ | omega | (simp; done) | (simp; omega)) _))))).trans e2), e3, e4⟩
   clear hP2 hF
   go_wp2
   go_roundg (n - (k + 1))
   case measure => omega
   case rel => exact ⟨k + 1, by go_num, by omega, by omega, S2⟩
  ·have hltz : ¬ (k : Int) < (n : Int) := by omega
   have S2 : Aside (PX w0.heap.size w v wr u0 (l ++ (putI xs.length size ++ xs.flatMap enc))) := by
    rw [List.take_of_length_le (by rw [H.out.2.1]; omega)] at hDor hDle
    exact ⟨D, SK.out.1, SK.out.2, hDor, hDle⟩
   clear SK hDor hDle
   go_wp2
   go_ret
   exact ⟨_, rfl, S2.out⟩

theorem layPlaceX (w0 : World) (x : Int) (hx : I64 x) : LaysX w0 131 (Value.int .i64) (putI · 4) x := by
 intro W V L hb ho hl
 have hC := lay_int w0.heap.size 4 x hx (by omega) V L W ho hb.size (by omega)
 go_enter Tryz.func131, Tryz.ntmps131
 go_wp2_with (go_at_call 125; refine hC.mono ?_; rintro e w1 ⟨v1, rfl, h1, h2⟩)
 go_ret
 exact ⟨_, rfl, _, h1, h2, .inl rfl, nrQ _⟩

theorem layFactX (w0 : World) (f : Ft) (hf : FtOk w0 f) (hk4 : f.k.length ≤ 4) : LaysX w0 122 ftV (fun f => factB (pf f)) f := by
 intro W V L hb ho hl
 have hb1 : Below W.heap.size W (W.alloc (.cells #[.slice f.a f.k.length f.cap, .int .i64 f.v] 124)) := by (repeat (first | with_reducible exact Below.refl _ _ | (with_reducible refine Below.drew ?_) | (with_reducible refine Below.alloc ?_ (by first | omega | (simp; done) | (simp; omega)) _) | (with_reducible refine Below.setCell ?_ (by first | exact nrQ _ | omega | (simp; done) | (simp; omega)) _)))
 have hC1 := layAllX_int w0 131 (putI · 4) f.a f.k f.k.length f.cap 1 hf.mem rfl (by omega) (fun _ _ => rfl) (fun x hx => layPlaceX w0 x (hf.key x hx)) _ V L (hb.trans (hb1.mono hb.size)) (ho.alloc _) (by omega) (by rw [flat4_len]; omega)
 have H : Aside (FtOk w0 f ∧ Below w0.heap.size w0 W ∧ Bs w0.heap.size W V L) := ⟨hf, hb, ho⟩
 have hne := box_ne ho
 have E : Hid (factB (pf f) = putI f.k.length 1 ++ (f.k.flatMap (putI · 4) ++ putI f.v 8)) := rfl
 show Calls _ _ #[V, .agg #[.slice f.a f.k.length f.cap, .int .i64 f.v]] _ _
 have HN : Aside (I64 f.v) := hf.num
 generalize f.a = fa at hC1
 generalize hk : f.k = fk at hC1 E hk4
 generalize f.cap = fcap at hC1
 generalize hv : f.v = fv at hC1 E HN
 clear hf hb ho hb1 hk hv
 go_enter Tryz.func122, Tryz.ntmps122
 go_wp2_with (go_at_call 119; refine hC1.mono ?_; rintro e w2 ⟨v2, rfl, hP⟩; refine Hid.out ?_)
 refine hid ?_
 obtain ⟨D, h1, g1, hor, hle⟩ := hP
 have r1 : w2.cell? ⟨W.heap.size, 1, none⟩ = some (.int .i64 fv) := g1.cell (by simp [go_sem]) hne
 have hG : Gr W V w2 v2 := (Gr.alloc W V _).trans g1
 have hDl : D.length ≤ 1000000000 := by
  simp only [laQ, putI_len, flat4_len] at hle
  omega
 have hC2 := lay_int64 w0.heap.size 8 fv HN.out (by omega) v2 D w2 h1 (ntQ H.out.2.1.size hG.grown.size) hDl
 have HO : Aside ((D = L ++ (putI fk.length 1 ++ fk.flatMap (putI · 4)) ∨ 60000 < D.length) ∧ D.length ≤ (L ++ (putI fk.length 1 ++ fk.flatMap (putI · 4))).length) := ⟨hor, hle⟩
 clear h1 g1 hC1 hne hor hle hDl
 go_wp2_with (go_at_call 132; refine hC2.mono ?_; rintro e w3 ⟨v3, rfl, h3, g3⟩)
 go_ret
 refine ⟨_, rfl, ?_⟩
 have := PX.more hG HO.out.1 HO.out.2 h3 g3
 rw [E.out]; simpa [apQ] using this

theorem layEntryX (w0 : World) (f : Et) (hf : EtOk w0 f) (hok : factsOk (f.fs.map pf) = true) : LaysX w0 127 etV (fun f => entB (pe f)) f := by
 intro W V L hb ho hl
 have hb1 : Below W.heap.size W (W.alloc (.cells #[.int .u32 f.t, .slice f.a f.fs.length f.cap] 94)) := by (repeat (first | with_reducible exact Below.refl _ _ | (with_reducible refine Below.drew ?_) | (with_reducible refine Below.alloc ?_ (by first | omega | (simp; done) | (simp; omega)) _) | (with_reducible refine Below.setCell ?_ (by first | exact nrQ _ | omega | (simp; done) | (simp; omega)) _)))
 have hC1 := lay_u32 w0.heap.size 4 f.t hf.num (by omega) V L _ (ho.alloc (.cells #[.int .u32 f.t, .slice f.a f.fs.length f.cap] 94)) (by have := hb.size; simp; omega) (by omega)
 have hK : ∀ q ∈ f.fs, q.k.length ≤ 4 := fun q hq => (keyOk_iff.1 ((factsOk_iff.1 hok).1 (pf q) (List.mem_map.2 ⟨q, hq, rfl⟩))).2
 have hfl : (f.fs.flatMap (fun f => factB (pf f))).length ≤ 800000000 ∧ f.fs.length ≤ 200 := by
  have h1 := flatF_weight f.fs
  have h2 := fw_ok hok
  have h3 := (factsOk_iff.1 hok).2
  rw [List.length_map] at h3
  exact ⟨by omega, h3⟩
 have H : Aside (FactsIn w0 f.a f.fs ∧ Below w0.heap.size w0 W ∧ Bs w0.heap.size W V L ∧ (∀ q ∈ f.fs, q.k.length ≤ 4)) := ⟨hf.mem, hb, ho, hK⟩
 have hne := box_ne ho
 have E : Hid (entB (pe f) = putI f.t 4 ++ (putI f.fs.length 4 ++ f.fs.flatMap (fun f => factB (pf f)))) := entB_pe f
 show Calls _ _ #[V, .agg #[.int .u32 f.t, .slice f.a f.fs.length f.cap]] _ _
 clear hK hok
 generalize f.a = fa at hC1 H
 generalize hk : f.fs = fs at hC1 E hfl H
 generalize f.cap = fcap at hC1
 generalize hv : f.t = ft at hC1 E
 obtain ⟨n, hn⟩ : ∃ n, fs.length = n := ⟨_, rfl⟩
 have HNN : Hid (fs.length = n) := hn
 rw [hn] at hC1 hfl ⊢
 clear hf hb ho hb1 hk hv hn
 go_enter Tryz.func127, Tryz.ntmps127
 go_wp2_with (go_at_call 118; refine hC1.mono ?_; rintro e w2 ⟨v2, rfl, h1, g1⟩; refine Hid.out ?_)
 refine hid ?_
 have r1 : w2.cell? ⟨W.heap.size, 1, none⟩ = some (.slice fa n fcap) := g1.cell (by simp [go_sem]) hne
 have hG : Gr W V w2 v2 := (Gr.alloc W V _).trans g1
 have hC2 := layAllX_fact w0 122 (fun f => factB (pf f)) fa fs n fcap 4 H.out.1 HNN.out (by omega) (fun _ _ => rfl) (fun f hf => layFactX w0 f (H.out.1.ok f hf) (H.out.2.2.2 f hf)) w2 v2 _ (H.out.2.1.trans (hG.below H.out.2.2.1 H.out.2.1.size)) h1 (by omega) (by simp only [laQ, putI_len]; omega)
 clear h1 g1 hC1 hne hl hfl
 go_wp2_with (go_at_call 121; refine hC2.mono ?_; rintro e w3 ⟨v3, rfl, hP⟩)
 go_ret
 refine ⟨_, rfl, ?_⟩
 obtain ⟨D, e1, e2, e3, e4⟩ := hP
 rw [E.out]
 refine ⟨D, e1, hG.trans e2, ?_, ?_⟩
 ·rcases e3 with h | h
  ·left; rw [h]; simp [apQ]
  ·exact .inr h
 ·simpa [apQ] using e4
def RecX (B : Nat) (w : World) (v : Value) (full : List UInt8) : Prop := ∃ D, Bs B w v D ∧ (D = full ∨ 60000 < D.length) ∧ D.length ≤ full.length
theorem ents_5000_ {l : List Et} (h : entsOk (l.map pe) = true) : l.length ≤ 5000 := by
 have := (entsOk_iff h).2
 rwa [List.length_map] at this
theorem long_take (r : Rc) (hs : sndRec (pr r) = true) (hl : 60000 < (recB (pr r)).length) : r.kind = 7 := by
 obtain ⟨h1, h2, h3, h4⟩ := snd_parts r hs
 have a1 := factsB_weight r.facts
 have a3 := fw_ok h3
 have a5 := nodesB_len r.nodes
 have a6 := spansB_len r.spans
 have e1 : (pr r).nodes = r.nodes := rfl
 have e2 : (pr r).facts = r.facts.map pf := rfl
 have e3 : (pr r).spans = r.spans := rfl
 have e5 : (pr r).kind = r.kind := rfl
 unfold recB bodyB at hl
 rw [laQ, laQ, putI_len, putI_len, e1, e2, e3, e5] at hl
 by_cases k1 : r.kind = 1
 ·rw [if_pos k1, laQ] at hl; omega
 rw [if_neg k1] at hl
 by_cases k2 : r.kind = 2
 ·rw [if_pos k2, laQ, putI_len] at hl; omega
 rw [if_neg k2] at hl
 by_cases k6 : r.kind = 6
 ·rw [if_pos k6] at hl
  unfold mapB at hl
  rw [laQ, laQ, putI_len, putI_len] at hl; omega
 rw [if_neg k6] at hl
 by_cases k7 : r.kind = 7
 ·exact k7
 ·rw [if_neg k7] at hl
  simp only [List.length_nil] at hl
  omega

theorem layRecX_7 (w : World) (r : Rc) (hR : RecIn w r) (hk : r.kind = 7) (he : entsOk (r.ents.map pe) = true) (hl : (recB (pr r)).length ≤ 100000000) :
  Calls Tryz.prog 109 #[rcV r] w fun e w' => ∃ v', e = .returned v' ∧ RecX w.heap.size w' v' (recB (pr r)) ∧ Below w.heap.size w w' := by
 obtain ⟨kind, id, at_, na, nc, nodes, fa, fc, facts, epoch, sa, sc, spans, frm, til, ea, ec, ents⟩ := r
 simp only at hk he
 subst hk
 have E : Hid (recB (pr ⟨7, id, at_, na, nc, nodes, fa, fc, facts, epoch, sa, sc, spans, frm, til, ea, ec, ents⟩) = putI 7 1 ++ (putI id 4 ++ (putI frm 4 ++ (putI til 4 ++ (putI ents.length 4 ++ ents.flatMap (fun e => entB (pe e))))))) := by
  show _ = _
  simp [recB, bodyB, pr, nodesB, factsB, mapB, entsB, flatF_map, flatE_map]
 rw [E.out] at hl
 simp only [laQ, List.length_nil, putI_len] at hl
 have HEO : Aside (∀ e ∈ ents, factsOk (e.fs.map pf) = true) := fun e h => (entsOk_iff he).1 (pe e) (List.mem_map.2 ⟨e, h, rfl⟩)
 have he5 := ents_5000_ he
 have l1 := flatN_len nodes
 have l2 := flatF_least facts
 have l3 := flatS_least spans
 have l4 := flatE_least ents
 have hb0 : Below w.heap.size w (w.alloc (.cells #[(.int .u8 7), (.int .u32 id), (.int .u32 at_), (.slice na nodes.length nc), (.slice fa facts.length fc), (.int .u32 epoch), (.slice sa spans.length sc), (.int .i64 frm), (.int .i64 til), (.slice ea ents.length ec)] 46)) := by (repeat (first | with_reducible exact Below.refl _ _ | (with_reducible refine Below.drew ?_) | (with_reducible refine Below.alloc ?_ (by first | omega | (simp; done) | (simp; omega)) _) | (with_reducible refine Below.setCell ?_ (by first | exact nrQ _ | omega | (simp; done) | (simp; omega)) _)))
 have hR0 := hR.keep hb0
 have hcell : ∀ W, Below (w.heap.size + 1) (w.alloc (.cells #[(.int .u8 7), (.int .u32 id), (.int .u32 at_), (.slice na nodes.length nc), (.slice fa facts.length fc), (.int .u32 epoch), (.slice sa spans.length sc), (.int .i64 frm), (.int .i64 til), (.slice ea ents.length ec)] 46)) W → ∀ j x, #[(.int .u8 7), (.int .u32 id), (.int .u32 at_), (.slice na nodes.length nc), (.slice fa facts.length fc), (.int .u32 epoch), (.slice sa spans.length sc), (.int .i64 frm), (.int .i64 til), (.slice ea ents.length ec)][j]? = some x → W.cell? ⟨w.heap.size, j, none⟩ = some x := by
  intro W hW j x hx
  rw [hW.cell (p := ⟨w.heap.size, j, none⟩) (by simp)]
  simpa [go_sem] using hx
 have hsz : (w.alloc (.cells #[(.int .u8 7), (.int .u32 id), (.int .u32 at_), (.slice na nodes.length nc), (.slice fa facts.length fc), (.int .u32 epoch), (.slice sa spans.length sc), (.int .i64 frm), (.int .i64 til), (.slice ea ents.length ec)] 46)).heap.size = w.heap.size + 1 := by simp
 generalize hW0 : w.alloc (.cells #[(.int .u8 7), (.int .u32 id), (.int .u32 at_), (.slice na nodes.length nc), (.slice fa facts.length fc), (.int .u32 epoch), (.slice sa spans.length sc), (.int .i64 frm), (.int .i64 til), (.slice ea ents.length ec)] 46) = W0 at hb0 hR0 hcell hsz
 rw [← hsz] at hcell
 have HR : Aside (RecIn W0 _) := hR0
 have H0 : Aside (Below w.heap.size w W0) := hb0
 obtain ⟨nn, hnn⟩ : ∃ nn, nodes.length = nn := ⟨_, rfl⟩
 have HN : Hid (nodes.length = nn) := hnn
 obtain ⟨fn, hfn⟩ : ∃ fn, facts.length = fn := ⟨_, rfl⟩
 have HF : Hid (facts.length = fn) := hfn
 obtain ⟨sn, hsn⟩ : ∃ sn, spans.length = sn := ⟨_, rfl⟩
 have HS : Hid (spans.length = sn) := hsn
 obtain ⟨en, hen⟩ : ∃ en, ents.length = en := ⟨_, rfl⟩
 have HE : Hid (ents.length = en) := hen
 show Calls _ _ #[.agg #[(.int .u8 7), (.int .u32 id), (.int .u32 at_), (.slice na nodes.length nc), (.slice fa facts.length fc), (.int .u32 epoch), (.slice sa spans.length sc), (.int .i64 frm), (.int .i64 til), (.slice ea ents.length ec)]] _ _
 rw [hnn, hfn, hsn, hen] at hW0 hcell ⊢
 rw [hen] at he5
 have HC : Aside (∀ W, Below W0.heap.size W0 W → _) := hcell
 have HW : Hid (_ = W0) := hW0
 have b0 := Below.refl W0.heap.size W0
 have h0 := Bs.nil W0.heap.size W0
 have s0 : w.heap.size < W0.heap.size := by omega
 clear he hR hR0 hb0 hcell hsz hW0 hnn hfn hsn hen
 go_enter Tryz.func109, Tryz.ntmps109
 go_wp2_with fail
 rw [HW.out]
 have hC1 := lay_u8 W0.heap.size 1 7 HR.out.kind (by omega) (.slice none 0 0) _ W0 h0 b0.size (by (try simp only [laQ, List.length_nil, putI_len]); have e1 := HN.out; have e2 := HF.out; have e3 := HS.out; have e4 := HE.out; omega)
 have q1 := HC.out W0 b0 0 _ rfl
 go_wp2_with (go_at_call 117; refine hC1.mono ?_; rintro e w1 ⟨v1, rfl, h1, g1⟩; refine Hid.out ?_)
 refine hid ?_
 have b1 : Below W0.heap.size W0 w1 := b0.trans (g1.below h0 b0.size)
 clear hC1 q1 g1
 have hC2 := lay_u32 W0.heap.size 4 id HR.out.id (by omega) v1 _ w1 h1 b1.size (by (try simp only [laQ, List.length_nil, putI_len]); have e1 := HN.out; have e2 := HF.out; have e3 := HS.out; have e4 := HE.out; omega)
 have q2 := HC.out w1 b1 1 _ rfl
 go_wp2_with (go_at_call 118; refine hC2.mono ?_; rintro e w2 ⟨v2, rfl, h2, g2⟩; refine Hid.out ?_)
 refine hid ?_
 have b2 : Below W0.heap.size W0 w2 := b1.trans (g2.below h1 b1.size)
 have qk := HC.out w2 b2 0 _ rfl
 clear hC2 q2 g2
 have hC3 := lay_int W0.heap.size 4 frm HR.out.frm (by omega) v2 _ w2 h2 b2.size (by (try simp only [laQ, List.length_nil, putI_len]); have e1 := HN.out; have e2 := HF.out; have e3 := HS.out; have e4 := HE.out; omega)
 have q3 := HC.out w2 b2 7 _ rfl
 go_wp2_with (go_at_call 125; refine hC3.mono ?_; rintro e w3 ⟨v3, rfl, h3, g3⟩; refine Hid.out ?_)
 refine hid ?_
 have b3 : Below W0.heap.size W0 w3 := b2.trans (g3.below h2 b2.size)
 clear hC3 q3 g3
 have hC4 := lay_int W0.heap.size 4 til HR.out.til (by omega) v3 _ w3 h3 b3.size (by (try simp only [laQ, List.length_nil, putI_len]); have e1 := HN.out; have e2 := HF.out; have e3 := HS.out; have e4 := HE.out; omega)
 have q4 := HC.out w3 b3 8 _ rfl
 go_wp2_with (go_at_call 125; refine hC4.mono ?_; rintro e w4 ⟨v4, rfl, h4, g4⟩; refine Hid.out ?_)
 refine hid ?_
 have b4 : Below W0.heap.size W0 w4 := b3.trans (g4.below h3 b3.size)
 clear hC4 q4 g4
 have hC5 := layAllX_ent W0 127 (fun e => entB (pe e)) ea ents en ec 4 HR.out.ents HE.out (by omega) (fun _ _ => rfl) (fun e he => layEntryX W0 e (HR.out.ents.ok e he) (HEO.out e he)) w4 v4 _ b4 h4 (by (try simp only [laQ, List.length_nil, putI_len]); have e1 := HN.out; have e2 := HF.out; have e3 := HS.out; have e4 := HE.out; omega) (by (try simp only [laQ, List.length_nil, putI_len]); have e1 := HN.out; have e2 := HF.out; have e3 := HS.out; have e4 := HE.out; omega)
 have q5 := HC.out w4 b4 9 _ rfl
 go_wp2_with (go_at_call 126; refine hC5.mono ?_; rintro e w5 ⟨v5, rfl, hP⟩; refine Hid.out ?_)
 refine hid ?_
 obtain ⟨D, h5, g5, hor, hle⟩ := hP
 have b5 : Below W0.heap.size W0 w5 := b4.trans (g5.below h4 b4.size)
 clear hC5 q5 g5
 go_wp2
 go_ret
 refine ⟨_, rfl, ⟨D, own_mono h5 H0.out.size, ?_, ?_⟩, H0.out.trans (b5.mono H0.out.size)⟩
 ·rw [E.out]
  rcases hor with h | h
  ·left; rw [h]; simp [apQ]
  ·exact .inr h
 ·rw [E.out]; simpa [apQ] using hle

theorem encode_big (w : World) (r : Rc) (hR : RecIn w r) (hs : sndRec (pr r) = true) (hl : 60000 < (recB (pr r)).length) :
  Calls Tryz.prog 80 #[rcV r] w fun e w' => e = .returned (.tuple #[.slice none 0 0, .int .u16 3]) ∧ Below w.heap.size w w' := by
 have hk := long_take r hs hl
 have hB : Below w.heap.size w (w.alloc (.cells (rcC r) 46)) := (Below.refl _ _).alloc (nrQ _) _
 have hR0 := hR.keep hB
 have hsz : (w.alloc (.cells (rcC r) 46)).heap.size = w.heap.size + 1 := by simp
 have hC1 := sound_any _ r hR0
 have hsm := snd_small r hs
 have hen := (snd_parts r hs).2.2.2
 rw [hs] at hC1
 have hq0 := rec_box w r 46
 generalize hW0 : w.alloc (.cells (rcC r) 46) = W0 at hB hR0 hsz hC1 hq0
 have HW := hid_rc r hW0
 have HR : Aside (RecIn W0 r ∧ 60000 < (recB (pr r)).length ∧ Below w.heap.size w W0 ∧ r.kind = 7 ∧ entsOk (r.ents.map pe) = true ∧ (recB (pr r)).length ≤ 100000000) := ⟨hR0, hl, hB, hk, hen, hsm⟩
 clear hW0 hR hR0 hB hs hk hen hsm
 refine calls_rc r ?_
 go_enter Tryz.func80, Tryz.ntmps80
 go_wp2_with fail
 rw [HW.out]
 refine hC1.mono ?_
 rintro e w1 ⟨rfl, g1⟩
 have q : ∀ j x, (rcC r)[j]? = some x → w1.cell? ⟨w.heap.size, j, none⟩ = some x := fun j x hx => (g1.cell (p := ⟨w.heap.size, j, none⟩) (by simp; omega)).trans (hq0 j x hx)
 have q0 := q 0 _ rfl
 have q1 := q 1 _ rfl
 have q2 := q 2 _ rfl
 have q3 := q 3 _ rfl
 have q4 := q 4 _ rfl
 have q5 := q 5 _ rfl
 have q6 := q 6 _ rfl
 have q7 := q 7 _ rfl
 have q8 := q 8 _ rfl
 have q9 := q 9 _ rfl
 have hC2 := layRecX_7 w1 r (HR.out.1.keep g1) HR.out.2.2.2.1 HR.out.2.2.2.2.1 HR.out.2.2.2.2.2
 have HB : Aside (Below w.heap.size w w1) := HR.out.2.2.1.trans (g1.mono HR.out.2.2.1.size)
 clear q hq0 g1 hC1
 go_wp2_with (go_at_call 109; refine hC2.mono ?_; rintro e w2 ⟨v, rfl, hX, g2⟩; refine Hid.out ?_)
 refine hid ?_
 obtain ⟨D, hDB, hor, hle⟩ := hX
 obtain ⟨va, vc, rfl⟩ := Bs.form hDB
 have hlz : (60000 : Int) < (D.length : Int) := by
  rcases hor with h | h
  ·rw [h]; have := HR.out.2.1; omega
  ·omega
 have HO : Aside (Below w.heap.size w w2) := HB.out.trans (g2.mono HB.out.size)
 clear hC2 hDB hor hle g2 q0 q1 q2 q3 q4 q5 q6 q7 q8 q9
 go_wp2
 go_ret2
 exact ⟨rfl, HO.out⟩
end code
end Go.Proofs.YtlcjllgfpfldlaaGreat
