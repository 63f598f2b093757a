/-
  The walk of DimsCompares: of whatever keys the call answers true.
-/
import Derived.Test.YtkkgniigcfbakaaDimsKnown
import Derived.Test.YtkkgniigcfbakaaDimsOpen
namespace Go.Proofs.Ytkkgniigcfbakaa.dims
open Go.ChangeShapes Go.WideShapes Go.ChangeAt Go.RowKit Go.Deep
set_option linter.unusedVariables false

theorem cmp_val (a1 a2 : Option Addr) (n1 n2 c1 c2 : Nat) (l1 l2 : List Int) (r : Int) (w : World) (h1 : Ints w a1 l1) (h2 : Ints w a2 l2) (e1 : l1.length = n1) (e2 : l2.length = n2) (q1 : n1 ≤ 9223372036854775807) (q2 : n2 ≤ 9223372036854775807) (m1 : n1 ≤ c1) (m2 : n2 ≤ c2) (hr : cmpL l1 l2 = r) :
    Calls Try.prog 26 #[.slice a1 n1 c1, .slice a2 n2 c2] w fun e w' => e = .returned (.int .i64 r) ∧ w' = w := by
  rw [← hr]; exact cmp_any a1 a2 n1 n2 c1 c2 l1 l2 w h1 h2 e1 e2 q1 q2 m1 m2
theorem refCmp_val (a1 a2 : Option Addr) (n1 n2 c1 c2 : Nat) (l1 l2 : List Int) (r : Int) (w : World) (h1 : Ints w a1 l1) (h2 : Ints w a2 l2) (e1 : l1.length = n1) (e2 : l2.length = n2) (q1 : n1 ≤ 9223372036854775807) (q2 : n2 ≤ 9223372036854775807) (hr : cmpL l1 l2 = r) :
    Calls Try.prog 27 #[.slice a1 n1 c1, .slice a2 n2 c2] w fun e w' => e = .returned (.int .i64 r) ∧ Below w.heap.size w w' := by
  rw [← hr]; exact refCmp_any a1 a2 n1 n2 c1 c2 l1 l2 w h1 h2 e1 e2 q1 q2
theorem same_val (a1 a2 : Option Addr) (n1 n2 c1 c2 : Nat) (l1 l2 : List Int) (r : Bool) (w : World) (h1 : Ints w a1 l1) (h2 : Ints w a2 l2) (e1 : l1.length = n1) (e2 : l2.length = n2) (q1 : n1 ≤ 9223372036854775807) (q2 : n2 ≤ 9223372036854775807) (hr : sameB l1 l2 = r) :
    Calls Try.prog 23 #[.slice a1 n1 c1, .slice a2 n2 c2] w fun e w' => e = .returned (.bool r) ∧ Below w.heap.size w w' := by
  rw [← hr]; exact same_any a1 a2 n1 n2 c1 c2 l1 l2 w h1 h2 e1 e2 q1 q2

theorem same_refl (a1 a2 : Option Addr) (n c1 c2 : Nat) (l : List Int) (w : World) (h1 : Ints w a1 l) (h2 : Ints w a2 l) (e1 : l.length = n) (q1 : n ≤ 9223372036854775807) :
    Calls Try.prog 23 #[.slice a1 n c1, .slice a2 n c2] w fun e w' => e = .returned (.bool true) ∧ Below w.heap.size w w' :=
  same_val a1 a2 n n c1 c2 l l true w h1 h2 e1 e1 q1 q1 (decide_eq_true rfl)

set_option maxHeartbeats 4000000 in
theorem compares_walk (a1 a2 : Option Addr) (n1 n2 c1 c2 : Nat) (l1 l2 : List Int) (w : World) (r1 : Nums .i64 w a1 n1 c1 l1) (r2 : Nums .i64 w a2 n2 c2 l2) :
    Calls Try.prog 8 #[.slice a1 n1 c1, .slice a2 n2 c2] w fun e w' => e = .returned (.bool true) ∧ Below w.heap.size w w' := by
  obtain ⟨i1, e1, m1, x1, _⟩ := r1
  obtain ⟨i2, e2, m2, x2, _⟩ := r2
  have x1' := Nat.le_trans x1 maxLen_le
  have x2' := Nat.le_trans x2 maxLen_le
  have hK := known_any w
  by_cases h1 : (200 : Int) < (n1 : Int)
  · clear i1 i2 e1 e2
    go_enter Try.func8, Try.ntmps8
    go_wp2_with (go_at_call 13; refine hK.mono ?_; rintro e w1 ⟨rfl, hb1⟩)
    go_ret
    exact ⟨rfl, hb1⟩
  by_cases h2 : (200 : Int) < (n2 : Int)
  · clear i1 i2 e1 e2
    go_enter Try.func8, Try.ntmps8
    go_wp2_with (go_at_call 13; refine hK.mono ?_; rintro e w1 ⟨rfl, hb1⟩)
    go_ret
    exact ⟨rfl, hb1⟩
  obtain ⟨c, hc⟩ : ∃ c, cmpL l1 l2 = c := ⟨_, rfl⟩
  have hd : cmpL l2 l1 = -c := by rw [cmpL_flip, hc]
  have hs : sameB l1 l2 = decide (c = 0) := by
    unfold sameB
    congr 1
    rw [eq_iff_iff, ← hc]
    exact (cmpL_zero l1 l2).symm
  have q1 : n1 ≤ 9223372036854775807 := by omega
  have q2 : n2 ≤ 9223372036854775807 := by omega
  have hin := cmpL_in l1 l2
  rw [hc] at hin
  have C1 := fun W (j1 : Ints W a1 l1) (j2 : Ints W a2 l2) => cmp_val a1 a2 n1 n2 c1 c2 l1 l2 c W j1 j2 e1 e2 q1 q2 m1 m2 hc
  have C2 := fun W (j1 : Ints W a1 l1) (j2 : Ints W a2 l2) => refCmp_val a1 a2 n1 n2 c1 c2 l1 l2 c W j1 j2 e1 e2 q1 q2 hc
  have C3 := fun W (j1 : Ints W a1 l1) (j2 : Ints W a2 l2) => cmp_val a2 a1 n2 n1 c2 c1 l2 l1 (-c) W j2 j1 e2 e1 q2 q1 m2 m1 hd
  have C4 := fun W (j1 : Ints W a1 l1) (j2 : Ints W a2 l2) => same_val a1 a2 n1 n2 c1 c2 l1 l2 (decide (c = 0)) W j1 j2 e1 e2 q1 q2 hs
  have H1 : Aside (Ints w a1 l1) := (Smalls.ints i1)
  have H2 : Aside (Ints w a2 l2) := (Smalls.ints i2)
  clear i1 i2 e1 e2 hc hd hs
  rcases hin with rfl | rfl | rfl
  all_goals
    go_enter Try.func8, Try.ntmps8
    go_wp2_with (go_at_call 13; refine hK.mono ?_; rintro e w1 ⟨rfl, hb1⟩)
    have B1 : Aside _ := hb1
    clear hb1 hK
    refine (C1 _ (H1.out.keep B1.out) (H2.out.keep B1.out)).mono ?_
    rintro e w2 ⟨rfl, rfl⟩
    go_wp2_with fail
    refine (C2 _ (H1.out.keep B1.out) (H2.out.keep B1.out)).mono ?_
    rintro e w2 ⟨rfl, hb2⟩
    have B2 : Aside _ := B1.out.trans (hb2.mono B1.out.size)
    clear B1 hb2
    go_wp2_with fail
    refine (C3 _ (H1.out.keep B2.out) (H2.out.keep B2.out)).mono ?_
    rintro e w3 ⟨rfl, rfl⟩
    go_wp2_with fail
    refine (C1 _ (H1.out.keep B2.out) (H2.out.keep B2.out)).mono ?_
    rintro e w3 ⟨rfl, rfl⟩
    go_wp2_with fail
    refine (C1 _ (H1.out.keep B2.out) (H2.out.keep B2.out)).mono ?_
    rintro e w3 ⟨rfl, rfl⟩
    go_wp2_with fail
    refine (C4 _ (H1.out.keep B2.out) (H2.out.keep B2.out)).mono ?_
    rintro e w3 ⟨rfl, hb3⟩
    have B3 : Aside _ := B2.out.trans (hb3.mono B2.out.size)
    clear hb3
    go_wp2
    go_ret
    exact ⟨rfl, B3.out⟩
end Go.Proofs.Ytkkgniigcfbakaa.dims
