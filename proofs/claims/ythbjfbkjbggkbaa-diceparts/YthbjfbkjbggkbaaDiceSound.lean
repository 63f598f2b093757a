/-
  The contracts of dice.Sound and of the chapter's Sound: is it a box?
-/
import Derived.Test.YthbjfbkjbggkbaaDiceWithin
namespace Go.Proofs.Ythbjfbkjbggkbaa.dice
open Go.ChangeShapes Go.WideShapes Go.ChangeAt Go.RowKit Go.Deep
open Go.Proofs.Ythbjfbkjbggkbaa.dims
set_option linter.unusedVariables false
set_option maxRecDepth 100000

set_option maxHeartbeats 4000000 in
theorem box_any (a a1 a2 : Option Addr) (n cap n1 n2 c1 c2 : Nat) (ds : List Dm) (lo up : List Int) (w : World) (hI : DimsIn w a ds) (hn : ds.length = n) (h1 : Ints w a1 lo) (e1 : lo.length = n1) (h2 : Ints w a2 up) (e2 : up.length = n2) (hm : n ≤ 9223372036854775807) :
    Calls Try.prog 17 #[.slice a n cap, .slice a1 n1 c1, .slice a2 n2 c2] w fun e w' => e = .returned (.bool (bx ds lo up)) ∧ Below w.heap.size w w' := by
  by_cases hl : n1 = n ∧ n2 = n
  · obtain ⟨hl1, hl2⟩ := hl
    subst hl1
    subst hl2
    have HI : Aside (DimsIn w a ds ∧ ds.length = n2) := ⟨hI, hn⟩
    have H1 : Aside (Ints w a1 lo ∧ lo.length = n2) := ⟨h1, e1⟩
    have H2 : Aside (Ints w a2 up ∧ up.length = n2) := ⟨h2, e2⟩
    clear hI hn h1 h2 e1 e2
    go_enter Try.func17, Try.ntmps17
    go_wp2_with fail
    refine (two_long n2 w.heap.size a1 a2 n2 n2 c1 c2 true _ (by simp [go_sem]) (by simp [go_sem]) (decide_eq_true ⟨rfl, rfl⟩)).mono ?_
    rintro e w1 ⟨rfl, rfl⟩
    have HB : Aside (Below w.heap.size w (w.alloc (.cells #[.slice a1 n2 c1, .slice a2 n2 c2] 26))) := (Below.refl _ _).alloc (Nat.le_refl _) _
    generalize w.alloc (.cells #[.slice a1 n2 c1, .slice a2 n2 c2] 26) = w1 at HB ⊢
    go_wp2_with fail
    go_loopg [7, 8, 18] n2 (fun g1 s t vi wr => ∃ (k : Nat), vi = .int .i64 k ∧ k ≤ n2 ∧ n2 - k ≤ g1 ∧ Aside (Below w.heap.size w wr ∧ ∀ i, i < k → bxAt ds lo up i = true))
    case atStart => exact ⟨0, rfl, Nat.zero_le _, Nat.le_refl _, HB.out, fun i hi => by omega⟩
    case round =>
      obtain ⟨k, rfl, hk, hg1, SK⟩ := hrel
      by_cases hlt : k < n2
      · have hltz : (k : Int) < (n2 : Int) := by omega
        have hkd : k < ds.length := by rw [HI.out.2]; exact hlt
        obtain ⟨b, off, ha, hc⟩ := (HI.out.1.keep SK.out.1).get (k := k) hkd
        obtain ⟨b1, o1, ha1, hc1⟩ := (H1.out.1.keep SK.out.1).get (k := k) (by rw [H1.out.2]; exact hlt)
        obtain ⟨b2, o2, ha2, hc2⟩ := (H2.out.1.keep SK.out.1).get (k := k) (by rw [H2.out.2]; exact hlt)
        subst ha
        subst ha1
        subst ha2
        obtain ⟨r0, rr, -, -⟩ := hc k hkd
        have r1 := hc1 k (by rw [H1.out.2]; exact hlt)
        have r2 := hc2 k (by rw [H2.out.2]; exact hlt)
        have l1 := cell_lt r1
        have l2 := cell_lt r2
        clear hc hc1 hc2
        obtain ⟨x, hx⟩ : ∃ x, nth lo k = x := ⟨_, rfl⟩
        obtain ⟨y, hy⟩ : ∃ x, nth up k = x := ⟨_, rfl⟩
        obtain ⟨s, hs⟩ : ∃ s, (dn ds k).sz = s := ⟨_, rfl⟩
        rw [hx] at r1
        rw [hy] at r2
        rw [hs] at r0
        have HX : Hid (bxAt ds lo up k = (decide (0 ≤ x) && (decide (x ≤ y) && decide (y ≤ s)))) := by show _ = _; unfold bxAt; rw [hx, hy, hs]
        clear hx hy hs
        generalize (dn ds k).a = t2 at rr
        generalize (dn ds k).l.length = t3 at rr
        generalize (dn ds k).cap = t4 at rr
        have SW : Aside (Below w.heap.size w (wr.alloc (.cells #[.int .i64 s, .slice t2 t3 t4] 29))) := SK.out.1.alloc SK.out.1.size _
        by_cases gd1 : x < 0
        · have E : Hid (bx ds lo up = false) := bx_at hkd (by rw [HX.out]; simp; omega)
          have d1 : decide (x < 0) = true := decide_eq_true gd1
          go_wp2_with fail
          go_quiet (fail)
          go_wp2
          go_ret
          exact ⟨ret_bool E.out.symm, below_drewN SW.out nq⟩
        have d1 : decide (x < 0) = false := decide_eq_false gd1
        by_cases gd2 : y < x
        · have E : Hid (bx ds lo up = false) := bx_at hkd (by rw [HX.out]; simp; omega)
          have d2 : decide (y < x) = true := decide_eq_true gd2
          go_wp2_with fail
          go_quiet (fail)
          go_wp2
          go_ret
          exact ⟨ret_bool E.out.symm, below_drewN SW.out nq⟩
        have d2 : decide (y < x) = false := decide_eq_false gd2
        by_cases gd3 : s < y
        · have E : Hid (bx ds lo up = false) := bx_at hkd (by rw [HX.out]; simp; omega)
          have d3 : decide (s < y) = true := decide_eq_true gd3
          go_wp2_with fail
          go_quiet (fail)
          go_wp2
          go_ret
          exact ⟨ret_bool E.out.symm, below_drewN SW.out nq⟩
        have d3 : decide (s < y) = false := decide_eq_false gd3
        have S2 : Aside (∀ i, i < k + 1 → bxAt ds lo up i = true) := fun i hi => by
          by_cases e : i = k
          · subst e; rw [HX.out]; simp; omega
          · exact SK.out.2 i (by omega)
        go_wp2_with fail
        go_quiet (fail)
        have SB : Aside _ := below_drewN SW.out nq
        go_wp2
        go_roundg (n2 - (k + 1))
        case measure => omega
        case rel => exact ⟨k + 1, by go_num, by omega, by omega, SB.out, S2.out⟩
      · have hltz : ¬ (k : Int) < (n2 : Int) := by omega
        have E : Hid (bx ds lo up = true) := bx_true (by rw [H1.out.2, HI.out.2]) (by rw [H2.out.2, HI.out.2]) fun i hi => SK.out.2 i (by have := HI.out.2; omega)
        go_wp2
        go_ret
        exact ⟨ret_bool E.out.symm, SK.out.1⟩
  · have E : Hid (bx ds lo up = false) := bx_len (by rw [e1, e2, hn]; exact hl)
    clear hI hn h1 h2 e1 e2
    go_enter Try.func17, Try.ntmps17
    go_wp2_with fail
    refine (two_long n w.heap.size a1 a2 n1 n2 c1 c2 false _ (by simp [go_sem]) (by simp [go_sem]) (decide_eq_false hl)).mono ?_
    rintro e w1 ⟨rfl, rfl⟩
    go_wp2
    go_ret
    exact ⟨ret_bool E.out.symm, (Below.refl _ _).alloc (Nat.le_refl _) _⟩

theorem box_val (a a1 a2 : Option Addr) (n cap n1 n2 c1 c2 : Nat) (ds : List Dm) (lo up : List Int) (r : Bool) (w : World) (hI : DimsIn w a ds) (hn : ds.length = n) (h1 : Ints w a1 lo) (e1 : lo.length = n1) (h2 : Ints w a2 up) (e2 : up.length = n2) (hm : n ≤ 9223372036854775807) (hr : bx ds lo up = r) :
    Calls Try.prog 17 #[.slice a n cap, .slice a1 n1 c1, .slice a2 n2 c2] w fun e w' => e = .returned (.bool r) ∧ Below w.heap.size w w' := by
  rw [← hr]; exact box_any a a1 a2 n cap n1 n2 c1 c2 ds lo up w hI hn h1 e1 h2 e2 hm

set_option maxHeartbeats 4000000 in
theorem refBox_any (a a1 a2 : Option Addr) (n cap n1 n2 c1 c2 : Nat) (ds : List Dm) (lo up : List Int) (w : World) (hI : DimsIn w a ds) (hn : ds.length = n) (h1 : Ints w a1 lo) (e1 : lo.length = n1) (h2 : Ints w a2 up) (e2 : up.length = n2) (hm : n ≤ 9223372036854775807) :
    Calls Try.prog 18 #[.slice a n cap, .slice a1 n1 c1, .slice a2 n2 c2] w fun e w' => e = .returned (.bool (bx ds lo up)) ∧ Below w.heap.size w w' := by
  by_cases hl : n1 = n ∧ n2 = n
  · obtain ⟨hl1, hl2⟩ := hl
    subst hl1
    subst hl2
    have HI : Aside (DimsIn w a ds ∧ ds.length = n2) := ⟨hI, hn⟩
    have H1 : Aside (Ints w a1 lo ∧ lo.length = n2) := ⟨h1, e1⟩
    have H2 : Aside (Ints w a2 up ∧ up.length = n2) := ⟨h2, e2⟩
    clear hI hn h1 h2 e1 e2
    have b12 : ((n2 : Int) == (n2 : Int)) = true := by simp
    go_enter Try.func18, Try.ntmps18
    go_wp2_with fail
    go_loopg [7] n2 (fun g1 vi wr => ∃ (k : Nat), vi = .int .i64 k ∧ k ≤ n2 ∧ n2 - k ≤ g1 ∧ Aside (Below w.heap.size w wr ∧ ∀ i, i < k → bxAt ds lo up i = true))
    case atStart => exact ⟨0, rfl, Nat.zero_le _, Nat.le_refl _, Below.refl _ _, fun i hi => by omega⟩
    case round =>
      obtain ⟨k, rfl, hk, hg1, SK⟩ := hrel
      by_cases hlt : k < n2
      · have hltz : (k : Int) < (n2 : Int) := by omega
        have hkd : k < ds.length := by rw [HI.out.2]; exact hlt
        obtain ⟨b, off, ha, hc⟩ := (HI.out.1.keep SK.out.1).get (k := k) hkd
        obtain ⟨b1, o1, ha1, hc1⟩ := (H1.out.1.keep SK.out.1).get (k := k) (by rw [H1.out.2]; exact hlt)
        obtain ⟨b2, o2, ha2, hc2⟩ := (H2.out.1.keep SK.out.1).get (k := k) (by rw [H2.out.2]; exact hlt)
        subst ha
        subst ha1
        subst ha2
        obtain ⟨r0, rr, -, -⟩ := hc k hkd
        have r1 := hc1 k (by rw [H1.out.2]; exact hlt)
        have r2 := hc2 k (by rw [H2.out.2]; exact hlt)
        have l1 := cell_lt r1
        have l2 := cell_lt r2
        clear hc hc1 hc2
        obtain ⟨x, hx⟩ : ∃ x, nth lo k = x := ⟨_, rfl⟩
        obtain ⟨y, hy⟩ : ∃ x, nth up k = x := ⟨_, rfl⟩
        obtain ⟨s, hs⟩ : ∃ s, (dn ds k).sz = s := ⟨_, rfl⟩
        rw [hx] at r1
        rw [hy] at r2
        rw [hs] at r0
        have HX : Hid (bxAt ds lo up k = (decide (0 ≤ x) && (decide (x ≤ y) && decide (y ≤ s)))) := by show _ = _; unfold bxAt; rw [hx, hy, hs]
        clear hx hy hs
        clear rr
        by_cases gd1 : x < 0
        · have E : Hid (bx ds lo up = false) := bx_at hkd (by rw [HX.out]; simp; omega)
          have d1 : decide (x < 0) = true := decide_eq_true gd1
          go_wp2_with fail
          go_quiet (fail)
          go_wp2
          go_ret
          exact ⟨ret_bool E.out.symm, below_drewN SK.out.1 nq⟩
        have d1 : decide (x < 0) = false := decide_eq_false gd1
        by_cases gd2 : y < x
        · have E : Hid (bx ds lo up = false) := bx_at hkd (by rw [HX.out]; simp; omega)
          have d2 : decide (y < x) = true := decide_eq_true gd2
          go_wp2_with fail
          go_quiet (fail)
          go_wp2
          go_ret
          exact ⟨ret_bool E.out.symm, below_drewN SK.out.1 nq⟩
        have d2 : decide (y < x) = false := decide_eq_false gd2
        by_cases gd3 : s < y
        · have E : Hid (bx ds lo up = false) := bx_at hkd (by rw [HX.out]; simp; omega)
          have d3 : decide (s < y) = true := decide_eq_true gd3
          go_wp2_with fail
          go_quiet (fail)
          go_wp2
          go_ret
          exact ⟨ret_bool E.out.symm, below_drewN SK.out.1 nq⟩
        have d3 : decide (s < y) = false := decide_eq_false gd3
        have S2 : Aside (∀ i, i < k + 1 → bxAt ds lo up i = true) := fun i hi => by
          by_cases e : i = k
          · subst e; rw [HX.out]; simp; omega
          · exact SK.out.2 i (by omega)
        go_wp2_with fail
        go_quiet (fail)
        have SB : Aside _ := below_drewN SK.out.1 nq
        go_wp2
        go_roundg (n2 - (k + 1))
        case measure => omega
        case rel => exact ⟨k + 1, by go_num, by omega, by omega, SB.out, S2.out⟩
      · have hltz : ¬ (k : Int) < (n2 : Int) := by omega
        have E : Hid (bx ds lo up = true) := bx_true (by rw [H1.out.2, HI.out.2]) (by rw [H2.out.2, HI.out.2]) fun i hi => SK.out.2 i (by have := HI.out.2; omega)
        go_wp2
        go_ret
        exact ⟨ret_bool E.out.symm, SK.out.1⟩
  · have E : Hid (bx ds lo up = false) := bx_len (by rw [e1, e2, hn]; exact hl)
    clear hI hn h1 h2 e1 e2
    by_cases g1 : n1 = n
    · subst g1
      have b2 : ((n2 : Int) == (n1 : Int)) = false := by
        have : ¬ n2 = n1 := fun e => hl ⟨rfl, e⟩
        simp; omega
      clear hl
      go_enter Try.func18, Try.ntmps18
      go_wp2
      go_ret
      exact ⟨ret_bool E.out.symm, Below.refl _ _⟩
    · have b1 : ((n1 : Int) == (n : Int)) = false := by simp; omega
      clear g1 hl
      go_enter Try.func18, Try.ntmps18
      go_wp2
      go_ret
      exact ⟨ret_bool E.out.symm, Below.refl _ _⟩

theorem refBox_val (a a1 a2 : Option Addr) (n cap n1 n2 c1 c2 : Nat) (ds : List Dm) (lo up : List Int) (r : Bool) (w : World) (hI : DimsIn w a ds) (hn : ds.length = n) (h1 : Ints w a1 lo) (e1 : lo.length = n1) (h2 : Ints w a2 up) (e2 : up.length = n2) (hm : n ≤ 9223372036854775807) (hr : bx ds lo up = r) :
    Calls Try.prog 18 #[.slice a n cap, .slice a1 n1 c1, .slice a2 n2 c2] w fun e w' => e = .returned (.bool r) ∧ Below w.heap.size w w' := by
  rw [← hr]; exact refBox_any a a1 a2 n cap n1 n2 c1 c2 ds lo up w hI hn h1 e1 h2 e2 hm
end Go.Proofs.Ythbjfbkjbggkbaa.dice
