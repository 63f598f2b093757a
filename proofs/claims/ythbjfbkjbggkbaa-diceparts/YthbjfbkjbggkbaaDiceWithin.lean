/-
  The contracts of dice.Within and of the chapter's Within: is a key in a box?
-/
import Derived.Test.YthbjfbkjbggkbaaDiceLeaf
namespace Go.Proofs.Ythbjfbkjbggkbaa.dice
open Go.ChangeShapes Go.WideShapes Go.ChangeAt Go.RowKit Go.Deep
open Go.Proofs.Ythbjfbkjbggkbaa.dims
set_option linter.unusedVariables false
set_option maxRecDepth 100000

theorem allLong_val (p bb k : Nat) (A : Nat → Option Addr) (L C : Nat → Nat) (r : Bool) (w : World) (hk : k ≤ 1000) (hc : ∀ i, i < k → w.cell? ⟨bb, i, none⟩ = some (.slice (A i) (L i) (C i))) (hr : allB k (fun i => decide (L i = p)) = r) :
    Calls Try.prog 25 #[.int .i64 p, .slice (some ⟨bb, 0, none⟩) k k] w fun e w' => e = .returned (.bool r) ∧ w' = w := by
  rw [← hr]; exact allLong_any p bb k A L C w hk hc

theorem two_long (p bb : Nat) (a1 a2 : Option Addr) (n1 n2 c1 c2 : Nat) (r : Bool) (w : World) (h0 : w.cell? ⟨bb, 0, none⟩ = some (.slice a1 n1 c1)) (h1 : w.cell? ⟨bb, 1, none⟩ = some (.slice a2 n2 c2)) (hr : decide (n1 = p ∧ n2 = p) = r) :
    Calls Try.prog 25 #[.int .i64 p, .slice (some ⟨bb, 0, none⟩) 2 2] w fun e w' => e = .returned (.bool r) ∧ w' = w := by
  refine allLong_val p bb 2 (fun i => if i = 0 then a1 else a2) (fun i => if i = 0 then n1 else n2) (fun i => if i = 0 then c1 else c2) r w (by omega) ?_ ?_
  · intro i hi
    match i, hi with
    | 0, _ => simpa using h0
    | 1, _ => simpa using h1
  · rw [← hr]
    by_cases h : n1 = p ∧ n2 = p
    · rw [decide_eq_true h]
      refine allB_true fun i hi => ?_
      match i, hi with
      | 0, _ => simpa using h.1
      | 1, _ => simpa using h.2
    · rw [decide_eq_false h]
      by_cases e : n1 = p
      · exact allB_false (i := 1) (by omega) (by simp; exact fun q => h ⟨e, q⟩)
      · exact allB_false (i := 0) (by omega) (by simpa using e)

theorem three_long (p bb : Nat) (a1 a2 a3 : Option Addr) (n1 n2 n3 c1 c2 c3 : Nat) (r : Bool) (w : World) (h0 : w.cell? ⟨bb, 0, none⟩ = some (.slice a1 n1 c1)) (h1 : w.cell? ⟨bb, 1, none⟩ = some (.slice a2 n2 c2)) (h2 : w.cell? ⟨bb, 2, none⟩ = some (.slice a3 n3 c3)) (hr : decide (n1 = p ∧ n2 = p ∧ n3 = p) = r) :
    Calls Try.prog 25 #[.int .i64 p, .slice (some ⟨bb, 0, none⟩) 3 3] w fun e w' => e = .returned (.bool r) ∧ w' = w := by
  refine allLong_val p bb 3 (fun i => if i = 0 then a1 else if i = 1 then a2 else a3) (fun i => if i = 0 then n1 else if i = 1 then n2 else n3) (fun i => if i = 0 then c1 else if i = 1 then c2 else c3) r w (by omega) ?_ ?_
  · intro i hi
    match i, hi with
    | 0, _ => simpa using h0
    | 1, _ => simpa using h1
    | 2, _ => simpa using h2
  · rw [← hr]
    by_cases h : n1 = p ∧ n2 = p ∧ n3 = p
    · rw [decide_eq_true h]
      refine allB_true fun i hi => ?_
      match i, hi with
      | 0, _ => simpa using h.1
      | 1, _ => simpa using h.2.1
      | 2, _ => simpa using h.2.2
    · rw [decide_eq_false h]
      by_cases e : n1 = p
      · by_cases e2 : n2 = p
        · exact allB_false (i := 2) (by omega) (by simp; exact fun q => h ⟨e, e2, q⟩)
        · exact allB_false (i := 1) (by omega) (by simpa using e2)
      · exact allB_false (i := 0) (by omega) (by simpa using e)

set_option maxHeartbeats 4000000 in
theorem within_any (a1 a2 a3 : Option Addr) (n1 n2 n3 c1 c2 c3 : Nat) (lo up key : List Int) (w : World) (h1 : Ints w a1 lo) (e1 : lo.length = n1) (h2 : Ints w a2 up) (e2 : up.length = n2) (h3 : Ints w a3 key) (e3 : key.length = n3) (hm : n3 ≤ 9223372036854775807) :
    Calls Try.prog 14 #[.slice a1 n1 c1, .slice a2 n2 c2, .slice a3 n3 c3] w fun e w' => e = .returned (.bool (wtn lo up key)) ∧ Below w.heap.size w w' := by
  by_cases hl : n1 = n3 ∧ n2 = n3
  · obtain ⟨rfl, rfl⟩ : n3 = n1 ∧ n2 = n1 := ⟨hl.1.symm, by omega⟩
    have H1 : Aside (Ints w a1 lo ∧ lo.length = n2) := ⟨h1, e1⟩
    have H2 : Aside (Ints w a2 up ∧ up.length = n2) := ⟨h2, e2⟩
    have H3 : Aside (Ints w a3 key ∧ key.length = n2) := ⟨h3, e3⟩
    clear h1 h2 h3 e1 e2 e3 hl
    go_enter Try.func14, Try.ntmps14
    go_wp2_with fail
    refine (two_long n2 w.heap.size a1 a2 n2 n2 c1 c2 true _ (by simp [go_sem]) (by simp [go_sem]) (decide_eq_true ⟨rfl, rfl⟩)).mono ?_
    rintro e w1 ⟨rfl, rfl⟩
    have HB : Aside (Below w.heap.size w (w.alloc (.cells #[.slice a1 n2 c1, .slice a2 n2 c2] 26))) := (Below.refl _ _).alloc (Nat.le_refl _) _
    generalize w.alloc (.cells #[.slice a1 n2 c1, .slice a2 n2 c2] 26) = w1 at HB ⊢
    go_wp2_with fail
    go_loopg [7, 8, 18] n2 (fun g1 s t vi wr => ∃ (k : Nat), vi = .int .i64 k ∧ k ≤ n2 ∧ n2 - k ≤ g1 ∧ wr = w1 ∧ Aside (∀ i, i < k → inAt lo up key i = true))
    case atStart => exact ⟨0, rfl, Nat.zero_le _, Nat.le_refl _, rfl, fun i hi => by omega⟩
    case round =>
      obtain ⟨k, rfl, hk, hg1, rfl, SK⟩ := hrel
      by_cases hlt : k < n2
      · have hltz : (k : Int) < (n2 : Int) := by omega
        obtain ⟨b1, o1, ha1, hc1⟩ := (H1.out.1.keep HB.out).get (k := k) (by rw [H1.out.2]; exact hlt)
        obtain ⟨b2, o2, ha2, hc2⟩ := (H2.out.1.keep HB.out).get (k := k) (by rw [H2.out.2]; exact hlt)
        obtain ⟨b3, o3, ha3, hc3⟩ := (H3.out.1.keep HB.out).get (k := k) (by rw [H3.out.2]; exact hlt)
        subst ha1
        subst ha2
        subst ha3
        have r1 := hc1 k (by rw [H1.out.2]; exact hlt)
        have r2 := hc2 k (by rw [H2.out.2]; exact hlt)
        have r3 := hc3 k (by rw [H3.out.2]; exact hlt)
        have hkl : k < key.length := by rw [H3.out.2]; exact hlt
        clear hc1 hc2 hc3
        obtain ⟨x, hx⟩ : ∃ x, nth lo k = x := ⟨_, rfl⟩
        obtain ⟨y, hy⟩ : ∃ x, nth up k = x := ⟨_, rfl⟩
        obtain ⟨z, hz⟩ : ∃ x, nth key k = x := ⟨_, rfl⟩
        rw [hx] at r1
        rw [hy] at r2
        rw [hz] at r3
        have HX : Hid (inAt lo up key k = (decide (x ≤ z) && decide (z < y))) := by show _ = _; unfold inAt; rw [hx, hy, hz]
        clear hx hy hz
        by_cases g1 : z < x
        · have E : Hid (wtn lo up key = false) := wtn_at hkl (by rw [HX.out]; simp; omega)
          have d1 : decide (z < x) = true := decide_eq_true g1
          go_wp2
          go_ret
          exact ⟨ret_bool E.out.symm, HB.out⟩
        have d1 : decide (z < x) = false := decide_eq_false g1
        by_cases g2 : y ≤ z
        · have E : Hid (wtn lo up key = false) := wtn_at hkl (by rw [HX.out]; simp; omega)
          have d2 : decide (y ≤ z) = true := decide_eq_true g2
          go_wp2
          go_ret
          exact ⟨ret_bool E.out.symm, HB.out⟩
        have d2 : decide (y ≤ z) = false := decide_eq_false g2
        have S2 : Aside (∀ i, i < k + 1 → inAt lo up key i = true) := fun i hi => by
          by_cases e : i = k
          · subst e; rw [HX.out]; simp; omega
          · exact SK.out i (by omega)
        go_wp2
        go_roundg (n2 - (k + 1))
        case measure => omega
        case rel => exact ⟨k + 1, by go_num, by omega, by omega, rfl, S2⟩
      · have hltz : ¬ (k : Int) < (n2 : Int) := by omega
        have E : Hid (wtn lo up key = true) := wtn_true (by rw [H1.out.2, H3.out.2]) (by rw [H2.out.2, H3.out.2]) fun i hi => SK.out i (by have := H3.out.2; omega)
        go_wp2
        go_ret
        exact ⟨ret_bool E.out.symm, HB.out⟩
  · have E : Hid (wtn lo up key = false) := wtn_len (by rw [e1, e2, e3]; exact hl)
    clear h1 h2 h3 e1 e2 e3
    go_enter Try.func14, Try.ntmps14
    go_wp2_with fail
    refine (two_long n3 w.heap.size a1 a2 n1 n2 c1 c2 false _ (by simp [go_sem]) (by simp [go_sem]) (decide_eq_false hl)).mono ?_
    rintro e w1 ⟨rfl, rfl⟩
    go_wp2
    go_ret
    exact ⟨ret_bool E.out.symm, (Below.refl _ _).alloc (Nat.le_refl _) _⟩

set_option maxHeartbeats 4000000 in
theorem refWithin_any (a1 a2 a3 : Option Addr) (n1 n2 n3 c1 c2 c3 : Nat) (lo up key : List Int) (w : World) (h1 : Ints w a1 lo) (e1 : lo.length = n1) (h2 : Ints w a2 up) (e2 : up.length = n2) (h3 : Ints w a3 key) (e3 : key.length = n3) (hm : n1 ≤ 9223372036854775807) :
    Calls Try.prog 19 #[.slice a1 n1 c1, .slice a2 n2 c2, .slice a3 n3 c3] w fun e w' => e = .returned (.bool (wtn lo up key)) ∧ Below w.heap.size w w' := by
  by_cases hl : n1 = n2
  · subst hl
    have b12 : ((n1 : Int) == (n1 : Int)) = true := by simp
    by_cases hl2 : n1 = n3
    · subst hl2
      have H1 : Aside (Ints w a1 lo ∧ lo.length = n1) := ⟨h1, e1⟩
      have H2 : Aside (Ints w a2 up ∧ up.length = n1) := ⟨h2, e2⟩
      have H3 : Aside (Ints w a3 key ∧ key.length = n1) := ⟨h3, e3⟩
      clear h1 h2 h3 e1 e2 e3
      go_enter Try.func19, Try.ntmps19
      go_wp2_with fail
      go_loopg [7] n1 (fun g1 vi wr => ∃ (k : Nat), vi = .int .i64 k ∧ k ≤ n1 ∧ n1 - k ≤ g1 ∧ Aside (Below w.heap.size w wr ∧ ∀ i, i < k → inAt lo up key i = true))
      case atStart => exact ⟨0, rfl, Nat.zero_le _, Nat.le_refl _, Below.refl _ _, fun i hi => by omega⟩
      case round =>
        obtain ⟨k, rfl, hk, hg1, SK⟩ := hrel
        by_cases hlt : k < n1
        · have hltz : (k : Int) < (n1 : Int) := by omega
          obtain ⟨b1, o1, ha1, hc1⟩ := (H1.out.1.keep SK.out.1).get (k := k) (by rw [H1.out.2]; exact hlt)
          obtain ⟨b2, o2, ha2, hc2⟩ := (H2.out.1.keep SK.out.1).get (k := k) (by rw [H2.out.2]; exact hlt)
          obtain ⟨b3, o3, ha3, hc3⟩ := (H3.out.1.keep SK.out.1).get (k := k) (by rw [H3.out.2]; exact hlt)
          subst ha1
          subst ha2
          subst ha3
          have r1 := hc1 k (by rw [H1.out.2]; exact hlt)
          have r2 := hc2 k (by rw [H2.out.2]; exact hlt)
          have r3 := hc3 k (by rw [H3.out.2]; exact hlt)
          have hkl : k < key.length := by rw [H3.out.2]; exact hlt
          clear hc1 hc2 hc3
          obtain ⟨x, hx⟩ : ∃ x, nth lo k = x := ⟨_, rfl⟩
          obtain ⟨y, hy⟩ : ∃ x, nth up k = x := ⟨_, rfl⟩
          obtain ⟨z, hz⟩ : ∃ x, nth key k = x := ⟨_, rfl⟩
          rw [hx] at r1
          rw [hy] at r2
          rw [hz] at r3
          have HX : Hid (inAt lo up key k = (decide (x ≤ z) && decide (z < y))) := by show _ = _; unfold inAt; rw [hx, hy, hz]
          clear hx hy hz
          by_cases g1 : z < x
          · have E : Hid (wtn lo up key = false) := wtn_at hkl (by rw [HX.out]; simp; omega)
            have d1 : decide (z < x) = true := decide_eq_true g1
            go_wp2_with fail
            go_quiet (fail)
            go_wp2
            go_ret
            exact ⟨ret_bool E.out.symm, below_drewN SK.out.1 nq⟩
          have d1 : decide (z < x) = false := decide_eq_false g1
          by_cases g2 : y ≤ z
          · have E : Hid (wtn lo up key = false) := wtn_at hkl (by rw [HX.out]; simp; omega)
            have d2 : decide (y ≤ z) = true := decide_eq_true g2
            go_wp2_with fail
            go_quiet (fail)
            go_wp2
            go_ret
            exact ⟨ret_bool E.out.symm, below_drewN SK.out.1 nq⟩
          have d2 : decide (y ≤ z) = false := decide_eq_false g2
          have S2 : Aside (∀ i, i < k + 1 → inAt lo up key i = true) := fun i hi => by
            by_cases e : i = k
            · subst e; rw [HX.out]; simp; omega
            · exact SK.out.2 i (by omega)
          go_wp2_with fail
          go_quiet (fail)
          have SB : Aside _ := below_drewN SK.out.1 nq
          go_wp2
          go_roundg (n1 - (k + 1))
          case measure => omega
          case rel => exact ⟨k + 1, by go_num, by omega, by omega, SB.out, S2.out⟩
        · have hltz : ¬ (k : Int) < (n1 : Int) := by omega
          have E : Hid (wtn lo up key = true) := wtn_true (by rw [H1.out.2, H3.out.2]) (by rw [H2.out.2, H3.out.2]) fun i hi => SK.out.2 i (by have := H3.out.2; omega)
          go_wp2
          go_ret
          exact ⟨ret_bool E.out.symm, SK.out.1⟩
    · have b13 : ((n1 : Int) == (n3 : Int)) = false := by simp; omega
      have E : Hid (wtn lo up key = false) := wtn_len (by rw [e1, e2, e3]; exact fun h => hl2 h.1)
      clear h1 h2 h3 e1 e2 e3 hl2
      go_enter Try.func19, Try.ntmps19
      go_wp2
      go_ret
      exact ⟨ret_bool E.out.symm, Below.refl _ _⟩
  · have b12 : ((n1 : Int) == (n2 : Int)) = false := by simp; omega
    have E : Hid (wtn lo up key = false) := wtn_len (by rw [e1, e2, e3]; exact fun h => hl (h.1.trans h.2.symm))
    clear h1 h2 h3 e1 e2 e3 hl
    go_enter Try.func19, Try.ntmps19
    go_wp2
    go_ret
    exact ⟨ret_bool E.out.symm, Below.refl _ _⟩

theorem within_val (a1 a2 a3 : Option Addr) (n1 n2 n3 c1 c2 c3 : Nat) (lo up key : List Int) (r : Bool) (w : World) (h1 : Ints w a1 lo) (e1 : lo.length = n1) (h2 : Ints w a2 up) (e2 : up.length = n2) (h3 : Ints w a3 key) (e3 : key.length = n3) (hm : n3 ≤ 9223372036854775807) (hr : wtn lo up key = r) :
    Calls Try.prog 14 #[.slice a1 n1 c1, .slice a2 n2 c2, .slice a3 n3 c3] w fun e w' => e = .returned (.bool r) ∧ Below w.heap.size w w' := by
  rw [← hr]; exact within_any a1 a2 a3 n1 n2 n3 c1 c2 c3 lo up key w h1 e1 h2 e2 h3 e3 hm
theorem refWithin_val (a1 a2 a3 : Option Addr) (n1 n2 n3 c1 c2 c3 : Nat) (lo up key : List Int) (r : Bool) (w : World) (h1 : Ints w a1 lo) (e1 : lo.length = n1) (h2 : Ints w a2 up) (e2 : up.length = n2) (h3 : Ints w a3 key) (e3 : key.length = n3) (hm : n1 ≤ 9223372036854775807) (hr : wtn lo up key = r) :
    Calls Try.prog 19 #[.slice a1 n1 c1, .slice a2 n2 c2, .slice a3 n3 c3] w fun e w' => e = .returned (.bool r) ∧ Below w.heap.size w w' := by
  rw [← hr]; exact refWithin_any a1 a2 a3 n1 n2 n3 c1 c2 c3 lo up key w h1 e1 h2 e2 h3 e3 hm
end Go.Proofs.Ythbjfbkjbggkbaa.dice
