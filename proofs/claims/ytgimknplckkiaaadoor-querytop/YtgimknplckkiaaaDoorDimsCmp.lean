/-
  The contracts of dims.Cmp, of the chapter's Cmp and of the statements' own 'same': keys, place by place.
-/
import Derived.Test.YtgimknplckkiaaaDoorDimsJ
namespace Go.Proofs.YtgimknplckkiaaaDoor.dims
open Go.ChangeShapes Go.WideShapes Go.ChangeAt Go.RowKit Go.Deep
set_option linter.unusedVariables false
set_option maxRecDepth 100000

set_option maxHeartbeats 2000000 in
theorem compareL_lt (a1 a2 : Option Addr) (n1 n2 c1 c2 : Nat) (l1 l2 : List Int) (w : World) (h1 : Ints w a1 l1) (h2 : Ints w a2 l2) (e1 : l1.length = n1) (e2 : l2.length = n2) (q1 : n1 ≤ 9223372036854775807) (q2 : n2 ≤ 9223372036854775807) (m1 : n1 ≤ c1) (m2 : n2 ≤ c2) (hlt12 : n2 < n1) :
    Calls Tryd.prog 72 #[.slice a1 n1 c1, .slice a2 n2 c2] w fun e w' => e = .returned (.int .i64 (cmpL l1 l2)) ∧ w' = w := by
  have H1 : Aside (Ints w a1 l1 ∧ l1.length = n1) := ⟨h1, e1⟩
  have H2 : Aside (Ints w a2 l2 ∧ l2.length = n2) := ⟨h2, e2⟩
  clear h1 h2 e1 e2
  go_enter Tryd.func72, Tryd.ntmps72
  go_wp2_with fail
  go_loopg [16] n2 (fun g1 vi wr => ∃ (k : Nat), vi = .int .i64 k ∧ k ≤ n2 ∧ n2 - k ≤ g1 ∧ wr = w ∧ Aside (∀ i, i < k → nth l1 i = nth l2 i))
  case atStart => exact ⟨0, rfl, Nat.zero_le _, Nat.le_refl _, rfl, fun i hi => by omega⟩
  case round =>
    obtain ⟨k, rfl, hk, hg1, rfl, SK⟩ := hrel
    by_cases hlt : k < n2
    · have hltz : (k : Int) < (n2 : Int) := by omega
      have hl1z : (k : Int) < (n1 : Int) := by omega
      have hl2z : (k : Int) < (n2 : Int) := by omega
      have hk1 : k < l1.length := by rw [H1.out.2]; omega
      have hk2 : k < l2.length := by rw [H2.out.2]; omega
      obtain ⟨b1, o1, ha1, hc1⟩ := H1.out.1.get hk1
      obtain ⟨b2, o2, ha2, hc2⟩ := H2.out.1.get hk2
      subst ha1
      subst ha2
      have r1 := hc1 k hk1
      have r2 := hc2 k hk2
      clear hc1 hc2
      obtain ⟨x, hx⟩ : ∃ x, nth l1 k = x := ⟨_, rfl⟩
      obtain ⟨y, hy⟩ : ∃ y, nth l2 k = y := ⟨_, rfl⟩
      rw [hx] at r1
      rw [hy] at r2
      by_cases hxy : x = y
      · subst hxy
        have hv : cmpI x x = 0 := by unfold cmpI; rw [if_neg (by omega), if_neg (by omega)]
        have S2 : Aside (∀ i, i < k + 1 → nth l1 i = nth l2 i) := fun i hi => by
          by_cases e : i = k
          · subst e; rw [hx, hy]
          · exact SK.out i (by omega)
        have hC := compare_any x x wr
        rw [hv] at hC
        clear hx hy hv
        go_wp2_with (go_at_call 84; refine hC.mono ?_; rintro e w' ⟨rfl, rfl⟩)
        go_roundg (n2 - (k + 1))
        case measure => omega
        case rel => exact ⟨k + 1, by go_num, by omega, by omega, rfl, S2⟩
      · have E : Hid (cmpL l1 l2 = cmpI x y) := by
          show _ = _
          rw [← hx, ← hy]
          exact cmpL_at hk1 hk2 SK.out (by rw [hx, hy]; exact hxy)
        have hC := compare_any x y wr
        obtain ⟨c, hc⟩ : ∃ c, cmpI x y = c := ⟨_, rfl⟩
        have hc0 : (c == 0) = false := by
          have : c ≠ 0 := by rw [← hc]; unfold cmpI; split
                             · omega
                             · split <;> omega
          simpa using this
        have E2 : Hid (cmpL l1 l2 = c) := E.out.trans hc
        rw [hc] at hC
        clear hx hy hc E
        go_wp2_with (go_at_call 84; refine hC.mono ?_; rintro e w' ⟨rfl, rfl⟩)
        go_ret
        exact ⟨ret_int E2.out.symm, rfl⟩
    · have hltz : ¬ (k : Int) < (n2 : Int) := by omega
      have E : Hid (cmpL l1 l2 = cmpI (n1 : Int) (n2 : Int)) := by
        show _ = _
        have a1 := H1.out.2
        have a2 := H2.out.2
        rw [cmpL_end (k := k) (by omega) (by omega) (by omega) SK.out, a1, a2]
      go_wp2_with (go_at_call 84; refine (compare_any _ _ _).mono ?_; rintro e w' ⟨rfl, rfl⟩)
      go_ret
      exact ⟨ret_int E.out.symm, rfl⟩

set_option maxHeartbeats 2000000 in
theorem compareL_ge (a1 a2 : Option Addr) (n1 n2 c1 c2 : Nat) (l1 l2 : List Int) (w : World) (h1 : Ints w a1 l1) (h2 : Ints w a2 l2) (e1 : l1.length = n1) (e2 : l2.length = n2) (q1 : n1 ≤ 9223372036854775807) (q2 : n2 ≤ 9223372036854775807) (m1 : n1 ≤ c1) (m2 : n2 ≤ c2) (hlt12 : ¬ n2 < n1) :
    Calls Tryd.prog 72 #[.slice a1 n1 c1, .slice a2 n2 c2] w fun e w' => e = .returned (.int .i64 (cmpL l1 l2)) ∧ w' = w := by
  have H1 : Aside (Ints w a1 l1 ∧ l1.length = n1) := ⟨h1, e1⟩
  have H2 : Aside (Ints w a2 l2 ∧ l2.length = n2) := ⟨h2, e2⟩
  clear h1 h2 e1 e2
  go_enter Tryd.func72, Tryd.ntmps72
  go_wp2_with fail
  go_loopg [16] n1 (fun g1 vi wr => ∃ (k : Nat), vi = .int .i64 k ∧ k ≤ n1 ∧ n1 - k ≤ g1 ∧ wr = w ∧ Aside (∀ i, i < k → nth l1 i = nth l2 i))
  case atStart => exact ⟨0, rfl, Nat.zero_le _, Nat.le_refl _, rfl, fun i hi => by omega⟩
  case round =>
    obtain ⟨k, rfl, hk, hg1, rfl, SK⟩ := hrel
    by_cases hlt : k < n1
    · have hltz : (k : Int) < (n1 : Int) := by omega
      have hl1z : (k : Int) < (n1 : Int) := by omega
      have hl2z : (k : Int) < (n2 : Int) := by omega
      have hk1 : k < l1.length := by rw [H1.out.2]; omega
      have hk2 : k < l2.length := by rw [H2.out.2]; omega
      obtain ⟨b1, o1, ha1, hc1⟩ := H1.out.1.get hk1
      obtain ⟨b2, o2, ha2, hc2⟩ := H2.out.1.get hk2
      subst ha1
      subst ha2
      have r1 := hc1 k hk1
      have r2 := hc2 k hk2
      clear hc1 hc2
      obtain ⟨x, hx⟩ : ∃ x, nth l1 k = x := ⟨_, rfl⟩
      obtain ⟨y, hy⟩ : ∃ y, nth l2 k = y := ⟨_, rfl⟩
      rw [hx] at r1
      rw [hy] at r2
      by_cases hxy : x = y
      · subst hxy
        have hv : cmpI x x = 0 := by unfold cmpI; rw [if_neg (by omega), if_neg (by omega)]
        have S2 : Aside (∀ i, i < k + 1 → nth l1 i = nth l2 i) := fun i hi => by
          by_cases e : i = k
          · subst e; rw [hx, hy]
          · exact SK.out i (by omega)
        have hC := compare_any x x wr
        rw [hv] at hC
        clear hx hy hv
        go_wp2_with (go_at_call 84; refine hC.mono ?_; rintro e w' ⟨rfl, rfl⟩)
        go_roundg (n1 - (k + 1))
        case measure => omega
        case rel => exact ⟨k + 1, by go_num, by omega, by omega, rfl, S2⟩
      · have E : Hid (cmpL l1 l2 = cmpI x y) := by
          show _ = _
          rw [← hx, ← hy]
          exact cmpL_at hk1 hk2 SK.out (by rw [hx, hy]; exact hxy)
        have hC := compare_any x y wr
        obtain ⟨c, hc⟩ : ∃ c, cmpI x y = c := ⟨_, rfl⟩
        have hc0 : (c == 0) = false := by
          have : c ≠ 0 := by rw [← hc]; unfold cmpI; split
                             · omega
                             · split <;> omega
          simpa using this
        have E2 : Hid (cmpL l1 l2 = c) := E.out.trans hc
        rw [hc] at hC
        clear hx hy hc E
        go_wp2_with (go_at_call 84; refine hC.mono ?_; rintro e w' ⟨rfl, rfl⟩)
        go_ret
        exact ⟨ret_int E2.out.symm, rfl⟩
    · have hltz : ¬ (k : Int) < (n1 : Int) := by omega
      have E : Hid (cmpL l1 l2 = cmpI (n1 : Int) (n2 : Int)) := by
        show _ = _
        have a1 := H1.out.2
        have a2 := H2.out.2
        rw [cmpL_end (k := k) (by omega) (by omega) (by omega) SK.out, a1, a2]
      go_wp2_with (go_at_call 84; refine (compare_any _ _ _).mono ?_; rintro e w' ⟨rfl, rfl⟩)
      go_ret
      exact ⟨ret_int E.out.symm, rfl⟩

theorem compareL_any (a1 a2 : Option Addr) (n1 n2 c1 c2 : Nat) (l1 l2 : List Int) (w : World) (h1 : Ints w a1 l1) (h2 : Ints w a2 l2) (e1 : l1.length = n1) (e2 : l2.length = n2) (q1 : n1 ≤ 9223372036854775807) (q2 : n2 ≤ 9223372036854775807) (m1 : n1 ≤ c1) (m2 : n2 ≤ c2) :
    Calls Tryd.prog 72 #[.slice a1 n1 c1, .slice a2 n2 c2] w fun e w' => e = .returned (.int .i64 (cmpL l1 l2)) ∧ w' = w := by
  by_cases h : n2 < n1
  · exact compareL_lt a1 a2 n1 n2 c1 c2 l1 l2 w h1 h2 e1 e2 q1 q2 m1 m2 h
  · exact compareL_ge a1 a2 n1 n2 c1 c2 l1 l2 w h1 h2 e1 e2 q1 q2 m1 m2 h

theorem cmp_any (a1 a2 : Option Addr) (n1 n2 c1 c2 : Nat) (l1 l2 : List Int) (w : World) (h1 : Ints w a1 l1) (h2 : Ints w a2 l2) (e1 : l1.length = n1) (e2 : l2.length = n2) (q1 : n1 ≤ 9223372036854775807) (q2 : n2 ≤ 9223372036854775807) (m1 : n1 ≤ c1) (m2 : n2 ≤ c2) :
    Calls Tryd.prog 45 #[.slice a1 n1 c1, .slice a2 n2 c2] w fun e w' => e = .returned (.int .i64 (cmpL l1 l2)) ∧ w' = w := by
  have hC := compareL_any a1 a2 n1 n2 c1 c2 l1 l2 w h1 h2 e1 e2 q1 q2 m1 m2
  clear h1 h2 e1 e2
  go_enter Tryd.func45, Tryd.ntmps45
  go_wp2_with (go_at_call 72; refine hC.mono ?_; rintro e w' ⟨rfl, rfl⟩)
  go_ret
  exact ⟨rfl, rfl⟩

set_option maxHeartbeats 2000000 in
theorem refCmp_any (a1 a2 : Option Addr) (n1 n2 c1 c2 : Nat) (l1 l2 : List Int) (w : World) (h1 : Ints w a1 l1) (h2 : Ints w a2 l2) (e1 : l1.length = n1) (e2 : l2.length = n2) (q1 : n1 ≤ 9223372036854775807) (q2 : n2 ≤ 9223372036854775807) :
    Calls Tryd.prog 31 #[.slice a1 n1 c1, .slice a2 n2 c2] w fun e w' => e = .returned (.int .i64 (cmpL l1 l2)) ∧ Below w.heap.size w w' := by
  have H1 : Aside (Ints w a1 l1 ∧ l1.length = n1) := ⟨h1, e1⟩
  have H2 : Aside (Ints w a2 l2 ∧ l2.length = n2) := ⟨h2, e2⟩
  clear h1 h2 e1 e2
  go_enter Tryd.func31, Tryd.ntmps31
  go_wp2_with fail
  go_loopg [5] n1 (fun g1 vi wr => ∃ (k : Nat), vi = .int .i64 k ∧ k ≤ n1 ∧ k ≤ n2 ∧ n1 - k ≤ g1 ∧ Aside (Below w.heap.size w wr ∧ ∀ i, i < k → nth l1 i = nth l2 i))
  case atStart => exact ⟨0, rfl, Nat.zero_le _, Nat.zero_le _, Nat.le_refl _, Below.refl _ _, fun i hi => by omega⟩
  case round =>
    obtain ⟨k, rfl, hk, hk2, hg1, SK⟩ := hrel
    by_cases hlt1 : k < n1
    · by_cases hlt2 : k < n2
      · have hl1z : (k : Int) < (n1 : Int) := by omega
        have hl2z : (k : Int) < (n2 : Int) := by omega
        have hk1 : k < l1.length := by rw [H1.out.2]; omega
        have hk2 : k < l2.length := by rw [H2.out.2]; omega
        obtain ⟨b1, o1, ha1, hc1⟩ := H1.out.1.get hk1
        obtain ⟨b2, o2, ha2, hc2⟩ := H2.out.1.get hk2
        subst ha1
        subst ha2
        have r1 := hc1 k hk1
        have r2 := hc2 k hk2
        clear hc1 hc2
        rw [← SK.out.1.cell (p := ⟨b1, o1 + k, none⟩) (cell_lt r1)] at r1
        rw [← SK.out.1.cell (p := ⟨b2, o2 + k, none⟩) (cell_lt r2)] at r2
        obtain ⟨x, hx⟩ : ∃ x, nth l1 k = x := ⟨_, rfl⟩
        obtain ⟨y, hy⟩ : ∃ y, nth l2 k = y := ⟨_, rfl⟩
        rw [hx] at r1
        rw [hy] at r2
        have HX : Hid (nth l1 k = x ∧ nth l2 k = y) := ⟨hx, hy⟩
        clear hx hy
        by_cases g1 : x < y
        · have E : Hid (cmpL l1 l2 = -1) := by
            show _ = _
            rw [cmpL_at hk1 hk2 SK.out.2 (by rw [HX.out.1, HX.out.2]; omega), HX.out.1, HX.out.2]
            unfold cmpI; rw [if_pos (by omega)]
          have d1 : decide (x < y) = true := decide_eq_true g1
          go_wp2_with fail
          go_quiet (fail)
          go_wp2
          go_ret
          exact ⟨ret_int E.out.symm, below_drewN SK.out.1 nq⟩
        have d1 : decide (x < y) = false := decide_eq_false g1
        by_cases g2 : y < x
        · have E : Hid (cmpL l1 l2 = 1) := by
            show _ = _
            rw [cmpL_at hk1 hk2 SK.out.2 (by rw [HX.out.1, HX.out.2]; omega), HX.out.1, HX.out.2]
            unfold cmpI; rw [if_neg (by omega), if_pos (by omega)]
          have d2 : decide (y < x) = true := decide_eq_true g2
          go_wp2_with fail
          go_quiet (fail)
          have SB := below_drewN SK.out.1 nq
          have r1' : (wr.drewN nq).cell? ⟨b1, o1 + k, none⟩ = some (.int .i64 x) := r1
          have r2' : (wr.drewN nq).cell? ⟨b2, o2 + k, none⟩ = some (.int .i64 y) := r2
          generalize wr.drewN nq = W2 at SB r1' r2' ⊢
          have SB2 : Aside _ := SB
          clear SB
          go_wp2_with fail
          go_quiet (fail)
          go_wp2
          go_ret
          exact ⟨ret_int E.out.symm, below_drewN SB2.out nq⟩
        · have d2 : decide (y < x) = false := decide_eq_false g2
          have S2 : Aside (∀ i, i < k + 1 → nth l1 i = nth l2 i) := fun i hi => by
            by_cases e : i = k
            · subst e; rw [HX.out.1, HX.out.2]; omega
            · exact SK.out.2 i (by omega)
          go_wp2_with fail
          go_quiet (fail)
          have SB := below_drewN SK.out.1 nq
          have r1' : (wr.drewN nq).cell? ⟨b1, o1 + k, none⟩ = some (.int .i64 x) := r1
          have r2' : (wr.drewN nq).cell? ⟨b2, o2 + k, none⟩ = some (.int .i64 y) := r2
          generalize wr.drewN nq = W2 at SB r1' r2' ⊢
          have SB2 : Aside _ := SB
          clear SB
          go_wp2_with fail
          go_quiet (fail)
          have SB3 : Aside _ := below_drewN SB2.out nq
          go_wp2
          go_roundg (n1 - (k + 1))
          case measure => omega
          case rel => exact ⟨k + 1, by go_num, by omega, by omega, by omega, SB3.out, S2.out⟩
      · have hl1z : (k : Int) < (n1 : Int) := by omega
        have hl2z : ¬ (k : Int) < (n2 : Int) := by omega
        have g1 : ¬ (n1 : Int) < (n2 : Int) := by omega
        have g2 : (n2 : Int) < (n1 : Int) := by omega
        have E : Hid (cmpL l1 l2 = 1) := by
          show _ = _
          have a1 := H1.out.2
          have a2 := H2.out.2
          rw [cmpL_end (k := k) (by omega) (by omega) (by omega) SK.out.2, a1, a2]
          unfold cmpI; rw [if_neg (by omega), if_pos (by omega)]
        go_wp2
        go_ret
        exact ⟨ret_int E.out.symm, SK.out.1⟩
    · have hl1z : ¬ (k : Int) < (n1 : Int) := by omega
      have E : Hid (cmpL l1 l2 = cmpI (n1 : Int) (n2 : Int)) := by
        show _ = _
        have a1 := H1.out.2
        have a2 := H2.out.2
        rw [cmpL_end (k := k) (by omega) (by omega) (by omega) SK.out.2, a1, a2]
      by_cases g1 : (n1 : Int) < (n2 : Int)
      · go_wp2
        go_ret
        exact ⟨ret_int (by rw [E.out]; unfold cmpI; rw [if_pos (by omega)]), SK.out.1⟩
      · by_cases g2 : (n2 : Int) < (n1 : Int)
        · go_wp2
          go_ret
          exact ⟨ret_int (by rw [E.out]; unfold cmpI; rw [if_neg (by omega), if_pos (by omega)]), SK.out.1⟩
        · go_wp2
          go_ret
          exact ⟨ret_int (by rw [E.out]; unfold cmpI; rw [if_neg (by omega), if_neg (by omega)]), SK.out.1⟩

def sameB (l1 l2 : List Int) : Bool := decide (l1 = l2)

end Go.Proofs.YtgimknplckkiaaaDoor.dims
