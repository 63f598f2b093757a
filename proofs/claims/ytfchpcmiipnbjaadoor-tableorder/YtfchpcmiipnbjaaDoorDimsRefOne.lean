/-
  The contract of the chapter's own test of one dimension.
-/
import Derived.Test.YtfchpcmiipnbjaaDoorDimsJ
namespace Go.Proofs.YtfchpcmiipnbjaaDoor.dims
open Go.ChangeShapes Go.WideShapes Go.ChangeAt Go.RowKit Go.Deep
set_option linter.unusedVariables false
set_option maxRecDepth 100000

theorem ref_not_step {sz : Int} {l : List Int} {k : Nat} (hk : k < l.length) (h : ¬ StepOk l k) : sndB sz l = false := sndB_false fun s => h (s.2.2.2 k hk)

set_option maxHeartbeats 4000000 in
theorem one_any (sz : Int) (a : Option Addr) (cap : Nat) (l : List Int) (w : World) (hI : Ints w a l) (hm : l.length ≤ 9223372036854775807) :
    Calls Tryd.prog 59 #[.agg #[.int .i64 sz, .slice a l.length cap]] w fun e w' => e = .returned (.bool (sndB sz l)) ∧ Below w.heap.size w w' := by
  obtain ⟨n, hnn⟩ : ∃ n, n = l.length := ⟨_, rfl⟩
  rw [← hnn] at hm ⊢
  have HN : Hid (n = l.length) := hnn
  have HI : Aside (Ints w a l) := hI
  clear hnn hI
  go_enter Tryd.func59, Tryd.ntmps59
  go_wp2_with fail
  go_loopg [3] n (fun g1 vi wr => ∃ (k : Nat), vi = .int .i64 k ∧ k ≤ n ∧ n - k ≤ g1 ∧ wr.cell? ⟨w.heap.size, 0, none⟩ = some (.int .i64 sz) ∧ wr.cell? ⟨w.heap.size, 1, none⟩ = some (.slice a n cap) ∧ Aside (Below w.heap.size w wr ∧ ∀ i, i < k → StepOk l i))
  case atStart =>
    refine ⟨0, rfl, Nat.zero_le _, Nat.le_refl _, by simp [go_sem], by simp [go_sem], ?_, fun i hi => by omega⟩
    (repeat (first | with_reducible exact Below.refl _ _ | (with_reducible refine Below.drew ?_) | (with_reducible refine Below.alloc ?_ (by first | omega | (simp; done) | (simp; omega)) _) | (with_reducible refine Below.setCell ?_ (by first | exact Nat.le_refl _ | omega | (simp; done) | (simp; omega)) _)))
  case round =>
    obtain ⟨k, rfl, hk, hg1, c0, c1, SK⟩ := hrel
    by_cases hlt : k < n
    · have hltz : (k : Int) < (n : Int) := by omega
      have hkl : k < l.length := by rw [← HN.out]; exact hlt
      obtain ⟨b, off, ha, hc⟩ := HI.out.get hkl
      subst ha
      have hc' : ∀ i, i < l.length → wr.cell? ⟨b, off + i, none⟩ = some (.int .i64 (nth l i)) := fun i hi => (SK.out.1.cell (p := ⟨b, off + i, none⟩) (cell_lt (hc i hi))).trans (hc i hi)
      clear hc
      have hp : 1 ≤ prev l k := prev_pos SK.out.2
      obtain ⟨x, hx⟩ : ∃ x, nth l k = x := ⟨_, rfl⟩
      have hck := hc' k hkl
      rw [hx] at hck
      by_cases g1 : x < 2
      · have E : Hid (sndB sz l = false) := ref_not_step hkl fun s => by have := s.1; rw [hx] at this; omega
        have d1 : decide (x < 2) = true := decide_eq_true g1
        have HX : Hid (nth l k = x) := hx
        have HC : Aside _ := hc'
        clear hx hc'
        go_wp2_with fail
        go_quiet (fail)
        go_wp2
        go_ret
        exact ⟨ret_bool E.out.symm, (below_drewN SK.out.1 nq)⟩
      have d1 : decide (x < 2) = false := decide_eq_false g1
      by_cases g2 : 10000 < x
      · have E : Hid (sndB sz l = false) := ref_not_step hkl fun s => by have := s.2.1; rw [hx] at this; omega
        have d2 : decide (10000 < x) = true := decide_eq_true g2
        have HX : Hid (nth l k = x) := hx
        have HC : Aside _ := hc'
        clear hx hc'
        go_wp2_with fail
        go_quiet (fail)
        go_wp2
        go_ret
        exact ⟨ret_bool E.out.symm, (below_drewN SK.out.1 nq)⟩
      have d2 : decide (10000 < x) = false := decide_eq_false g2
      rcases Nat.eq_zero_or_pos k with hk0 | hk0
      · subst hk0
        have d3 : decide ((0 : Int) < 0) = false := by decide
        have S2 : Aside (∀ i, i < 0 + 1 → StepOk l i) := fun i hi => by
          have e : i = 0 := by omega
          subst e; refine ⟨?_, ?_, ?_⟩ <;> (try rw [hx]) <;> (try simp only [prev]) <;> omega
        have HC : Aside _ := hc'
        have hck0 : wr.cell? ⟨b, off, none⟩ = some (.int .i64 x) := by simpa using hck
        clear hx hc' hp
        go_wp2_with fail
        go_quiet (fail)
        have SB : Aside (Below w.heap.size w (wr.drewN nq)) := below_drewN SK.out.1 nq
        go_wp2
        go_roundg (n - 1)
        case measure => omega
        case rel => exact ⟨1, by go_num, by omega, by omega, c0, c1, SB.out, S2.out⟩
      · obtain ⟨j, hj⟩ : ∃ j, k = j + 1 := ⟨k - 1, by omega⟩
        subst hj
        have hcj := hc' j (by omega)
        obtain ⟨p, hpp⟩ : ∃ p, nth l j = p := ⟨_, rfl⟩
        have hp' : prev l (j + 1) = p := hpp
        rw [hpp] at hcj
        rw [hp'] at hp
        have HX : Hid (nth l (j + 1) = x ∧ prev l (j + 1) = p) := ⟨hx, hp'⟩
        have HC : Aside _ := hc'
        clear hx hpp hp' hc'
        have d3 : decide ((0 : Int) < ((j + 1 : Nat) : Int)) = true := decide_eq_true (by omega)
        have e1 : ((j + 1 : Nat) : Int) - 1 = (j : Int) := by omega
        have hjz : (j : Int) < (n : Int) := by omega
        by_cases g3 : x ≤ p
        · have E : Hid (sndB sz l = false) := ref_not_step hkl fun s => by have := s.1; rw [HX.out.1, HX.out.2] at this; omega
          have d4 : decide (x ≤ p) = true := decide_eq_true g3
          go_wp2_with fail
          go_quiet (fail)
          go_wp2
          go_ret
          exact ⟨ret_bool E.out.symm, (below_drewN SK.out.1 nq)⟩
        have d4 : decide (x ≤ p) = false := decide_eq_false g3
        by_cases g4 : x % p = 0
        · have S2 : Aside (∀ i, i < j + 1 + 1 → StepOk l i) := fun i hi => by
            by_cases e : i = j + 1
            · subst e; refine ⟨?_, ?_, ?_⟩ <;> (try rw [HX.out.1]) <;> (try rw [HX.out.2]) <;> omega
            · exact SK.out.2 i (by omega)
          have d5 : (x % p == 0) = true := by simpa using g4
          go_wp2_with fail
          go_quiet (fail)
          have SB : Aside (Below w.heap.size w (wr.drewN nq)) := below_drewN SK.out.1 nq
          go_wp2
          go_roundg (n - (j + 1 + 1))
          case measure => omega
          case rel => exact ⟨j + 1 + 1, by go_num, by omega, by omega, c0, c1, SB.out, S2.out⟩
        · have E : Hid (sndB sz l = false) := ref_not_step hkl fun s => g4 (by have := s.2.2; rw [HX.out.1, HX.out.2] at this; exact this)
          have d5 : (x % p == 0) = false := by simpa using g4
          go_wp2_with fail
          go_quiet (fail)
          go_wp2
          go_ret
          exact ⟨ret_bool E.out.symm, (below_drewN SK.out.1 nq)⟩
    · have hltz : ¬ (k : Int) < (n : Int) := by omega
      have hS : (∀ i, i < l.length → StepOk l i) := fun i hi => SK.out.2 i (by have := HN.out; omega)
      have HS : Hid (∀ i, i < l.length → StepOk l i) := hS
      have hsz := SK.out.1.size
      clear hS
      by_cases h1 : 1 ≤ sz
      · by_cases h2 : sz ≤ 10000
        · by_cases h3 : (n : Int) ≤ 4
          · have E : Hid (sndB sz l = true) := sndB_true ⟨h1, h2, by have := HN.out; omega, HS.out⟩
            go_wp2
            go_ret
            exact ⟨ret_bool E.out.symm, SK.out.1⟩
          · have E : Hid (sndB sz l = false) := sndB_false fun s => by have := s.2.2.1; have := HN.out; omega
            go_wp2
            go_ret
            exact ⟨ret_bool E.out.symm, SK.out.1⟩
        · have E : Hid (sndB sz l = false) := sndB_false fun s => by have := s.2.1; omega
          go_wp2
          go_ret
          exact ⟨ret_bool E.out.symm, SK.out.1⟩
      · have E : Hid (sndB sz l = false) := sndB_false fun s => by have := s.1; omega
        go_wp2
        go_ret
        exact ⟨ret_bool E.out.symm, SK.out.1⟩
end Go.Proofs.YtfchpcmiipnbjaaDoor.dims
