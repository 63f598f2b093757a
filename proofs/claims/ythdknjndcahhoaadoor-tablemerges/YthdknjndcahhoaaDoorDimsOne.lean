/-
  The contract of dims.sound: may a dimension be?
-/
import Derived.Test.YthdknjndcahhoaaDoorDimsLeaf
namespace Go.Proofs.YthdknjndcahhoaaDoor.dims
open Go.ChangeShapes Go.WideShapes Go.ChangeAt Go.RowKit Go.Deep
set_option linter.unusedVariables false
set_option maxRecDepth 100000

theorem not_step_le {sz : Int} {l : List Int} {k : Nat} (hk : k < l.length) (h : ¬ StepOk l k) : sndB sz l = false := sndB_false fun s => h (s.2.2.2 k hk)

set_option maxHeartbeats 2000000 in
theorem sound_any (sz : Int) (a : Option Addr) (cap : Nat) (l : List Int) (w : World) (hI : Ints w a l) :
    Calls Tryd.prog 56 #[.agg #[.int .i64 sz, .slice a l.length cap]] w fun e w' => e = .returned (.bool (sndB sz l)) ∧ Below w.heap.size w w' := by
  obtain ⟨n, hnn⟩ : ∃ n, n = l.length := ⟨_, rfl⟩
  rw [← hnn]
  have HN : Hid (n = l.length) := hnn
  have HI : Aside (Ints w a l) := hI
  clear hnn hI
  by_cases h1 : sz < 1
  · have E : Hid (sndB sz l = false) := sndB_false fun s => by have := s.1; omega
    go_enter Tryd.func56, Tryd.ntmps56
    go_wp2
    go_ret
    refine ⟨ret_bool E.out.symm, ?_⟩
    (repeat (first | with_reducible exact Below.refl _ _ | (with_reducible refine Below.drew ?_) | (with_reducible refine Below.alloc ?_ (by first | omega | (simp; done) | (simp; omega)) _) | (with_reducible refine Below.setCell ?_ (by first | exact Nat.le_refl _ | omega | (simp; done) | (simp; omega)) _)))
  by_cases h2 : 10000 < sz
  · have E : Hid (sndB sz l = false) := sndB_false fun s => by have := s.2.1; omega
    go_enter Tryd.func56, Tryd.ntmps56
    go_wp2
    go_ret
    refine ⟨ret_bool E.out.symm, ?_⟩
    (repeat (first | with_reducible exact Below.refl _ _ | (with_reducible refine Below.drew ?_) | (with_reducible refine Below.alloc ?_ (by first | omega | (simp; done) | (simp; omega)) _) | (with_reducible refine Below.setCell ?_ (by first | exact Nat.le_refl _ | omega | (simp; done) | (simp; omega)) _)))
  by_cases h3 : (4 : Int) < (n : Int)
  · have E : Hid (sndB sz l = false) := sndB_false fun s => by have := s.2.2.1; have := HN.out; omega
    go_enter Tryd.func56, Tryd.ntmps56
    go_wp2
    go_ret
    refine ⟨ret_bool E.out.symm, ?_⟩
    (repeat (first | with_reducible exact Below.refl _ _ | (with_reducible refine Below.drew ?_) | (with_reducible refine Below.alloc ?_ (by first | omega | (simp; done) | (simp; omega)) _) | (with_reducible refine Below.setCell ?_ (by first | exact Nat.le_refl _ | omega | (simp; done) | (simp; omega)) _)))
  go_enter Tryd.func56, Tryd.ntmps56
  go_wp2_with fail
  go_loopg [3, 23] n (fun g1 va vi wr => ∃ (k : Nat), va = .int .i64 (prev l k) ∧ vi = .int .i64 k ∧ k ≤ n ∧ n - k ≤ g1 ∧ wr = w.alloc (.cells #[.int .i64 sz, .slice a n cap] 40) ∧ Aside (∀ i, i < k → StepOk l i))
  case atStart => exact ⟨0, rfl, rfl, Nat.zero_le _, Nat.le_refl _, rfl, fun i hi => by omega⟩
  case round =>
    obtain ⟨k, rfl, rfl, hk, hg1, rfl, SK⟩ := hrel
    by_cases hlt : k < n
    · have hltz : (k : Int) < (n : Int) := by omega
      have hkl : k < l.length := by rw [← HN.out]; exact hlt
      obtain ⟨b, off, ha, hc⟩ := HI.out.get hkl
      subst ha
      have hck := hc k hkl
      have hb : b < w.heap.size := cell_lt hck
      clear hc
      have hp : 1 ≤ prev l k := prev_pos SK.out
      obtain ⟨x, hx⟩ : ∃ x, nth l k = x := ⟨_, rfl⟩
      obtain ⟨p, hpp⟩ : ∃ x, prev l k = x := ⟨_, rfl⟩
      rw [hx] at hck
      rw [hpp] at hp ⊢
      have HX : Hid (nth l k = x ∧ prev l k = p) := ⟨hx, hpp⟩
      clear hx hpp
      by_cases g1 : x ≤ p
      · have E : Hid (sndB sz l = false) := not_step_le hkl fun s => by have := s.1; rw [HX.out.1, HX.out.2] at this; omega
        go_wp2
        go_ret
        refine ⟨ret_bool E.out.symm, ?_⟩
        (repeat (first | with_reducible exact Below.refl _ _ | (with_reducible refine Below.drew ?_) | (with_reducible refine Below.alloc ?_ (by first | omega | (simp; done) | (simp; omega)) _) | (with_reducible refine Below.setCell ?_ (by first | exact Nat.le_refl _ | omega | (simp; done) | (simp; omega)) _)))
      by_cases g2 : 10000 < x
      · have E : Hid (sndB sz l = false) := not_step_le hkl fun s => by have := s.2.1; rw [HX.out.1] at this; omega
        go_wp2
        go_ret
        refine ⟨ret_bool E.out.symm, ?_⟩
        (repeat (first | with_reducible exact Below.refl _ _ | (with_reducible refine Below.drew ?_) | (with_reducible refine Below.alloc ?_ (by first | omega | (simp; done) | (simp; omega)) _) | (with_reducible refine Below.setCell ?_ (by first | exact Nat.le_refl _ | omega | (simp; done) | (simp; omega)) _)))
      by_cases g3 : x % p = 0
      · have S2 : Aside (∀ i, i < k + 1 → StepOk l i) := fun i hi => by
          by_cases e : i = k
          · subst e; refine ⟨?_, ?_, ?_⟩ <;> (try rw [HX.out.1]) <;> (try rw [HX.out.2]) <;> omega
          · exact SK.out i (by omega)
        have HP : Hid (prev l (k + 1) = x) := HX.out.1
        go_wp2
        go_roundg (n - (k + 1))
        case measure => omega
        case rel => exact ⟨k + 1, by rw [HP.out], by go_num, by omega, by omega, rfl, S2⟩
      · have E : Hid (sndB sz l = false) := not_step_le hkl fun s => g3 (by have := s.2.2; rw [HX.out.1, HX.out.2] at this; exact this)
        go_wp2
        go_ret
        refine ⟨ret_bool E.out.symm, ?_⟩
        (repeat (first | with_reducible exact Below.refl _ _ | (with_reducible refine Below.drew ?_) | (with_reducible refine Below.alloc ?_ (by first | omega | (simp; done) | (simp; omega)) _) | (with_reducible refine Below.setCell ?_ (by first | exact Nat.le_refl _ | omega | (simp; done) | (simp; omega)) _)))
    · have hltz : ¬ (k : Int) < (n : Int) := by omega
      have E : Hid (sndB sz l = true) := sndB_true ⟨by omega, by omega, by have := HN.out; omega, fun i hi => SK.out i (by have := HN.out; omega)⟩
      go_wp2
      go_ret
      refine ⟨ret_bool E.out.symm, ?_⟩
      (repeat (first | with_reducible exact Below.refl _ _ | (with_reducible refine Below.drew ?_) | (with_reducible refine Below.alloc ?_ (by first | omega | (simp; done) | (simp; omega)) _) | (with_reducible refine Below.setCell ?_ (by first | exact Nat.le_refl _ | omega | (simp; done) | (simp; omega)) _)))
end Go.Proofs.YthdknjndcahhoaaDoor.dims
