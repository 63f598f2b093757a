/-
  The contract of the chapter's own test of one dimension.
  The chapter's example holds: the contract of the statements' own 'known'.
  The contracts of the chapter's Sound and Up, and of the statements' own 'heavy'.
  The contract of the chapter's At, where it may be asked.
-/
import Derived.Test.YtgimknplckkiaaaDoorDimsJ
import Derived.Test.YtgimknplckkiaaaDoorDimsUp
import Derived.Test.YtgimknplckkiaaaDoorDimsCmp
import Derived.Test.YtgimknplckkiaaaDoorDimsAtF
namespace Go.Proofs.YtgimknplckkiaaaDoor.dims
open Go.ChangeShapes Go.WideShapes Go.ChangeAt Go.RowKit Go.Deep
set_option linter.unusedVariables false
set_option maxRecDepth 100000

theorem ref_not_step {sz : Int} {l : List Int} {k : Nat} (hk : k < l.length) (h : ¬ StepOk l k) : sndB sz l = false := sndB_false fun s => h (s.2.2.2 k hk)

set_option maxHeartbeats 4000000 in
theorem one_any (sz : Int) (a : Option Addr) (cap : Nat) (l : List Int) (w : World) (hI : Ints w a l) (hm : l.length ≤ 9223372036854775807) :
    Calls Tryd.prog 64 #[.agg #[.int .i64 sz, .slice a l.length cap]] w fun e w' => e = .returned (.bool (sndB sz l)) ∧ Below w.heap.size w w' := by
  obtain ⟨n, hnn⟩ : ∃ n, n = l.length := ⟨_, rfl⟩
  rw [← hnn] at hm ⊢
  have HN : Hid (n = l.length) := hnn
  have HI : Aside (Ints w a l) := hI
  clear hnn hI
  go_enter Tryd.func64, Tryd.ntmps64
  go_wp2_with fail
  go_loopg [3] n (fun g1 vi wr => ∃ (k : Nat), vi = .int .i64 k ∧ k ≤ n ∧ n - k ≤ g1 ∧ wr.cell? ⟨w.heap.size, 0, none⟩ = some (.int .i64 sz) ∧ wr.cell? ⟨w.heap.size, 1, none⟩ = some (.slice a n cap) ∧ Aside (Below w.heap.size w wr ∧ ∀ i, i < k → StepOk l i))
  case atStart =>
    refine ⟨0, rfl, Nat.zero_le _, Nat.le_refl _, by simp [go_sem], by simp [go_sem], ?_, fun i hi => by omega⟩
    (repeat (first | with_reducible exact Below.refl _ _ | (with_reducible refine Below.drew ?_) | (with_reducible refine Below.alloc ?_ (by first | omega | (simp; done) | (simp; omega)) _) | (with_reducible refine Below.setCell ?_ (by first | exact Nat.le_refl _ | omega | (simp; done) | (simp; omega)) _)))
  case round =>
    obtain ⟨k, rfl, hk, hg1, c0, c1, SK⟩ := hrel
    by_cases hlt : k < n
    · have hltz : (k : Int) < (n : Int) := by omega
      have hkl : k < l.length := by rw [← HN.out]; exact hlt
      obtain ⟨b, off, ha, hc⟩ := HI.out.get hkl
      subst ha
      have hc' : ∀ i, i < l.length → wr.cell? ⟨b, off + i, none⟩ = some (.int .i64 (nth l i)) := fun i hi => (SK.out.1.cell (p := ⟨b, off + i, none⟩) (cell_lt (hc i hi))).trans (hc i hi)
      clear hc
      have hp : 1 ≤ prev l k := prev_pos SK.out.2
      obtain ⟨x, hx⟩ : ∃ x, nth l k = x := ⟨_, rfl⟩
      have hck := hc' k hkl
      rw [hx] at hck
      by_cases g1 : x < 2
      · have E : Hid (sndB sz l = false) := ref_not_step hkl fun s => by have := s.1; rw [hx] at this; omega
        have d1 : decide (x < 2) = true := decide_eq_true g1
        have HX : Hid (nth l k = x) := hx
        have HC : Aside _ := hc'
        clear hx hc'
        go_wp2_with fail
        go_quiet (fail)
        go_wp2
        go_ret
        exact ⟨ret_bool E.out.symm, (below_drewN SK.out.1 nq)⟩
      have d1 : decide (x < 2) = false := decide_eq_false g1
      by_cases g2 : 10000 < x
      · have E : Hid (sndB sz l = false) := ref_not_step hkl fun s => by have := s.2.1; rw [hx] at this; omega
        have d2 : decide (10000 < x) = true := decide_eq_true g2
        have HX : Hid (nth l k = x) := hx
        have HC : Aside _ := hc'
        clear hx hc'
        go_wp2_with fail
        go_quiet (fail)
        go_wp2
        go_ret
        exact ⟨ret_bool E.out.symm, (below_drewN SK.out.1 nq)⟩
      have d2 : decide (10000 < x) = false := decide_eq_false g2
      rcases Nat.eq_zero_or_pos k with hk0 | hk0
      · subst hk0
        have d3 : decide ((0 : Int) < 0) = false := by decide
        have S2 : Aside (∀ i, i < 0 + 1 → StepOk l i) := fun i hi => by
          have e : i = 0 := by omega
          subst e; refine ⟨?_, ?_, ?_⟩ <;> (try rw [hx]) <;> (try simp only [prev]) <;> omega
        have HC : Aside _ := hc'
        have hck0 : wr.cell? ⟨b, off, none⟩ = some (.int .i64 x) := by simpa using hck
        clear hx hc' hp
        go_wp2_with fail
        go_quiet (fail)
        have SB : Aside (Below w.heap.size w (wr.drewN nq)) := below_drewN SK.out.1 nq
        go_wp2
        go_roundg (n - 1)
        case measure => omega
        case rel => exact ⟨1, by go_num, by omega, by omega, c0, c1, SB.out, S2.out⟩
      · obtain ⟨j, hj⟩ : ∃ j, k = j + 1 := ⟨k - 1, by omega⟩
        subst hj
        have hcj := hc' j (by omega)
        obtain ⟨p, hpp⟩ : ∃ p, nth l j = p := ⟨_, rfl⟩
        have hp' : prev l (j + 1) = p := hpp
        rw [hpp] at hcj
        rw [hp'] at hp
        have HX : Hid (nth l (j + 1) = x ∧ prev l (j + 1) = p) := ⟨hx, hp'⟩
        have HC : Aside _ := hc'
        clear hx hpp hp' hc'
        have d3 : decide ((0 : Int) < ((j + 1 : Nat) : Int)) = true := decide_eq_true (by omega)
        have e1 : ((j + 1 : Nat) : Int) - 1 = (j : Int) := by omega
        have hjz : (j : Int) < (n : Int) := by omega
        by_cases g3 : x ≤ p
        · have E : Hid (sndB sz l = false) := ref_not_step hkl fun s => by have := s.1; rw [HX.out.1, HX.out.2] at this; omega
          have d4 : decide (x ≤ p) = true := decide_eq_true g3
          go_wp2_with fail
          go_quiet (fail)
          go_wp2
          go_ret
          exact ⟨ret_bool E.out.symm, (below_drewN SK.out.1 nq)⟩
        have d4 : decide (x ≤ p) = false := decide_eq_false g3
        by_cases g4 : x % p = 0
        · have S2 : Aside (∀ i, i < j + 1 + 1 → StepOk l i) := fun i hi => by
            by_cases e : i = j + 1
            · subst e; refine ⟨?_, ?_, ?_⟩ <;> (try rw [HX.out.1]) <;> (try rw [HX.out.2]) <;> omega
            · exact SK.out.2 i (by omega)
          have d5 : (x % p == 0) = true := by simpa using g4
          go_wp2_with fail
          go_quiet (fail)
          have SB : Aside (Below w.heap.size w (wr.drewN nq)) := below_drewN SK.out.1 nq
          go_wp2
          go_roundg (n - (j + 1 + 1))
          case measure => omega
          case rel => exact ⟨j + 1 + 1, by go_num, by omega, by omega, c0, c1, SB.out, S2.out⟩
        · have E : Hid (sndB sz l = false) := ref_not_step hkl fun s => g4 (by have := s.2.2; rw [HX.out.1, HX.out.2] at this; exact this)
          have d5 : (x % p == 0) = false := by simpa using g4
          go_wp2_with fail
          go_quiet (fail)
          go_wp2
          go_ret
          exact ⟨ret_bool E.out.symm, (below_drewN SK.out.1 nq)⟩
    · have hltz : ¬ (k : Int) < (n : Int) := by omega
      have hS : (∀ i, i < l.length → StepOk l i) := fun i hi => SK.out.2 i (by have := HN.out; omega)
      have HS : Hid (∀ i, i < l.length → StepOk l i) := hS
      have hsz := SK.out.1.size
      clear hS
      by_cases h1 : 1 ≤ sz
      · by_cases h2 : sz ≤ 10000
        · by_cases h3 : (n : Int) ≤ 4
          · have E : Hid (sndB sz l = true) := sndB_true ⟨h1, h2, by have := HN.out; omega, HS.out⟩
            go_wp2
            go_ret
            exact ⟨ret_bool E.out.symm, SK.out.1⟩
          · have E : Hid (sndB sz l = false) := sndB_false fun s => by have := s.2.2.1; have := HN.out; omega
            go_wp2
            go_ret
            exact ⟨ret_bool E.out.symm, SK.out.1⟩
        · have E : Hid (sndB sz l = false) := sndB_false fun s => by have := s.2.1; omega
          go_wp2
          go_ret
          exact ⟨ret_bool E.out.symm, SK.out.1⟩
      · have E : Hid (sndB sz l = false) := sndB_false fun s => by have := s.1; omega
        go_wp2
        go_ret
        exact ⟨ret_bool E.out.symm, SK.out.1⟩
end Go.Proofs.YtgimknplckkiaaaDoor.dims

namespace Go.Proofs.YtgimknplckkiaaaDoor.dims
open Go.ChangeShapes Go.WideShapes Go.ChangeAt Go.RowKit Go.Deep
set_option linter.unusedVariables false
set_option maxRecDepth 100000

theorem levels_bel (sz : Int) (a : Option Addr) (n cap : Nat) (r : Int) (w : World) (hn : n ≤ 9223372036854775800) (hr : (n : Int) + 2 = r) :
    Calls Tryd.prog 62 #[.agg #[.int .i64 sz, .slice a n cap]] w fun e w' => e = .returned (.int .i64 r) ∧ Below w.heap.size w w' :=
  (levels_any sz a n cap w hn).mono fun e w' ⟨h1, h2⟩ => ⟨by rw [h1, hr], by rw [h2]; exact (Below.refl _ _).alloc (Nat.le_refl _) _⟩
theorem refLevels_bel (sz : Int) (a : Option Addr) (n cap : Nat) (r : Int) (w : World) (hn : n ≤ 9223372036854775800) (hr : (n : Int) + 2 = r) :
    Calls Tryd.prog 36 #[.agg #[.int .i64 sz, .slice a n cap]] w fun e w' => e = .returned (.int .i64 r) ∧ Below w.heap.size w w' :=
  (refLevels_any sz a n cap w hn).mono fun e w' ⟨h1, h2⟩ => ⟨by rw [h1, hr], by rw [h2]; exact (Below.refl _ _).alloc (Nat.le_refl _) _⟩

def ex : List Int := [5, 20]
def exd (B : Nat) : Dm := ⟨100, some ⟨B, 0, none⟩, 2, ex⟩
theorem ex_sound (B : Nat) : sndL [exd B] = true := by kernel_rfl

/-- the example's memory -/
structure Ex (w : World) (W : World) : Prop where
  bel : Below w.heap.size w W
  siz : w.heap.size + 1 + 1 < W.heap.size
  i0 : W.cell? ⟨w.heap.size, 0, none⟩ = some (.int .i64 5)
  i1 : W.cell? ⟨w.heap.size, 1, none⟩ = some (.int .i64 20)
  d0 : W.cell? ⟨w.heap.size + 1, 0, none⟩ = some (.int .i64 100)
  d1 : W.cell? ⟨w.heap.size + 1, 1, none⟩ = some (.slice (some ⟨w.heap.size, 0, none⟩) 2 2)

theorem Ex.keep {w W W' : World} (h : Ex w W) (hb : Below W.heap.size W W') : Ex w W' := by
  have k : ∀ {c o : Nat} {v : Value}, W.cell? ⟨c, o, none⟩ = some v → W'.cell? ⟨c, o, none⟩ = some v := fun {c o v} hv => (hb.cell (p := ⟨c, o, none⟩) (cell_lt hv)).trans hv
  have := hb.size
  have := h.siz
  exact ⟨h.bel.trans (hb.mono (by omega)), by omega, k h.i0, k h.i1, k h.d0, k h.d1⟩

theorem Ex.ints {w W : World} (h : Ex w W) : Ints W (some ⟨w.heap.size, 0, none⟩) ex := by
  refine .inr ⟨_, _, rfl, fun i hi => ?_⟩
  match i, hi with
  | 0, _ => simpa [ex, nth] using h.i0
  | 1, _ => simpa [ex, nth] using h.i1

end Go.Proofs.YtgimknplckkiaaaDoor.dims

namespace Go.Proofs.YtgimknplckkiaaaDoor.dims
open Go.ChangeShapes Go.WideShapes Go.ChangeAt Go.RowKit Go.Deep
set_option linter.unusedVariables false
set_option maxRecDepth 100000

set_option maxHeartbeats 2000000 in
theorem refSound_any (a : Option Addr) (n cap : Nat) (ds : List Dm) (w : World) (hI : DimsIn w a ds) (hn : ds.length = n) (hm : n ≤ 9223372036854775807) :
    Calls Tryd.prog 35 #[.slice a n cap] w fun e w' => e = .returned (.bool (sndL ds)) ∧ Below w.heap.size w w' := by
  have HN : Hid (ds.length = n) := hn
  have HI : Aside (DimsIn w a ds) := hI
  clear hn hI
  go_enter Tryd.func35, Tryd.ntmps35
  go_wp2_with fail
  go_loopg [3] n (fun g1 vi wr => ∃ (k : Nat), vi = .int .i64 k ∧ k ≤ n ∧ n - k ≤ g1 ∧ Aside (Below w.heap.size w wr ∧ ∀ i, i < k → sndD (dn ds i) = true))
  case atStart => exact ⟨0, rfl, Nat.zero_le _, Nat.le_refl _, Below.refl _ _, fun i hi => by omega⟩
  case round =>
    obtain ⟨k, rfl, hk, hg1, SK⟩ := hrel
    by_cases hlt : k < n
    · have hltz : (k : Int) < (n : Int) := by omega
      have hkl : k < ds.length := by rw [HN.out]; exact hlt
      obtain ⟨b, off, ha, hc⟩ := (HI.out.keep SK.out.1).get hkl
      subst ha
      obtain ⟨r0, r1, r2, r3⟩ := hc k hkl
      clear hc
      have hC := one_any (dn ds k).sz (dn ds k).a (dn ds k).cap (dn ds k).l wr r2 r3
      obtain ⟨s, hs⟩ : ∃ s, sndB (dn ds k).sz (dn ds k).l = s := ⟨_, rfl⟩
      rw [hs] at hC
      have hs' : sndD (dn ds k) = s := hs
      clear hs
      generalize (dn ds k).sz = t1 at r0 hC
      generalize (dn ds k).a = t2 at r1 hC
      generalize (dn ds k).l.length = t3 at r1 hC
      generalize (dn ds k).cap = t4 at r1 hC
      clear r2 r3
      cases s with
      | true =>
        have S2 : Aside (∀ i, i < k + 1 → sndD (dn ds i) = true) := fun i hi => by
          by_cases e : i = k
          · subst e; exact hs'
          · exact SK.out.2 i (by omega)
        clear hs'
        go_wp2_with fail
        refine hC.mono ?_
        rintro e w1 ⟨rfl, hb1⟩
        have SB : Aside (Below w.heap.size w w1) := SK.out.1.trans (hb1.mono SK.out.1.size)
        clear hC hb1
        go_wp2
        go_roundg (n - (k + 1))
        case measure => omega
        case rel => exact ⟨k + 1, by go_num, by omega, by omega, SB.out, S2.out⟩
      | false =>
        have E : Hid (sndL ds = false) := by show _ = _; unfold sndL; rw [all_not hkl hs']; simp
        clear hs'
        go_wp2_with fail
        refine hC.mono ?_
        rintro e w1 ⟨rfl, hb1⟩
        have SB : Aside (Below w.heap.size w w1) := SK.out.1.trans (hb1.mono SK.out.1.size)
        clear hC hb1
        go_wp2
        go_ret
        exact ⟨ret_bool E.out.symm, SB.out⟩
    · have hltz : ¬ (k : Int) < (n : Int) := by omega
      have hA : ds.all sndD = true := all_of fun i hi => SK.out.2 i (by have := HN.out; omega)
      have EA : Hid (sndL ds = (decide (1 ≤ n) && decide (n ≤ 4))) := by show _ = _; unfold sndL; rw [hA, HN.out, Bool.and_true]
      clear hA
      by_cases h1 : 1 ≤ n
      · by_cases h2 : n ≤ 4
        · have h1z : (1 : Int) ≤ (n : Int) := by omega
          have h2z : (n : Int) ≤ 4 := by omega
          have E : Hid (sndL ds = true) := by show _ = _; rw [EA.out]; simp [h1, h2]
          go_wp2
          go_ret
          exact ⟨ret_bool E.out.symm, SK.out.1⟩
        · have h1z : (1 : Int) ≤ (n : Int) := by omega
          have h2z : ¬ (n : Int) ≤ 4 := by omega
          have E : Hid (sndL ds = false) := by show _ = _; rw [EA.out]; simp [h2]
          go_wp2
          go_ret
          exact ⟨ret_bool E.out.symm, SK.out.1⟩
      · have h1z : ¬ (1 : Int) ≤ (n : Int) := by omega
        have E : Hid (sndL ds = false) := by show _ = _; rw [EA.out]; simp [h1]
        go_wp2
        go_ret
        exact ⟨ret_bool E.out.symm, SK.out.1⟩

set_option maxHeartbeats 4000000 in
theorem refUp_any (sz : Int) (a : Option Addr) (n cap : Nat) (l : List Int) (f t v : Int) (w : World) (hI : Ints w a l) (hn : l.length = n) (hm : n ≤ 9223372036854775807) (hv : v ≤ 9223372036854775807) :
    Calls Tryd.prog 78 #[.agg #[.int .i64 sz, .slice a n cap], .int .i64 f, .int .i64 t, .int .i64 v] w fun e w' => e = .returned (.int .i64 (upV sz l f t v)) ∧ Below w.heap.size w w' := by
  have ho := fun W (h : Ints W a l) => one_any sz a cap l W h (by omega)
  have HB0 : Aside (Below w.heap.size w (w.alloc (.cells #[.int .i64 sz, .slice a n cap] 57))) := by show Below _ _ _; (repeat (first | with_reducible exact Below.refl _ _ | (with_reducible refine Below.drew ?_) | (with_reducible refine Below.alloc ?_ (by first | omega | (simp; done) | (simp; omega)) _) | (with_reducible refine Below.setCell ?_ (by first | exact Nat.le_refl _ | omega | (simp; done) | (simp; omega)) _)))
  rw [hn] at ho
  have HI : Aside (Ints w a l) := hI
  have HN : Hid (l.length = n) := hn
  by_cases h : sndB sz l = true
  · have hS := (sndB_iff sz l).1 h
    have hn4 : n ≤ 4 := by have := hS.2.2.1; omega
    have HS : Aside (∀ i, i < l.length → StepOk l i) := hS.2.2.2
    have EU : Hid (upV sz l f t v = raiseV l f t v) := if_pos h
    rw [h] at ho
    clear hn hI h hS hm
    by_cases hbad : f < 0 ∨ t < f ∨ (n : Int) + 1 < t ∨ v < 0
    · have E : Hid (upV sz l f t v = -1) := by show _ = _; rw [EU.out]; unfold raiseV; rw [HN.out, if_pos hbad]
      by_cases b1 : f < 0
      · as_aux_lemma =>
        go_enter Tryd.func78, Tryd.ntmps78
        go_wp2_with fail
        refine (ho _ (HI.out.keep HB0.out)).mono ?_
        rintro e w1 ⟨rfl, hb1⟩
        have c0 : w1.cell? ⟨w.heap.size, 0, none⟩ = some (.int .i64 sz) := (hb1.cell (p := ⟨w.heap.size, 0, none⟩) (by simp)).trans (by simp [go_sem])
        have c1 : w1.cell? ⟨w.heap.size, 1, none⟩ = some (.slice a n cap) := (hb1.cell (p := ⟨w.heap.size, 1, none⟩) (by simp)).trans (by simp [go_sem])
        have SB : Aside (Below w.heap.size w w1) := HB0.out.trans (hb1.mono (by simp))
        clear hb1 ho
        go_wp2
        go_ret
        exact ⟨ret_int E.out.symm, SB.out⟩
      by_cases b2 : t < f
      · as_aux_lemma =>
        go_enter Tryd.func78, Tryd.ntmps78
        go_wp2_with fail
        refine (ho _ (HI.out.keep HB0.out)).mono ?_
        rintro e w1 ⟨rfl, hb1⟩
        have c0 : w1.cell? ⟨w.heap.size, 0, none⟩ = some (.int .i64 sz) := (hb1.cell (p := ⟨w.heap.size, 0, none⟩) (by simp)).trans (by simp [go_sem])
        have c1 : w1.cell? ⟨w.heap.size, 1, none⟩ = some (.slice a n cap) := (hb1.cell (p := ⟨w.heap.size, 1, none⟩) (by simp)).trans (by simp [go_sem])
        have SB : Aside (Below w.heap.size w w1) := HB0.out.trans (hb1.mono (by simp))
        clear hb1 ho
        go_wp2
        go_ret
        exact ⟨ret_int E.out.symm, SB.out⟩
      by_cases b3 : (n : Int) + 2 ≤ t
      · as_aux_lemma =>
        go_enter Tryd.func78, Tryd.ntmps78
        go_wp2_with fail
        refine (ho _ (HI.out.keep HB0.out)).mono ?_
        rintro e w1 ⟨rfl, hb1⟩
        have c0 : w1.cell? ⟨w.heap.size, 0, none⟩ = some (.int .i64 sz) := (hb1.cell (p := ⟨w.heap.size, 0, none⟩) (by simp)).trans (by simp [go_sem])
        have c1 : w1.cell? ⟨w.heap.size, 1, none⟩ = some (.slice a n cap) := (hb1.cell (p := ⟨w.heap.size, 1, none⟩) (by simp)).trans (by simp [go_sem])
        have SB : Aside (Below w.heap.size w w1) := HB0.out.trans (hb1.mono (by simp))
        clear hb1 ho
        go_wp2_with fail
        refine (refLevels_bel sz a n cap ((n : Int) + 2) _ (by omega) rfl).mono ?_
        rintro e w2 ⟨rfl, hb2⟩
        have c0 := (hb2.cell (p := ⟨w.heap.size, 0, none⟩) (cell_lt c0)).trans c0
        have c1 := (hb2.cell (p := ⟨w.heap.size, 1, none⟩) (cell_lt c1)).trans c1
        have SB : Aside (Below w.heap.size w w2) := SB.out.trans (hb2.mono SB.out.size)
        clear hb2
        go_wp2
        go_ret
        exact ⟨ret_int E.out.symm, SB.out⟩
      have b4 : v < 0 := by omega
      go_enter Tryd.func78, Tryd.ntmps78
      go_wp2_with fail
      refine (ho _ (HI.out.keep HB0.out)).mono ?_
      rintro e w1 ⟨rfl, hb1⟩
      have c0 : w1.cell? ⟨w.heap.size, 0, none⟩ = some (.int .i64 sz) := (hb1.cell (p := ⟨w.heap.size, 0, none⟩) (by simp)).trans (by simp [go_sem])
      have c1 : w1.cell? ⟨w.heap.size, 1, none⟩ = some (.slice a n cap) := (hb1.cell (p := ⟨w.heap.size, 1, none⟩) (by simp)).trans (by simp [go_sem])
      have SB : Aside (Below w.heap.size w w1) := HB0.out.trans (hb1.mono (by simp))
      clear hb1 ho
      go_wp2_with fail
      refine (refLevels_bel sz a n cap ((n : Int) + 2) _ (by omega) rfl).mono ?_
      rintro e w2 ⟨rfl, hb2⟩
      have c0 := (hb2.cell (p := ⟨w.heap.size, 0, none⟩) (cell_lt c0)).trans c0
      have c1 := (hb2.cell (p := ⟨w.heap.size, 1, none⟩) (cell_lt c1)).trans c1
      have SB : Aside (Below w.heap.size w w2) := SB.out.trans (hb2.mono SB.out.size)
      clear hb2
      go_wp2
      go_ret
      exact ⟨ret_int E.out.symm, SB.out⟩
    have b1 : ¬ f < 0 := by omega
    have b2 : ¬ t < f := by omega
    have b3 : ¬ (n : Int) + 2 ≤ t := by omega
    have b4 : ¬ v < 0 := by omega
    by_cases g1 : f = t
    · as_aux_lemma =>
        have E : Hid (upV sz l f t v = v) := by show _ = _; rw [EU.out]; unfold raiseV; rw [HN.out, if_neg hbad, if_pos g1]
        clear hbad EU
        subst g1
        go_enter Tryd.func78, Tryd.ntmps78
        go_wp2_with fail
        refine (ho _ (HI.out.keep HB0.out)).mono ?_
        rintro e w1 ⟨rfl, hb1⟩
        have c0 : w1.cell? ⟨w.heap.size, 0, none⟩ = some (.int .i64 sz) := (hb1.cell (p := ⟨w.heap.size, 0, none⟩) (by simp)).trans (by simp [go_sem])
        have c1 : w1.cell? ⟨w.heap.size, 1, none⟩ = some (.slice a n cap) := (hb1.cell (p := ⟨w.heap.size, 1, none⟩) (by simp)).trans (by simp [go_sem])
        have SB : Aside (Below w.heap.size w w1) := HB0.out.trans (hb1.mono (by simp))
        clear hb1 ho
        go_wp2_with fail
        refine (refLevels_bel sz a n cap ((n : Int) + 2) _ (by omega) rfl).mono ?_
        rintro e w2 ⟨rfl, hb2⟩
        have c0 := (hb2.cell (p := ⟨w.heap.size, 0, none⟩) (cell_lt c0)).trans c0
        have c1 := (hb2.cell (p := ⟨w.heap.size, 1, none⟩) (cell_lt c1)).trans c1
        have SB : Aside (Below w.heap.size w w2) := SB.out.trans (hb2.mono SB.out.size)
        clear hb2
        go_wp2
        go_ret
        exact ⟨ret_int E.out.symm, SB.out⟩
    have g1' : (f == t) = false := by simpa using g1
    by_cases g2 : t = (n : Int) + 1
    · as_aux_lemma =>
        have E : Hid (upV sz l f t v = 0) := by show _ = _; rw [EU.out]; unfold raiseV; rw [HN.out, if_neg hbad, if_neg g1, if_pos g2]
        clear hbad EU
        have g2' : (t == (n : Int) + 2 - 1) = true := by
          have : t = (n : Int) + 2 - 1 := by omega
          simpa using this
        have HG : Hid (t = (n : Int) + 1) := g2
        clear g2 g1
        go_enter Tryd.func78, Tryd.ntmps78
        go_wp2_with fail
        refine (ho _ (HI.out.keep HB0.out)).mono ?_
        rintro e w1 ⟨rfl, hb1⟩
        have c0 : w1.cell? ⟨w.heap.size, 0, none⟩ = some (.int .i64 sz) := (hb1.cell (p := ⟨w.heap.size, 0, none⟩) (by simp)).trans (by simp [go_sem])
        have c1 : w1.cell? ⟨w.heap.size, 1, none⟩ = some (.slice a n cap) := (hb1.cell (p := ⟨w.heap.size, 1, none⟩) (by simp)).trans (by simp [go_sem])
        have SB : Aside (Below w.heap.size w w1) := HB0.out.trans (hb1.mono (by simp))
        clear hb1 ho
        go_wp2_with fail
        refine (refLevels_bel sz a n cap ((n : Int) + 2) _ (by omega) rfl).mono ?_
        rintro e w2 ⟨rfl, hb2⟩
        have c0 := (hb2.cell (p := ⟨w.heap.size, 0, none⟩) (cell_lt c0)).trans c0
        have c1 := (hb2.cell (p := ⟨w.heap.size, 1, none⟩) (cell_lt c1)).trans c1
        have SB : Aside (Below w.heap.size w w2) := SB.out.trans (hb2.mono SB.out.size)
        clear hb2
        go_wp2_with fail
        refine (refLevels_bel sz a n cap ((n : Int) + 2) _ (by omega) rfl).mono ?_
        rintro e w3 ⟨rfl, hb3⟩
        have c0 := (hb3.cell (p := ⟨w.heap.size, 0, none⟩) (cell_lt c0)).trans c0
        have c1 := (hb3.cell (p := ⟨w.heap.size, 1, none⟩) (cell_lt c1)).trans c1
        have SB : Aside (Below w.heap.size w w3) := SB.out.trans (hb3.mono SB.out.size)
        clear hb3
        go_wp2
        go_ret
        exact ⟨ret_int E.out.symm, SB.out⟩
    obtain ⟨i, rfl⟩ : ∃ i : Nat, f = (i : Int) := ⟨f.toNat, by omega⟩
    obtain ⟨j, rfl⟩ : ∃ j : Nat, t = (j : Int) := ⟨t.toNat, by omega⟩
    have E0 : Hid (upV sz l i j v = v / (dv l j / dv l i)) := by show _ = _; rw [EU.out]; unfold raiseV; rw [HN.out, if_neg hbad, if_neg g1, if_neg g2]; simp
    have hjl : j ≤ n := by omega
    have hj1 : 1 ≤ j := by omega
    have hij : i ≤ j := by omega
    have g2' : ((j : Int) == (n : Int) + 2 - 1) = false := by
      have : ¬ (j : Int) = (n : Int) + 2 - 1 := by omega
      simpa using this
    have hD := dv_div HS.out (j := i) (k := j) (by omega) (by have := HN.out; omega)
    have hDj := dv_le HS.out (k := j) (by have := HN.out; omega)
    have hDi := dv_le HS.out (k := i) (by have := HN.out; omega)
    obtain ⟨jj, hjj⟩ : ∃ jj, j = jj + 1 := ⟨j - 1, by omega⟩
    subst hjj
    have hjc : jj < l.length := by have := HN.out; omega
    obtain ⟨b, off, ha, hc⟩ := HI.out.get hjc
    subst ha
    have e1 : ((jj + 1 : Nat) : Int) - 1 = (jj : Int) := by omega
    have hjz : (jj : Int) < (n : Int) := by omega
    have hv0 : 0 ≤ v := by omega
    obtain ⟨x, hx⟩ : ∃ x, nth l jj = x := ⟨_, rfl⟩
    have hxd : dv l (jj + 1) = x := hx
    rw [hxd] at hD hDj
    have HC : Aside (∀ i, i < l.length → w.cell? ⟨b, off + i, none⟩ = some (.int .i64 (nth l i))) := hc
    clear hc hbad g1 g2 EU b1 b2 b3 b4
    rcases Nat.eq_zero_or_pos i with hi0 | hi0
    · as_aux_lemma =>
        subst hi0
        have hx1 : 1 ≤ x := hDj.1
        have E : Hid (upV sz l (0 : Nat) (jj + 1 : Nat) v = v / x) := by show _ = _; rw [E0.out, hxd]; simp [dv]
        have rx := HC.out jj hjc
        rw [hx] at rx
        have b1 : ¬ ((0 : Nat) : Int) < 0 := by omega
        have b2 : ¬ ((jj + 1 : Nat) : Int) < ((0 : Nat) : Int) := by omega
        have b3 : ¬ (n : Int) + 2 ≤ ((jj + 1 : Nat) : Int) := by omega
        have b4 : ¬ v < 0 := by omega
        clear hD hDi hDj hx hxd E0
        go_enter Tryd.func78, Tryd.ntmps78
        go_wp2_with fail
        refine (ho _ (HI.out.keep HB0.out)).mono ?_
        rintro e w1 ⟨rfl, hb1⟩
        have c0 : w1.cell? ⟨w.heap.size, 0, none⟩ = some (.int .i64 sz) := (hb1.cell (p := ⟨w.heap.size, 0, none⟩) (by simp)).trans (by simp [go_sem])
        have c1 : w1.cell? ⟨w.heap.size, 1, none⟩ = some (.slice (some ⟨b, off, none⟩) n cap) := (hb1.cell (p := ⟨w.heap.size, 1, none⟩) (by simp)).trans (by simp [go_sem])
        have SB : Aside (Below w.heap.size w w1) := HB0.out.trans (hb1.mono (by simp))
        clear hb1 ho
        go_wp2_with fail
        refine (refLevels_bel sz _ n cap ((n : Int) + 2) _ (by omega) rfl).mono ?_
        rintro e w2 ⟨rfl, hb2⟩
        have c0 := (hb2.cell (p := ⟨w.heap.size, 0, none⟩) (cell_lt c0)).trans c0
        have c1 := (hb2.cell (p := ⟨w.heap.size, 1, none⟩) (cell_lt c1)).trans c1
        have SB : Aside (Below w.heap.size w w2) := SB.out.trans (hb2.mono SB.out.size)
        clear hb2
        go_wp2_with fail
        refine (refLevels_bel sz _ n cap ((n : Int) + 2) _ (by omega) rfl).mono ?_
        rintro e w3 ⟨rfl, hb3⟩
        have c0 := (hb3.cell (p := ⟨w.heap.size, 0, none⟩) (cell_lt c0)).trans c0
        have c1 := (hb3.cell (p := ⟨w.heap.size, 1, none⟩) (cell_lt c1)).trans c1
        have SB : Aside (Below w.heap.size w w3) := SB.out.trans (hb3.mono SB.out.size)
        clear hb3
        have rx := (SB.out.cell (p := ⟨b, off + jj, none⟩) (cell_lt rx)).trans rx
        go_wp2
        go_ret
        exact ⟨ret_int E.out.symm, SB.out⟩
    · obtain ⟨ii, hii⟩ : ∃ ii, i = ii + 1 := ⟨i - 1, by omega⟩
      subst hii
      have hic : ii < l.length := by have := HN.out; omega
      obtain ⟨y, hy⟩ : ∃ y, nth l ii = y := ⟨_, rfl⟩
      have hyd : dv l (ii + 1) = y := hy
      rw [hyd] at hD hDi
      have hx0 : 0 ≤ x := by omega
      have hy1 : 1 ≤ y := hDi.1
      have hd1 : 1 ≤ x / y := hD.2.1
      have q1 := quo_le hx0 hy1
      obtain ⟨d, hd⟩ : ∃ d, x / y = d := ⟨_, rfl⟩
      rw [hd] at hd1 q1
      have q2 := quo_le hv0 hd1
      obtain ⟨q, hq⟩ : ∃ q, v / d = q := ⟨_, rfl⟩
      have E : Hid (upV sz l (ii + 1 : Nat) (jj + 1 : Nat) v = q) := by show _ = _; rw [E0.out, hxd, hyd, hd, hq]
      have w1' : IntKind.i64.wrap (x.tdiv y) = d := by rw [IntWalk.i64_quo x y ⟨hx0, by omega, hy1⟩]; exact hd
      have w2' : IntKind.i64.wrap (v.tdiv d) = q := by rw [IntWalk.i64_quo v d ⟨hv0, hv, hd1⟩]; exact hq
      have y0' : ¬ y = 0 := by omega
      have d0' : ¬ d = 0 := by omega
      have e2 : ((ii + 1 : Nat) : Int) - 1 = (ii : Int) := by omega
      have hiz : (ii : Int) < (n : Int) := by omega
      have i0 : (((ii + 1 : Nat) : Int) == 0) = false := by
        have : ¬ ((ii + 1 : Nat) : Int) = 0 := by omega
        simpa using this
      have rx := HC.out jj hjc
      have ry := HC.out ii hic
      rw [hx] at rx
      rw [hy] at ry
      have b1 : ¬ ((ii + 1 : Nat) : Int) < 0 := by omega
      have b2 : ¬ ((jj + 1 : Nat) : Int) < ((ii + 1 : Nat) : Int) := by omega
      have b3 : ¬ (n : Int) + 2 ≤ ((jj + 1 : Nat) : Int) := by omega
      have b4 : ¬ v < 0 := by omega
      clear hD hDi hDj hx hxd E0 hy hyd hd hq
      go_enter Tryd.func78, Tryd.ntmps78
      go_wp2_with fail
      refine (ho _ (HI.out.keep HB0.out)).mono ?_
      rintro e w1 ⟨rfl, hb1⟩
      have c0 : w1.cell? ⟨w.heap.size, 0, none⟩ = some (.int .i64 sz) := (hb1.cell (p := ⟨w.heap.size, 0, none⟩) (by simp)).trans (by simp [go_sem])
      have c1 : w1.cell? ⟨w.heap.size, 1, none⟩ = some (.slice (some ⟨b, off, none⟩) n cap) := (hb1.cell (p := ⟨w.heap.size, 1, none⟩) (by simp)).trans (by simp [go_sem])
      have SB : Aside (Below w.heap.size w w1) := HB0.out.trans (hb1.mono (by simp))
      clear hb1 ho
      go_wp2_with fail
      refine (refLevels_bel sz _ n cap ((n : Int) + 2) _ (by omega) rfl).mono ?_
      rintro e w2 ⟨rfl, hb2⟩
      have c0 := (hb2.cell (p := ⟨w.heap.size, 0, none⟩) (cell_lt c0)).trans c0
      have c1 := (hb2.cell (p := ⟨w.heap.size, 1, none⟩) (cell_lt c1)).trans c1
      have SB : Aside (Below w.heap.size w w2) := SB.out.trans (hb2.mono SB.out.size)
      clear hb2
      go_wp2_with fail
      refine (refLevels_bel sz _ n cap ((n : Int) + 2) _ (by omega) rfl).mono ?_
      rintro e w3 ⟨rfl, hb3⟩
      have c0 := (hb3.cell (p := ⟨w.heap.size, 0, none⟩) (cell_lt c0)).trans c0
      have c1 := (hb3.cell (p := ⟨w.heap.size, 1, none⟩) (cell_lt c1)).trans c1
      have SB : Aside (Below w.heap.size w w3) := SB.out.trans (hb3.mono SB.out.size)
      clear hb3
      have rx := (SB.out.cell (p := ⟨b, off + jj, none⟩) (cell_lt rx)).trans rx
      have ry := (SB.out.cell (p := ⟨b, off + ii, none⟩) (cell_lt ry)).trans ry
      go_wp2_with fail
      go_quiet (fail)
      go_wp2
      go_ret
      exact ⟨ret_int E.out.symm, below_drewN SB.out nq⟩
  · have h' : sndB sz l = false := by simpa using h
    have E : Hid (upV sz l f t v = -1) := if_neg h
    rw [h'] at ho
    clear hn hI h h'
    go_enter Tryd.func78, Tryd.ntmps78
    go_wp2_with fail
    refine (ho _ (HI.out.keep HB0.out)).mono ?_
    rintro e w1 ⟨rfl, hb1⟩
    have c0 : w1.cell? ⟨w.heap.size, 0, none⟩ = some (.int .i64 sz) := (hb1.cell (p := ⟨w.heap.size, 0, none⟩) (by simp)).trans (by simp [go_sem])
    have c1 : w1.cell? ⟨w.heap.size, 1, none⟩ = some (.slice a n cap) := (hb1.cell (p := ⟨w.heap.size, 1, none⟩) (by simp)).trans (by simp [go_sem])
    have SB : Aside (Below w.heap.size w w1) := HB0.out.trans (hb1.mono (by simp))
    clear hb1 ho
    go_wp2
    go_ret
    exact ⟨ret_int E.out.symm, SB.out⟩
end Go.Proofs.YtgimknplckkiaaaDoor.dims

namespace Go.Proofs.YtgimknplckkiaaaDoor.dims
open Go.ChangeShapes Go.WideShapes Go.ChangeAt Go.RowKit Go.Deep
set_option linter.unusedVariables false
set_option maxRecDepth 100000

/-- what the round reads, and all that was there -/
theorem five_keep {W0 W w' : World} {B b p b1 p1 b2 p2 b3 p3 : Nat} {x0 x1 x2 x3 x4 : Value} (hb : Below W.heap.size W w')
    (h : Below B W0 W ∧ B ≤ W.heap.size ∧ W.cell? ⟨b, p, none⟩ = some x0 ∧ W.cell? ⟨b, p + 1, none⟩ = some x1 ∧ W.cell? ⟨b1, p1, none⟩ = some x2 ∧ W.cell? ⟨b2, p2, none⟩ = some x3 ∧ W.cell? ⟨b3, p3, none⟩ = some x4) :
    Below B W0 w' ∧ B ≤ w'.heap.size ∧ w'.cell? ⟨b, p, none⟩ = some x0 ∧ w'.cell? ⟨b, p + 1, none⟩ = some x1 ∧ w'.cell? ⟨b1, p1, none⟩ = some x2 ∧ w'.cell? ⟨b2, p2, none⟩ = some x3 ∧ w'.cell? ⟨b3, p3, none⟩ = some x4 := by
  obtain ⟨h0, h1, h2, h3, h4, h5, h6⟩ := h
  have k : ∀ {c o : Nat} {v : Value}, W.cell? ⟨c, o, none⟩ = some v → w'.cell? ⟨c, o, none⟩ = some v := fun {c o v} hv => (hb.cell (p := ⟨c, o, none⟩) (cell_lt hv)).trans hv
  exact ⟨h0.trans (hb.mono h1), Nat.le_trans h1 hb.size, k h2, k h3, k h4, k h5, k h6⟩

theorem five_grown {W0 W w' : World} {row : Option Nat} {B b p b1 p1 b2 p2 b3 p3 : Nat} {x0 x1 x2 x3 x4 : Value} (hg : W.grownBy w' row) (hr : ∀ k, row = some k → B ≤ k) (l : b < B) (l1 : b1 < B) (l2 : b2 < B) (l3 : b3 < B)
    (h : Below B W0 W ∧ B ≤ W.heap.size ∧ W.cell? ⟨b, p, none⟩ = some x0 ∧ W.cell? ⟨b, p + 1, none⟩ = some x1 ∧ W.cell? ⟨b1, p1, none⟩ = some x2 ∧ W.cell? ⟨b2, p2, none⟩ = some x3 ∧ W.cell? ⟨b3, p3, none⟩ = some x4) :
    Below B W0 w' ∧ B ≤ w'.heap.size ∧ w'.cell? ⟨b, p, none⟩ = some x0 ∧ w'.cell? ⟨b, p + 1, none⟩ = some x1 ∧ w'.cell? ⟨b1, p1, none⟩ = some x2 ∧ w'.cell? ⟨b2, p2, none⟩ = some x3 ∧ w'.cell? ⟨b3, p3, none⟩ = some x4 := by
  obtain ⟨h0, h1, h2, h3, h4, h5, h6⟩ := h
  have hb : Below B W w' := (Below.refl _ _).grown hg h1 hr
  have k : ∀ {c o : Nat} {v : Value}, c < B → W.cell? ⟨c, o, none⟩ = some v → w'.cell? ⟨c, o, none⟩ = some v := fun {c o v} hl hv => (hb.cell (p := ⟨c, o, none⟩) hl).trans hv
  exact ⟨h0.trans hb, Nat.le_trans h1 hg.size, k l h2, k l h3, k l1 h4, k l2 h5, k l3 h6⟩

theorem take_nth (l : List Int) (k : Nat) (h : k < l.length) : l.take (k + 1) = l.take k ++ [nth l k] := by
  rw [List.take_succ_eq_append_getElem h]
  simp [nth, h]

set_option maxHeartbeats 8000000 in
theorem refAt_cap (a a1 a2 a3 : Option Addr) (n cap c1 c2 c3 : Nat) (ds : List Dm) (f t k : List Int) (w : World) (hI : DimsIn w a ds) (hn : ds.length = n) (h1 : Ints w a1 f) (h2 : Ints w a2 t) (h3 : Ints w a3 k) (e1 : f.length = n) (e2 : t.length = n) (e3 : k.length = n) (hs : sndL ds = true) (hk : ∀ i, i < n → nth k i ≤ 9223372036854775807) :
    Calls Tryd.prog 55 #[.slice a n cap, .slice a1 n c1, .slice a2 n c2, .slice a3 n c3] w fun e w' => ∃ v, e = .returned v ∧ RowCap w' v (atL ds f t k) ∧ Below w.heap.size w w' := by
  obtain ⟨i0, hi, hz0, hz1, hz2⟩ := info_parts info_int
  have hn4 : n ≤ 4 := by unfold sndL at hs; rw [hn] at hs; simp at hs; omega
  have hall : ∀ i, i < n → SoundD (dn ds i).sz (dn ds i).l := fun i hi => by
    have hd : ds.all sndD = true := by unfold sndL at hs; simp only [Bool.and_eq_true] at hs; exact hs.2.2
    exact (sndB_iff _ _).1 (all_at hd (by omega))
  have hL := refSound_any a n cap ds w hI hn (by omega)
  rw [hs] at hL
  have HA : Aside (∀ i, i < n → SoundD (dn ds i).sz (dn ds i).l) := hall
  have HI : Aside (DimsIn w a ds ∧ ds.length = n) := ⟨hI, hn⟩
  have H1 : Aside (Ints w a1 f ∧ f.length = n) := ⟨h1, e1⟩
  have H2 : Aside (Ints w a2 t ∧ t.length = n) := ⟨h2, e2⟩
  have H3 : Aside (Ints w a3 k ∧ k.length = n) := ⟨h3, e3⟩
  have HKV : Aside (∀ i, i < n → nth k i ≤ 9223372036854775807) := hk
  obtain ⟨L, hLL⟩ : ∃ L, atL ds f t k = L := ⟨_, rfl⟩
  have HL : Hid (atL ds f t k = L ∧ L.length = n) := ⟨hLL, by rw [← hLL, atL_len, hn]⟩
  rw [hLL]
  clear hall hI hn h1 h2 h3 e1 e2 e3 hs hk hLL
  go_enter Tryd.func55, Tryd.ntmps55
  go_wp2_with fail
  refine hL.mono ?_
  rintro e W1 ⟨rfl, hb1⟩
  have SB1 : Aside _ := hb1
  clear hb1 hL
  go_wp2_with fail
  go_loopg [9, 10] n (fun g1 v vi wr => ∃ (j : Nat), vi = .int .i64 j ∧ j ≤ n ∧ n - j ≤ g1 ∧ Aside (wr.ownsRow w.heap.size 3 1 v j (vals (L.take j)) ∧ Below w.heap.size w wr))
  case atStart => exact ⟨0, rfl, Nat.zero_le _, Nat.le_refl _, World.ownsRow_nil _ _ _ _, SB1.out⟩
  case round =>
    clear SB1
    obtain ⟨j, rfl, hj, hg1, SK⟩ := hrel
    by_cases hlt : j < n
    · have hltz : (j : Int) < (n : Int) := by omega
      have hbl := SK.out.2
      obtain ⟨b, off, ha, hc⟩ := HI.out.1.get (k := j) (by rw [HI.out.2]; exact hlt)
      obtain ⟨b1, o1, ha1, hc1⟩ := H1.out.1.get (k := j) (by rw [H1.out.2]; exact hlt)
      obtain ⟨b2, o2, ha2, hc2⟩ := H2.out.1.get (k := j) (by rw [H2.out.2]; exact hlt)
      obtain ⟨b3, o3, ha3, hc3⟩ := H3.out.1.get (k := j) (by rw [H3.out.2]; exact hlt)
      subst ha
      subst ha1
      subst ha2
      subst ha3
      obtain ⟨r0, r1, ri, rm⟩ := hc j (by rw [HI.out.2]; exact hlt)
      have p1 := hc1 j (by rw [H1.out.2]; exact hlt)
      have p2 := hc2 j (by rw [H2.out.2]; exact hlt)
      have p3 := hc3 j (by rw [H3.out.2]; exact hlt)
      have l0 := cell_lt r0
      have l1 := cell_lt p1
      have l2 := cell_lt p2
      have l3 := cell_lt p3
      have hS := HA.out j hlt
      have hr := fun W (h : Ints W (dn ds j).a (dn ds j).l) => refUp_any (dn ds j).sz (dn ds j).a (dn ds j).l.length (dn ds j).cap (dn ds j).l (nth f j) (nth t j) (nth k j) W h rfl rm (HKV.out j hlt)
      have ev : upV (dn ds j).sz (dn ds j).l (nth f j) (nth t j) (nth k j) = nth L j := by
        rw [← HL.out.1, atL_nth _ _ _ _ (by rw [HI.out.2]; exact hlt)]
        exact if_pos (sndB_true hS)
      rw [ev] at hr
      obtain ⟨r, hrr⟩ : ∃ r, nth L j = r := ⟨_, rfl⟩
      rw [hrr] at hr
      have HT : Hid (vals (L.take (j + 1)) = vals (L.take j) ++ [.int .i64 r]) := by
        show _ = _
        rw [take_nth L j (by rw [HL.out.2]; exact hlt), vals_app, hrr]; rfl
      clear ev hrr hc hc1 hc2 hc3 hS rm
      rw [← hbl.cell (p := ⟨b, off + j * 2, none⟩) l0] at r0
      rw [← hbl.cell (p := ⟨b, off + j * 2 + 1, none⟩) l0] at r1
      rw [← hbl.cell (p := ⟨b1, o1 + j, none⟩) l1] at p1
      rw [← hbl.cell (p := ⟨b2, o2 + j, none⟩) l2] at p2
      rw [← hbl.cell (p := ⟨b3, o3 + j, none⟩) l3] at p3
      have RI : Aside (Ints w (dn ds j).a (dn ds j).l) := ri
      generalize nth f j = q1 at p1 hr
      generalize nth t j = q2 at p2 hr
      generalize nth k j = q3 at p3 hr
      generalize (dn ds j).sz = t1 at r0 hr
      generalize (dn ds j).l.length = t3 at r1 hr
      generalize (dn ds j).cap = t4 at r1 hr
      clear ri
      generalize (dn ds j).a = t2 at r1 hr RI
      generalize (dn ds j).l = t5 at hr RI
      have hsz := hbl.size
      have hown := SK.out.1
      clear hbl
      go_wp2_with fail
      go_region_held_law (fun w' => Below w.heap.size w w' ∧ w.heap.size ≤ w'.heap.size ∧ w'.cell? ⟨b, off + j * 2, none⟩ = some (.int .i64 t1) ∧ w'.cell? ⟨b, off + j * 2 + 1, none⟩ = some (.slice t2 t3 t4) ∧ w'.cell? ⟨b1, o1 + j, none⟩ = some (.int .i64 q1) ∧ w'.cell? ⟨b2, o2 + j, none⟩ = some (.int .i64 q2) ∧ w'.cell? ⟨b3, o3 + j, none⟩ = some (.int .i64 q3))
        (first | assumption | (exact ⟨SK.out.2.drew, hsz, r0, r1, p1, p2, p3⟩) | (exact ⟨SK.out.2, hsz, r0, r1, p1, p2, p3⟩) | (refine five_keep (W0 := w) (B := w.heap.size) (b := b) (p := off + j * 2) (b1 := b1) (p1 := o1 + j) (b2 := b2) (p2 := o2 + j) (b3 := b3) (p3 := o3 + j) (x0 := .int .i64 t1) (x1 := .slice t2 t3 t4) (x2 := .int .i64 q1) (x3 := .int .i64 q2) (x4 := .int .i64 q3) hb2 ?_; assumption) | (refine five_keep (W0 := w) (B := w.heap.size) (b := b) (p := off + j * 2) (b1 := b1) (p1 := o1 + j) (b2 := b2) (p2 := o2 + j) (b3 := b3) (p3 := o3 + j) (x0 := .int .i64 t1) (x1 := .slice t2 t3 t4) (x2 := .int .i64 q1) (x3 := .int .i64 q2) (x4 := .int .i64 q3) ((Below.refl _ _).alloc (Nat.le_refl _) _) ?_; assumption) | (refine five_grown (W0 := w) (B := w.heap.size) (b := b) (p := off + j * 2) (b1 := b1) (p1 := o1 + j) (b2 := b2) (p2 := o2 + j) (b3 := b3) (p3 := o3 + j) (x0 := .int .i64 t1) (x1 := .slice t2 t3 t4) (x2 := .int .i64 q1) (x3 := .int .i64 q2) (x4 := .int .i64 q3) hgrow (fun q hq => (hown.lt q hq).1) l0 l1 l2 l3 ?_; assumption))
        (first | (go_at_call 78; refine (hr _ (RI.out.keep (by apply And.left; assumption))).mono ?_; rintro e w2 ⟨rfl, hb2⟩) | (refine step_append_lies _ rfl (.tmp 42) (.tmp 60) 24 rfl w.heap.size 3 i0 _ 1 8 Tryd.underlying24 hi hz0 hz1 hz2 rfl (by decide) _ j (vals (L.take j)) rfl ((own_below hown.drew hb2).alloc _) ⟨w2.heap.size, 0, none⟩ 1 1 [.int .i64 r] rfl rfl (cell_one_new _ _ _) (by intro u hu; simp at hu; subst hu; rfl) (by decide) (by unfold maxLen; omega) (by omega) (by have := hb2.size; have e : wr.drew.heap.size = wr.heap.size := rfl; simp; omega) _ rfl ?_; intro g cap3 w3 hown3 hgrow hat hglt))
      have S3 : Aside (w3.ownsRow w.heap.size 3 1 (.slice (some ⟨g, 0, none⟩) (j + 1) cap3) (j + 1) (vals (L.take (j + 1))) ∧ Below w.heap.size w w3) :=
        ⟨by rw [HT.out]; exact hown3, by apply And.left; assumption⟩
      clear hown3 hgrow hat hglt hb2 hown SK
      go_wp2
      go_roundg (n - (j + 1))
      case measure => omega
      case rel => exact ⟨j + 1, by go_num, by omega, by omega, S3⟩
    · have hltz : ¬ (j : Int) < (n : Int) := by omega
      have e : j = n := by omega
      have hown := SK.out.1
      rw [List.take_of_length_le (by rw [HL.out.2]; omega)] at hown
      have HO : Aside (RowCap wr _ L) := own_cap hown
      have SB : Aside (Below w.heap.size w wr) := SK.out.2
      clear hown
      go_wp2
      go_ret
      exact ⟨_, rfl, HO.out, SB.out⟩
theorem refAt_ok (a a1 a2 a3 : Option Addr) (n cap c1 c2 c3 : Nat) (ds : List Dm) (f t k : List Int) (w : World) (hI : DimsIn w a ds) (hn : ds.length = n) (h1 : Ints w a1 f) (h2 : Ints w a2 t) (h3 : Ints w a3 k) (e1 : f.length = n) (e2 : t.length = n) (e3 : k.length = n) (hs : sndL ds = true) (hk : ∀ i, i < n → nth k i ≤ 9223372036854775807) :
    Calls Tryd.prog 55 #[.slice a n cap, .slice a1 n c1, .slice a2 n c2, .slice a3 n c3] w fun e w' => ∃ v, e = .returned v ∧ RowOut w' v (atL ds f t k) ∧ Below w.heap.size w w' :=
  (refAt_cap a a1 a2 a3 n cap c1 c2 c3 ds f t k w hI hn h1 h2 h3 e1 e2 e3 hs hk).mono fun e w' ⟨v, h1, h2, h3⟩ => ⟨v, h1, h2.out, h3⟩
end Go.Proofs.YtgimknplckkiaaaDoor.dims
