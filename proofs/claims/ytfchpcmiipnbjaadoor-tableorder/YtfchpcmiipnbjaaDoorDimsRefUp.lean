/-
  The contracts of the chapter's Sound and Up, and of the statements' own 'heavy'.
-/
import Derived.Test.YtfchpcmiipnbjaaDoorDimsRefOne
import Derived.Test.YtfchpcmiipnbjaaDoorDimsUp
import Derived.Test.YtfchpcmiipnbjaaDoorDimsKnown
namespace Go.Proofs.YtfchpcmiipnbjaaDoor.dims
open Go.ChangeShapes Go.WideShapes Go.ChangeAt Go.RowKit Go.Deep
set_option linter.unusedVariables false
set_option maxRecDepth 100000

set_option maxHeartbeats 2000000 in
theorem refSound_any (a : Option Addr) (n cap : Nat) (ds : List Dm) (w : World) (hI : DimsIn w a ds) (hn : ds.length = n) (hm : n ≤ 9223372036854775807) :
    Calls Tryd.prog 41 #[.slice a n cap] w fun e w' => e = .returned (.bool (sndL ds)) ∧ Below w.heap.size w w' := by
  have HN : Hid (ds.length = n) := hn
  have HI : Aside (DimsIn w a ds) := hI
  clear hn hI
  go_enter Tryd.func41, Tryd.ntmps41
  go_wp2_with fail
  go_loopg [3] n (fun g1 vi wr => ∃ (k : Nat), vi = .int .i64 k ∧ k ≤ n ∧ n - k ≤ g1 ∧ Aside (Below w.heap.size w wr ∧ ∀ i, i < k → sndD (dn ds i) = true))
  case atStart => exact ⟨0, rfl, Nat.zero_le _, Nat.le_refl _, Below.refl _ _, fun i hi => by omega⟩
  case round =>
    obtain ⟨k, rfl, hk, hg1, SK⟩ := hrel
    by_cases hlt : k < n
    · have hltz : (k : Int) < (n : Int) := by omega
      have hkl : k < ds.length := by rw [HN.out]; exact hlt
      obtain ⟨b, off, ha, hc⟩ := (HI.out.keep SK.out.1).get hkl
      subst ha
      obtain ⟨r0, r1, r2, r3⟩ := hc k hkl
      clear hc
      have hC := one_any (dn ds k).sz (dn ds k).a (dn ds k).cap (dn ds k).l wr r2 r3
      obtain ⟨s, hs⟩ : ∃ s, sndB (dn ds k).sz (dn ds k).l = s := ⟨_, rfl⟩
      rw [hs] at hC
      have hs' : sndD (dn ds k) = s := hs
      clear hs
      generalize (dn ds k).sz = t1 at r0 hC
      generalize (dn ds k).a = t2 at r1 hC
      generalize (dn ds k).l.length = t3 at r1 hC
      generalize (dn ds k).cap = t4 at r1 hC
      clear r2 r3
      cases s with
      | true =>
        have S2 : Aside (∀ i, i < k + 1 → sndD (dn ds i) = true) := fun i hi => by
          by_cases e : i = k
          · subst e; exact hs'
          · exact SK.out.2 i (by omega)
        clear hs'
        go_wp2_with fail
        refine hC.mono ?_
        rintro e w1 ⟨rfl, hb1⟩
        have SB : Aside (Below w.heap.size w w1) := SK.out.1.trans (hb1.mono SK.out.1.size)
        clear hC hb1
        go_wp2
        go_roundg (n - (k + 1))
        case measure => omega
        case rel => exact ⟨k + 1, by go_num, by omega, by omega, SB.out, S2.out⟩
      | false =>
        have E : Hid (sndL ds = false) := by show _ = _; unfold sndL; rw [all_not hkl hs']; simp
        clear hs'
        go_wp2_with fail
        refine hC.mono ?_
        rintro e w1 ⟨rfl, hb1⟩
        have SB : Aside (Below w.heap.size w w1) := SK.out.1.trans (hb1.mono SK.out.1.size)
        clear hC hb1
        go_wp2
        go_ret
        exact ⟨ret_bool E.out.symm, SB.out⟩
    · have hltz : ¬ (k : Int) < (n : Int) := by omega
      have hA : ds.all sndD = true := all_of fun i hi => SK.out.2 i (by have := HN.out; omega)
      have EA : Hid (sndL ds = (decide (1 ≤ n) && decide (n ≤ 4))) := by show _ = _; unfold sndL; rw [hA, HN.out, Bool.and_true]
      clear hA
      by_cases h1 : 1 ≤ n
      · by_cases h2 : n ≤ 4
        · have h1z : (1 : Int) ≤ (n : Int) := by omega
          have h2z : (n : Int) ≤ 4 := by omega
          have E : Hid (sndL ds = true) := by show _ = _; rw [EA.out]; simp [h1, h2]
          go_wp2
          go_ret
          exact ⟨ret_bool E.out.symm, SK.out.1⟩
        · have h1z : (1 : Int) ≤ (n : Int) := by omega
          have h2z : ¬ (n : Int) ≤ 4 := by omega
          have E : Hid (sndL ds = false) := by show _ = _; rw [EA.out]; simp [h2]
          go_wp2
          go_ret
          exact ⟨ret_bool E.out.symm, SK.out.1⟩
      · have h1z : ¬ (1 : Int) ≤ (n : Int) := by omega
        have E : Hid (sndL ds = false) := by show _ = _; rw [EA.out]; simp [h1]
        go_wp2
        go_ret
        exact ⟨ret_bool E.out.symm, SK.out.1⟩

set_option maxHeartbeats 4000000 in
theorem refUp_any (sz : Int) (a : Option Addr) (n cap : Nat) (l : List Int) (f t v : Int) (w : World) (hI : Ints w a l) (hn : l.length = n) (hm : n ≤ 9223372036854775807) (hv : v ≤ 9223372036854775807) :
    Calls Tryd.prog 61 #[.agg #[.int .i64 sz, .slice a n cap], .int .i64 f, .int .i64 t, .int .i64 v] w fun e w' => e = .returned (.int .i64 (upV sz l f t v)) ∧ Below w.heap.size w w' := by
  have ho := fun W (h : Ints W a l) => one_any sz a cap l W h (by omega)
  have HB0 : Aside (Below w.heap.size w (w.alloc (.cells #[.int .i64 sz, .slice a n cap] 40))) := by show Below _ _ _; (repeat (first | with_reducible exact Below.refl _ _ | (with_reducible refine Below.drew ?_) | (with_reducible refine Below.alloc ?_ (by first | omega | (simp; done) | (simp; omega)) _) | (with_reducible refine Below.setCell ?_ (by first | exact Nat.le_refl _ | omega | (simp; done) | (simp; omega)) _)))
  rw [hn] at ho
  have HI : Aside (Ints w a l) := hI
  have HN : Hid (l.length = n) := hn
  by_cases h : sndB sz l = true
  · have hS := (sndB_iff sz l).1 h
    have hn4 : n ≤ 4 := by have := hS.2.2.1; omega
    have HS : Aside (∀ i, i < l.length → StepOk l i) := hS.2.2.2
    have EU : Hid (upV sz l f t v = raiseV l f t v) := if_pos h
    rw [h] at ho
    clear hn hI h hS hm
    by_cases hbad : f < 0 ∨ t < f ∨ (n : Int) + 1 < t ∨ v < 0
    · have E : Hid (upV sz l f t v = -1) := by show _ = _; rw [EU.out]; unfold raiseV; rw [HN.out, if_pos hbad]
      by_cases b1 : f < 0
      · as_aux_lemma =>
        go_enter Tryd.func61, Tryd.ntmps61
        go_wp2_with fail
        refine (ho _ (HI.out.keep HB0.out)).mono ?_
        rintro e w1 ⟨rfl, hb1⟩
        have c0 : w1.cell? ⟨w.heap.size, 0, none⟩ = some (.int .i64 sz) := (hb1.cell (p := ⟨w.heap.size, 0, none⟩) (by simp)).trans (by simp [go_sem])
        have c1 : w1.cell? ⟨w.heap.size, 1, none⟩ = some (.slice a n cap) := (hb1.cell (p := ⟨w.heap.size, 1, none⟩) (by simp)).trans (by simp [go_sem])
        have SB : Aside (Below w.heap.size w w1) := HB0.out.trans (hb1.mono (by simp))
        clear hb1 ho
        go_wp2
        go_ret
        exact ⟨ret_int E.out.symm, SB.out⟩
      by_cases b2 : t < f
      · as_aux_lemma =>
        go_enter Tryd.func61, Tryd.ntmps61
        go_wp2_with fail
        refine (ho _ (HI.out.keep HB0.out)).mono ?_
        rintro e w1 ⟨rfl, hb1⟩
        have c0 : w1.cell? ⟨w.heap.size, 0, none⟩ = some (.int .i64 sz) := (hb1.cell (p := ⟨w.heap.size, 0, none⟩) (by simp)).trans (by simp [go_sem])
        have c1 : w1.cell? ⟨w.heap.size, 1, none⟩ = some (.slice a n cap) := (hb1.cell (p := ⟨w.heap.size, 1, none⟩) (by simp)).trans (by simp [go_sem])
        have SB : Aside (Below w.heap.size w w1) := HB0.out.trans (hb1.mono (by simp))
        clear hb1 ho
        go_wp2
        go_ret
        exact ⟨ret_int E.out.symm, SB.out⟩
      by_cases b3 : (n : Int) + 2 ≤ t
      · as_aux_lemma =>
        go_enter Tryd.func61, Tryd.ntmps61
        go_wp2_with fail
        refine (ho _ (HI.out.keep HB0.out)).mono ?_
        rintro e w1 ⟨rfl, hb1⟩
        have c0 : w1.cell? ⟨w.heap.size, 0, none⟩ = some (.int .i64 sz) := (hb1.cell (p := ⟨w.heap.size, 0, none⟩) (by simp)).trans (by simp [go_sem])
        have c1 : w1.cell? ⟨w.heap.size, 1, none⟩ = some (.slice a n cap) := (hb1.cell (p := ⟨w.heap.size, 1, none⟩) (by simp)).trans (by simp [go_sem])
        have SB : Aside (Below w.heap.size w w1) := HB0.out.trans (hb1.mono (by simp))
        clear hb1 ho
        go_wp2_with fail
        refine (refLevels_bel sz a n cap ((n : Int) + 2) _ (by omega) rfl).mono ?_
        rintro e w2 ⟨rfl, hb2⟩
        have c0 := (hb2.cell (p := ⟨w.heap.size, 0, none⟩) (cell_lt c0)).trans c0
        have c1 := (hb2.cell (p := ⟨w.heap.size, 1, none⟩) (cell_lt c1)).trans c1
        have SB : Aside (Below w.heap.size w w2) := SB.out.trans (hb2.mono SB.out.size)
        clear hb2
        go_wp2
        go_ret
        exact ⟨ret_int E.out.symm, SB.out⟩
      have b4 : v < 0 := by omega
      go_enter Tryd.func61, Tryd.ntmps61
      go_wp2_with fail
      refine (ho _ (HI.out.keep HB0.out)).mono ?_
      rintro e w1 ⟨rfl, hb1⟩
      have c0 : w1.cell? ⟨w.heap.size, 0, none⟩ = some (.int .i64 sz) := (hb1.cell (p := ⟨w.heap.size, 0, none⟩) (by simp)).trans (by simp [go_sem])
      have c1 : w1.cell? ⟨w.heap.size, 1, none⟩ = some (.slice a n cap) := (hb1.cell (p := ⟨w.heap.size, 1, none⟩) (by simp)).trans (by simp [go_sem])
      have SB : Aside (Below w.heap.size w w1) := HB0.out.trans (hb1.mono (by simp))
      clear hb1 ho
      go_wp2_with fail
      refine (refLevels_bel sz a n cap ((n : Int) + 2) _ (by omega) rfl).mono ?_
      rintro e w2 ⟨rfl, hb2⟩
      have c0 := (hb2.cell (p := ⟨w.heap.size, 0, none⟩) (cell_lt c0)).trans c0
      have c1 := (hb2.cell (p := ⟨w.heap.size, 1, none⟩) (cell_lt c1)).trans c1
      have SB : Aside (Below w.heap.size w w2) := SB.out.trans (hb2.mono SB.out.size)
      clear hb2
      go_wp2
      go_ret
      exact ⟨ret_int E.out.symm, SB.out⟩
    have b1 : ¬ f < 0 := by omega
    have b2 : ¬ t < f := by omega
    have b3 : ¬ (n : Int) + 2 ≤ t := by omega
    have b4 : ¬ v < 0 := by omega
    by_cases g1 : f = t
    · as_aux_lemma =>
        have E : Hid (upV sz l f t v = v) := by show _ = _; rw [EU.out]; unfold raiseV; rw [HN.out, if_neg hbad, if_pos g1]
        clear hbad EU
        subst g1
        go_enter Tryd.func61, Tryd.ntmps61
        go_wp2_with fail
        refine (ho _ (HI.out.keep HB0.out)).mono ?_
        rintro e w1 ⟨rfl, hb1⟩
        have c0 : w1.cell? ⟨w.heap.size, 0, none⟩ = some (.int .i64 sz) := (hb1.cell (p := ⟨w.heap.size, 0, none⟩) (by simp)).trans (by simp [go_sem])
        have c1 : w1.cell? ⟨w.heap.size, 1, none⟩ = some (.slice a n cap) := (hb1.cell (p := ⟨w.heap.size, 1, none⟩) (by simp)).trans (by simp [go_sem])
        have SB : Aside (Below w.heap.size w w1) := HB0.out.trans (hb1.mono (by simp))
        clear hb1 ho
        go_wp2_with fail
        refine (refLevels_bel sz a n cap ((n : Int) + 2) _ (by omega) rfl).mono ?_
        rintro e w2 ⟨rfl, hb2⟩
        have c0 := (hb2.cell (p := ⟨w.heap.size, 0, none⟩) (cell_lt c0)).trans c0
        have c1 := (hb2.cell (p := ⟨w.heap.size, 1, none⟩) (cell_lt c1)).trans c1
        have SB : Aside (Below w.heap.size w w2) := SB.out.trans (hb2.mono SB.out.size)
        clear hb2
        go_wp2
        go_ret
        exact ⟨ret_int E.out.symm, SB.out⟩
    have g1' : (f == t) = false := by simpa using g1
    by_cases g2 : t = (n : Int) + 1
    · as_aux_lemma =>
        have E : Hid (upV sz l f t v = 0) := by show _ = _; rw [EU.out]; unfold raiseV; rw [HN.out, if_neg hbad, if_neg g1, if_pos g2]
        clear hbad EU
        have g2' : (t == (n : Int) + 2 - 1) = true := by
          have : t = (n : Int) + 2 - 1 := by omega
          simpa using this
        have HG : Hid (t = (n : Int) + 1) := g2
        clear g2 g1
        go_enter Tryd.func61, Tryd.ntmps61
        go_wp2_with fail
        refine (ho _ (HI.out.keep HB0.out)).mono ?_
        rintro e w1 ⟨rfl, hb1⟩
        have c0 : w1.cell? ⟨w.heap.size, 0, none⟩ = some (.int .i64 sz) := (hb1.cell (p := ⟨w.heap.size, 0, none⟩) (by simp)).trans (by simp [go_sem])
        have c1 : w1.cell? ⟨w.heap.size, 1, none⟩ = some (.slice a n cap) := (hb1.cell (p := ⟨w.heap.size, 1, none⟩) (by simp)).trans (by simp [go_sem])
        have SB : Aside (Below w.heap.size w w1) := HB0.out.trans (hb1.mono (by simp))
        clear hb1 ho
        go_wp2_with fail
        refine (refLevels_bel sz a n cap ((n : Int) + 2) _ (by omega) rfl).mono ?_
        rintro e w2 ⟨rfl, hb2⟩
        have c0 := (hb2.cell (p := ⟨w.heap.size, 0, none⟩) (cell_lt c0)).trans c0
        have c1 := (hb2.cell (p := ⟨w.heap.size, 1, none⟩) (cell_lt c1)).trans c1
        have SB : Aside (Below w.heap.size w w2) := SB.out.trans (hb2.mono SB.out.size)
        clear hb2
        go_wp2_with fail
        refine (refLevels_bel sz a n cap ((n : Int) + 2) _ (by omega) rfl).mono ?_
        rintro e w3 ⟨rfl, hb3⟩
        have c0 := (hb3.cell (p := ⟨w.heap.size, 0, none⟩) (cell_lt c0)).trans c0
        have c1 := (hb3.cell (p := ⟨w.heap.size, 1, none⟩) (cell_lt c1)).trans c1
        have SB : Aside (Below w.heap.size w w3) := SB.out.trans (hb3.mono SB.out.size)
        clear hb3
        go_wp2
        go_ret
        exact ⟨ret_int E.out.symm, SB.out⟩
    obtain ⟨i, rfl⟩ : ∃ i : Nat, f = (i : Int) := ⟨f.toNat, by omega⟩
    obtain ⟨j, rfl⟩ : ∃ j : Nat, t = (j : Int) := ⟨t.toNat, by omega⟩
    have E0 : Hid (upV sz l i j v = v / (dv l j / dv l i)) := by show _ = _; rw [EU.out]; unfold raiseV; rw [HN.out, if_neg hbad, if_neg g1, if_neg g2]; simp
    have hjl : j ≤ n := by omega
    have hj1 : 1 ≤ j := by omega
    have hij : i ≤ j := by omega
    have g2' : ((j : Int) == (n : Int) + 2 - 1) = false := by
      have : ¬ (j : Int) = (n : Int) + 2 - 1 := by omega
      simpa using this
    have hD := dv_div HS.out (j := i) (k := j) (by omega) (by have := HN.out; omega)
    have hDj := dv_le HS.out (k := j) (by have := HN.out; omega)
    have hDi := dv_le HS.out (k := i) (by have := HN.out; omega)
    obtain ⟨jj, hjj⟩ : ∃ jj, j = jj + 1 := ⟨j - 1, by omega⟩
    subst hjj
    have hjc : jj < l.length := by have := HN.out; omega
    obtain ⟨b, off, ha, hc⟩ := HI.out.get hjc
    subst ha
    have e1 : ((jj + 1 : Nat) : Int) - 1 = (jj : Int) := by omega
    have hjz : (jj : Int) < (n : Int) := by omega
    have hv0 : 0 ≤ v := by omega
    obtain ⟨x, hx⟩ : ∃ x, nth l jj = x := ⟨_, rfl⟩
    have hxd : dv l (jj + 1) = x := hx
    rw [hxd] at hD hDj
    have HC : Aside (∀ i, i < l.length → w.cell? ⟨b, off + i, none⟩ = some (.int .i64 (nth l i))) := hc
    clear hc hbad g1 g2 EU b1 b2 b3 b4
    rcases Nat.eq_zero_or_pos i with hi0 | hi0
    · as_aux_lemma =>
        subst hi0
        have hx1 : 1 ≤ x := hDj.1
        have E : Hid (upV sz l (0 : Nat) (jj + 1 : Nat) v = v / x) := by show _ = _; rw [E0.out, hxd]; simp [dv]
        have rx := HC.out jj hjc
        rw [hx] at rx
        have b1 : ¬ ((0 : Nat) : Int) < 0 := by omega
        have b2 : ¬ ((jj + 1 : Nat) : Int) < ((0 : Nat) : Int) := by omega
        have b3 : ¬ (n : Int) + 2 ≤ ((jj + 1 : Nat) : Int) := by omega
        have b4 : ¬ v < 0 := by omega
        clear hD hDi hDj hx hxd E0
        go_enter Tryd.func61, Tryd.ntmps61
        go_wp2_with fail
        refine (ho _ (HI.out.keep HB0.out)).mono ?_
        rintro e w1 ⟨rfl, hb1⟩
        have c0 : w1.cell? ⟨w.heap.size, 0, none⟩ = some (.int .i64 sz) := (hb1.cell (p := ⟨w.heap.size, 0, none⟩) (by simp)).trans (by simp [go_sem])
        have c1 : w1.cell? ⟨w.heap.size, 1, none⟩ = some (.slice (some ⟨b, off, none⟩) n cap) := (hb1.cell (p := ⟨w.heap.size, 1, none⟩) (by simp)).trans (by simp [go_sem])
        have SB : Aside (Below w.heap.size w w1) := HB0.out.trans (hb1.mono (by simp))
        clear hb1 ho
        go_wp2_with fail
        refine (refLevels_bel sz _ n cap ((n : Int) + 2) _ (by omega) rfl).mono ?_
        rintro e w2 ⟨rfl, hb2⟩
        have c0 := (hb2.cell (p := ⟨w.heap.size, 0, none⟩) (cell_lt c0)).trans c0
        have c1 := (hb2.cell (p := ⟨w.heap.size, 1, none⟩) (cell_lt c1)).trans c1
        have SB : Aside (Below w.heap.size w w2) := SB.out.trans (hb2.mono SB.out.size)
        clear hb2
        go_wp2_with fail
        refine (refLevels_bel sz _ n cap ((n : Int) + 2) _ (by omega) rfl).mono ?_
        rintro e w3 ⟨rfl, hb3⟩
        have c0 := (hb3.cell (p := ⟨w.heap.size, 0, none⟩) (cell_lt c0)).trans c0
        have c1 := (hb3.cell (p := ⟨w.heap.size, 1, none⟩) (cell_lt c1)).trans c1
        have SB : Aside (Below w.heap.size w w3) := SB.out.trans (hb3.mono SB.out.size)
        clear hb3
        have rx := (SB.out.cell (p := ⟨b, off + jj, none⟩) (cell_lt rx)).trans rx
        go_wp2
        go_ret
        exact ⟨ret_int E.out.symm, SB.out⟩
    · obtain ⟨ii, hii⟩ : ∃ ii, i = ii + 1 := ⟨i - 1, by omega⟩
      subst hii
      have hic : ii < l.length := by have := HN.out; omega
      obtain ⟨y, hy⟩ : ∃ y, nth l ii = y := ⟨_, rfl⟩
      have hyd : dv l (ii + 1) = y := hy
      rw [hyd] at hD hDi
      have hx0 : 0 ≤ x := by omega
      have hy1 : 1 ≤ y := hDi.1
      have hd1 : 1 ≤ x / y := hD.2.1
      have q1 := quo_le hx0 hy1
      obtain ⟨d, hd⟩ : ∃ d, x / y = d := ⟨_, rfl⟩
      rw [hd] at hd1 q1
      have q2 := quo_le hv0 hd1
      obtain ⟨q, hq⟩ : ∃ q, v / d = q := ⟨_, rfl⟩
      have E : Hid (upV sz l (ii + 1 : Nat) (jj + 1 : Nat) v = q) := by show _ = _; rw [E0.out, hxd, hyd, hd, hq]
      have w1' : IntKind.i64.wrap (x.tdiv y) = d := by rw [IntWalk.i64_quo x y ⟨hx0, by omega, hy1⟩]; exact hd
      have w2' : IntKind.i64.wrap (v.tdiv d) = q := by rw [IntWalk.i64_quo v d ⟨hv0, hv, hd1⟩]; exact hq
      have y0' : ¬ y = 0 := by omega
      have d0' : ¬ d = 0 := by omega
      have e2 : ((ii + 1 : Nat) : Int) - 1 = (ii : Int) := by omega
      have hiz : (ii : Int) < (n : Int) := by omega
      have i0 : (((ii + 1 : Nat) : Int) == 0) = false := by
        have : ¬ ((ii + 1 : Nat) : Int) = 0 := by omega
        simpa using this
      have rx := HC.out jj hjc
      have ry := HC.out ii hic
      rw [hx] at rx
      rw [hy] at ry
      have b1 : ¬ ((ii + 1 : Nat) : Int) < 0 := by omega
      have b2 : ¬ ((jj + 1 : Nat) : Int) < ((ii + 1 : Nat) : Int) := by omega
      have b3 : ¬ (n : Int) + 2 ≤ ((jj + 1 : Nat) : Int) := by omega
      have b4 : ¬ v < 0 := by omega
      clear hD hDi hDj hx hxd E0 hy hyd hd hq
      go_enter Tryd.func61, Tryd.ntmps61
      go_wp2_with fail
      refine (ho _ (HI.out.keep HB0.out)).mono ?_
      rintro e w1 ⟨rfl, hb1⟩
      have c0 : w1.cell? ⟨w.heap.size, 0, none⟩ = some (.int .i64 sz) := (hb1.cell (p := ⟨w.heap.size, 0, none⟩) (by simp)).trans (by simp [go_sem])
      have c1 : w1.cell? ⟨w.heap.size, 1, none⟩ = some (.slice (some ⟨b, off, none⟩) n cap) := (hb1.cell (p := ⟨w.heap.size, 1, none⟩) (by simp)).trans (by simp [go_sem])
      have SB : Aside (Below w.heap.size w w1) := HB0.out.trans (hb1.mono (by simp))
      clear hb1 ho
      go_wp2_with fail
      refine (refLevels_bel sz _ n cap ((n : Int) + 2) _ (by omega) rfl).mono ?_
      rintro e w2 ⟨rfl, hb2⟩
      have c0 := (hb2.cell (p := ⟨w.heap.size, 0, none⟩) (cell_lt c0)).trans c0
      have c1 := (hb2.cell (p := ⟨w.heap.size, 1, none⟩) (cell_lt c1)).trans c1
      have SB : Aside (Below w.heap.size w w2) := SB.out.trans (hb2.mono SB.out.size)
      clear hb2
      go_wp2_with fail
      refine (refLevels_bel sz _ n cap ((n : Int) + 2) _ (by omega) rfl).mono ?_
      rintro e w3 ⟨rfl, hb3⟩
      have c0 := (hb3.cell (p := ⟨w.heap.size, 0, none⟩) (cell_lt c0)).trans c0
      have c1 := (hb3.cell (p := ⟨w.heap.size, 1, none⟩) (cell_lt c1)).trans c1
      have SB : Aside (Below w.heap.size w w3) := SB.out.trans (hb3.mono SB.out.size)
      clear hb3
      have rx := (SB.out.cell (p := ⟨b, off + jj, none⟩) (cell_lt rx)).trans rx
      have ry := (SB.out.cell (p := ⟨b, off + ii, none⟩) (cell_lt ry)).trans ry
      go_wp2_with fail
      go_quiet (fail)
      go_wp2
      go_ret
      exact ⟨ret_int E.out.symm, below_drewN SB.out nq⟩
  · have h' : sndB sz l = false := by simpa using h
    have E : Hid (upV sz l f t v = -1) := if_neg h
    rw [h'] at ho
    clear hn hI h h'
    go_enter Tryd.func61, Tryd.ntmps61
    go_wp2_with fail
    refine (ho _ (HI.out.keep HB0.out)).mono ?_
    rintro e w1 ⟨rfl, hb1⟩
    have c0 : w1.cell? ⟨w.heap.size, 0, none⟩ = some (.int .i64 sz) := (hb1.cell (p := ⟨w.heap.size, 0, none⟩) (by simp)).trans (by simp [go_sem])
    have c1 : w1.cell? ⟨w.heap.size, 1, none⟩ = some (.slice a n cap) := (hb1.cell (p := ⟨w.heap.size, 1, none⟩) (by simp)).trans (by simp [go_sem])
    have SB : Aside (Below w.heap.size w w1) := HB0.out.trans (hb1.mono (by simp))
    clear hb1 ho
    go_wp2
    go_ret
    exact ⟨ret_int E.out.symm, SB.out⟩
end Go.Proofs.YtfchpcmiipnbjaaDoor.dims
