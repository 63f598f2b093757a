/-
  The chapter's SoundNodes, SoundFacts, SoundEntries, spans.
-/
import Derived.Test.YtlokamblbhooaaaCodeSndE
import Derived.BigQuiet
namespace Go.Proofs.Ytlokamblbhooaaa.code
open Go.ChangeShapes Go.WideShapes Go.ChangeAt Go.RowKit Go.Deep
open Go.Proofs.Ytlokamblbhooaaa.dims (nth Ints cell_lt vals vals_len vals_get vals_one vals_app own_below own_mono own_out own_apart RowOut ret_bool ret_int)
set_option linter.unusedVariables false
set_option maxRecDepth 100000
set_option linter.unusedSimpArgs false

set_option maxHeartbeats 8000000 in
theorem refSoundNodes_any (a : Option Addr) (n c : Nat) (l : List Int) (w : World) (hI : Ints w a l) (hn : l.length = n) (hm : n ≤ 9223372036854775807) :
    Calls Try.prog 33 #[.slice a n c] w fun e w' => e = .returned (.bool (nodesOk l)) ∧ Below w.heap.size w w' := by
  have HI : Aside (Ints w a l ∧ l.length = n) := ⟨hI, hn⟩
  clear hI hn
  go_enter Try.func33, Try.ntmps33
  go_wp2_with fail
  go_loopg [3] n (fun g1 vi wr => ∃ (k : Nat), vi = .int .i64 k ∧ k ≤ n ∧ n - k ≤ g1 ∧ Aside (Below w.heap.size w wr ∧ ∀ i, i < k → ndGood l i))
  case atStart => exact ⟨0, rfl, Nat.zero_le _, Nat.le_refl _, Below.refl _ _, fun i hi => by omega⟩
  case round =>
    obtain ⟨k, rfl, hk, hg1, SK⟩ := hrel
    by_cases hlt : k < n
    · have hltz : (k : Int) < (n : Int) := by omega
      have hkl : k < l.length := by rw [HI.out.2]; exact hlt
      obtain ⟨b, off, ha, hc⟩ := (HI.out.1.keep SK.out.1).get hkl
      subst ha
      have r0 := hc k hkl
      by_cases h0 : nth l k < 0
      · have E : Hid (nodesOk l = false) := nodesOk_not hkl fun h => by have := h.1; omega
        generalize nth l k = x at r0 h0
        have d0 : decide (x < 0) = true := decide_eq_true h0
        clear hc
        go_wp2_with fail
        go_quiet (fail)
        have SB : Aside (Below w.heap.size w (wr.drewN nq)) := below_drewN SK.out.1 nq
        go_wp2
        go_ret
        exact ⟨ret_bool E.out.symm, SB.out⟩
      by_cases h5 : 5 < nth l k
      · have E : Hid (nodesOk l = false) := nodesOk_not hkl fun h => by have := h.1; omega
        generalize nth l k = x at r0 h0 h5
        have d0 : decide (x < 0) = false := decide_eq_false h0
        have d1 : decide (5 < x) = true := decide_eq_true h5
        clear hc
        go_wp2_with fail
        go_quiet (fail)
        have SB : Aside (Below w.heap.size w (wr.drewN nq)) := below_drewN SK.out.1 nq
        go_wp2
        go_ret
        exact ⟨ret_bool E.out.symm, SB.out⟩
      by_cases hk0 : k = 0
      · have S2 : Aside (∀ i, i < k + 1 → ndGood l i) := fun i hi => by
          obtain rfl : i = k := by omega
          exact ⟨by omega, fun h => by omega⟩
        generalize nth l k = x at r0 h0 h5
        have d0 : decide (x < 0) = false := decide_eq_false h0
        have d1 : decide (5 < x) = false := decide_eq_false h5
        have hk0z : ¬ (0 : Int) < (k : Int) := by omega
        have d2 : decide ((0 : Int) < (k : Int)) = false := decide_eq_false hk0z
        have d3 : decide (0 < k) = false := decide_eq_false (by omega)
        clear hc hk0
        go_wp2_with fail
        go_quiet (fail)
        have SB : Aside (Below w.heap.size w (wr.drewN nq)) := below_drewN SK.out.1 nq
        go_wp2
        go_roundg (n - (k + 1))
        case measure => omega
        case rel => exact ⟨k + 1, by go_num, by omega, by omega, SB.out, S2.out⟩
      obtain ⟨j, hj⟩ : ∃ j, k = j + 1 := ⟨k - 1, by omega⟩
      have HJ : Hid (k = j + 1) := hj
      have r1 := hc j (by omega)
      have hj1 : (k : Int) - 1 = (j : Int) := by omega
      have hj0 : (0 : Int) < (k : Int) := by omega
      have hjj : (0 : Int) ≤ (j : Int) ∧ (j : Int) < (n : Int) := by omega
      have d2 : decide ((0 : Int) < (k : Int)) = true := decide_eq_true hj0
      have d3 : decide (0 < k) = true := decide_eq_true (by omega)
      clear hj hk0
      by_cases hle : nth l k ≤ nth l j
      · have E : Hid (nodesOk l = false) := nodesOk_not hkl fun h => by
          have h1 := h.2 (by omega)
          have h2 := HJ.out
          rw [show k - 1 = j by omega] at h1; omega
        generalize nth l k = x at r0 h0 h5 hle
        generalize nth l j = y at r1 hle
        have d0 : decide (x < 0) = false := decide_eq_false h0
        have d1 : decide (5 < x) = false := decide_eq_false h5
        have d4 : decide (x ≤ y) = true := decide_eq_true hle
        clear hc
        go_wp2_with fail
        go_quiet (fail)
        have SB : Aside (Below w.heap.size w (wr.drewN nq)) := below_drewN SK.out.1 nq
        go_wp2
        go_ret
        exact ⟨ret_bool E.out.symm, SB.out⟩
      · have S2 : Aside (∀ i, i < k + 1 → ndGood l i) := fun i hi => by
          by_cases e : i = k
          · subst e
            refine ⟨by omega, fun _ => ?_⟩
            rw [show i - 1 = j by have := HJ.out; omega]; omega
          · exact SK.out.2 i (by omega)
        generalize nth l k = x at r0 h0 h5 hle
        generalize nth l j = y at r1 hle
        have d0 : decide (x < 0) = false := decide_eq_false h0
        have d1 : decide (5 < x) = false := decide_eq_false h5
        have d4 : decide (x ≤ y) = false := decide_eq_false hle
        clear hc
        go_wp2_with fail
        go_quiet (fail)
        have SB : Aside (Below w.heap.size w (wr.drewN nq)) := below_drewN SK.out.1 nq
        go_wp2
        go_roundg (n - (k + 1))
        case measure => omega
        case rel => exact ⟨k + 1, by go_num, by omega, by omega, SB.out, S2.out⟩
    · have hltz : ¬ (k : Int) < (n : Int) := by omega
      have E : Hid (nodesOk l = true) := (nodesOk_iff l).2 fun i hi => SK.out.2 i (by have := HI.out.2; omega)
      go_wp2
      go_ret
      exact ⟨ret_bool E.out.symm, SK.out.1⟩

set_option maxHeartbeats 8000000 in
theorem refSoundFacts_any (a : Option Addr) (n c : Nat) (fs : List Ft) (w : World) (hI : FactsIn w a fs) (hn : fs.length = n) (hm : n ≤ 9223372036854775807) :
    Calls Try.prog 34 #[.slice a n c] w fun e w' => e = .returned (.bool (factsOk (fs.map pf))) ∧ w' = w := by
  have HI : Aside (FactsIn w a fs ∧ fs.length = n) := ⟨hI, hn⟩
  clear hI hn
  go_enter Try.func34, Try.ntmps34
  go_wp2_with fail
  go_loopg [3] n (fun g1 vi wr => ∃ (k : Nat), vi = .int .i64 k ∧ k ≤ n ∧ n - k ≤ g1 ∧ wr = w ∧ Aside (∀ i, i < k → keyOk (ftn fs i).k = true))
  case atStart => exact ⟨0, rfl, Nat.zero_le _, Nat.le_refl _, rfl, fun i hi => by omega⟩
  case round =>
    obtain ⟨k, rfl, hk, hg1, hwr, SK⟩ := hrel
    have hwr2 := hwr.symm
    clear hwr
    subst hwr2
    by_cases hlt : k < n
    · have hltz : (k : Int) < (n : Int) := by omega
      have hkl : k < fs.length := by rw [HI.out.2]; exact hlt
      obtain ⟨b, off, ha, hc⟩ := HI.out.1.get hkl
      subst ha
      obtain ⟨r0, r1, r2⟩ := hc k hkl
      have KO : Aside (Ints w (ftn fs k).a (ftn fs k).k) := r2.mem
      have hml := r2.len
      have HNO : Aside (keyOk (ftn fs k).k = false → factsOk (fs.map pf) = false) := fun h => factsOk_not (List.mem_map.2 ⟨_, ftn_mem hkl, rfl⟩) h
      have HOK : Aside (keyOk (ftn fs k).k = true → ∀ i, i < k + 1 → keyOk (ftn fs i).k = true) := fun h i hi => by
        by_cases e : i = k
        · subst e; exact h
        · exact SK.out i (by omega)
      clear hc r1 r2 SK
      generalize (ftn fs k).a = fa at r0 KO
      generalize (ftn fs k).cap = fcap at r0
      generalize (ftn fs k).k = fk at r0 KO HNO HOK hml
      obtain ⟨m, hm2⟩ : ∃ m, fk.length = m := ⟨_, rfl⟩
      have HM : Hid (fk.length = m) := hm2
      rw [hm2] at r0 hml
      clear hm2
      go_wp2_with fail
      go_loopg [4] m (fun g2 vi wr => ∃ (j : Nat), vi = .int .i64 j ∧ j ≤ m ∧ m - j ≤ g2 ∧ wr = w ∧ Aside (∀ i, i < j → 0 ≤ nth fk i ∧ nth fk i ≤ 9999))
      case atStart => exact ⟨0, rfl, Nat.zero_le _, Nat.le_refl _, rfl, fun i hi => by omega⟩
      case round =>
        obtain ⟨j, rfl, hj, hg2, hwr, SJ⟩ := hrel
        have hwr2 := hwr.symm
        clear hwr
        subst hwr2
        by_cases hlt2 : j < m
        · have hltz2 : (j : Int) < (m : Int) := by omega
          have hjl : j < fk.length := by rw [HM.out]; exact hlt2
          obtain ⟨b2, off2, ha2, hc2⟩ := KO.out.get hjl
          subst ha2
          have p0 := hc2 j hjl
          clear hc2
          by_cases h0 : nth fk j < 0
          · have E : Hid (factsOk (fs.map pf) = false) := HNO.out (keyOk_not hjl fun h => by omega)
            generalize nth fk j = x at p0 h0
            clear HNO HOK SJ
            go_wp2
            go_ret
            exact ⟨ret_bool E.out.symm, rfl⟩
          by_cases h9 : 9999 < nth fk j
          · have E : Hid (factsOk (fs.map pf) = false) := HNO.out (keyOk_not hjl fun h => by omega)
            generalize nth fk j = x at p0 h0 h9
            clear HNO HOK SJ
            go_wp2
            go_ret
            exact ⟨ret_bool E.out.symm, rfl⟩
          have S2 : Aside (∀ i, i < j + 1 → 0 ≤ nth fk i ∧ nth fk i ≤ 9999) := fun i hi => by
            by_cases e : i = j
            · subst e; omega
            · exact SJ.out i (by omega)
          generalize nth fk j = x at p0 h0 h9
          clear HNO HOK SJ
          go_wp2
          go_roundg (m - (j + 1))
          case measure => omega
          case rel => exact ⟨j + 1, by go_num, by omega, by omega, rfl, S2⟩
        · have hltz2 : ¬ (j : Int) < (m : Int) := by omega
          by_cases h4 : 4 < m
          · have h4z : (4 : Int) < (m : Int) := by omega
            have E : Hid (factsOk (fs.map pf) = false) := HNO.out (keyOk_long (by have := HM.out; omega))
            clear HNO HOK SJ
            go_wp2
            go_ret
            exact ⟨ret_bool E.out.symm, rfl⟩
          · have h4z : ¬ (4 : Int) < (m : Int) := by omega
            have S2 : Aside (∀ i, i < k + 1 → keyOk (ftn fs i).k = true) := HOK.out (keyOk_at (by have := HM.out; omega) fun i hi => SJ.out i (by have := HM.out; omega))
            clear HNO HOK SJ
            go_wp2
            go_roundg (n - (k + 1))
            case measure => omega
            case rel => exact ⟨k + 1, by go_num, by omega, by omega, rfl, S2⟩
    · have hltz : ¬ (k : Int) < (n : Int) := by omega
      by_cases h200 : n ≤ 200
      · have h200z : (n : Int) ≤ 200 := by omega
        have E : Hid (factsOk (fs.map pf) = true) := factsOk_all (by have := HI.out.2; simp; omega) fun i hi => by
          have hi2 : i < fs.length := by simpa using hi
          have := SK.out i (by have := HI.out.2; omega)
          rw [ftn_eq hi2] at this
          simpa [pf] using this
        clear SK
        go_wp2
        go_ret
        exact ⟨ret_bool (E.out.symm), rfl⟩
      · have h200z : ¬ (n : Int) ≤ 200 := by omega
        have E : Hid (factsOk (fs.map pf) = false) := factsOk_long (by have := HI.out.2; simp; omega)
        clear SK
        go_wp2
        go_ret
        exact ⟨ret_bool (E.out.symm), rfl⟩

set_option maxHeartbeats 8000000 in
theorem refSpans_any (a : Option Addr) (n c : Nat) (ss : List PSpan) (w : World) (hI : SpansIn w a ss) (hn : ss.length = n) (hm : n ≤ 9223372036854775807) :
    Calls Try.prog 35 #[.slice a n c] w fun e w' => e = .returned (.bool (spansOk ss)) ∧ w' = w := by
  have HI : Aside (SpansIn w a ss ∧ ss.length = n) := ⟨hI, hn⟩
  clear hI hn
  go_enter Try.func35, Try.ntmps35
  go_wp2_with fail
  go_loopg [3] n (fun g1 vi wr => ∃ (k : Nat), vi = .int .i64 k ∧ k ≤ n ∧ n - k ≤ g1 ∧ wr = w ∧ Aside (∀ i, i < k → (0 ≤ (spn ss i).1 ∧ (spn ss i).1 ≤ 9999) ∧ 0 ≤ (spn ss i).2 ∧ (spn ss i).2 ≤ 5))
  case atStart => exact ⟨0, rfl, Nat.zero_le _, Nat.le_refl _, rfl, fun i hi => by omega⟩
  case round =>
    obtain ⟨k, rfl, hk, hg1, rfl, SK⟩ := hrel
    by_cases hlt : k < n
    · have hltz : (k : Int) < (n : Int) := by omega
      have hkl : k < ss.length := by rw [HI.out.2]; exact hlt
      obtain ⟨b, off, ha, hc⟩ := HI.out.1.get hkl
      subst ha
      obtain ⟨r0, r1, r2⟩ := hc k hkl
      have HNO : Aside (¬ ((0 ≤ (spn ss k).1 ∧ (spn ss k).1 ≤ 9999) ∧ 0 ≤ (spn ss k).2 ∧ (spn ss k).2 ≤ 5) → spansOk ss = false) := fun h => spansOk_not (spn_mem hkl) h
      have HOK : Aside (((0 ≤ (spn ss k).1 ∧ (spn ss k).1 ≤ 9999) ∧ 0 ≤ (spn ss k).2 ∧ (spn ss k).2 ≤ 5) → ∀ i, i < k + 1 → (0 ≤ (spn ss i).1 ∧ (spn ss i).1 ≤ 9999) ∧ 0 ≤ (spn ss i).2 ∧ (spn ss i).2 ≤ 5) := fun h i hi => by
        by_cases e : i = k
        · subst e; exact h
        · exact SK.out i (by omega)
      clear hc r2 SK
      generalize (spn ss k).1 = x at r0 HNO HOK
      generalize (spn ss k).2 = y at r1 HNO HOK
      by_cases h0 : x < 0
      · have E : Hid (spansOk ss = false) := HNO.out fun h => by omega
        clear HNO HOK
        go_wp2
        go_ret
        exact ⟨ret_bool E.out.symm, rfl⟩
      by_cases h9 : 9999 < x
      · have E : Hid (spansOk ss = false) := HNO.out fun h => by omega
        clear HNO HOK
        go_wp2
        go_ret
        exact ⟨ret_bool E.out.symm, rfl⟩
      by_cases k0 : y < 0
      · have E : Hid (spansOk ss = false) := HNO.out fun h => by omega
        clear HNO HOK
        go_wp2
        go_ret
        exact ⟨ret_bool E.out.symm, rfl⟩
      by_cases k5 : 5 < y
      · have E : Hid (spansOk ss = false) := HNO.out fun h => by omega
        clear HNO HOK
        go_wp2
        go_ret
        exact ⟨ret_bool E.out.symm, rfl⟩
      have S2 := HOK.out (by omega)
      have S3 : Aside (∀ i, i < k + 1 → (0 ≤ (spn ss i).1 ∧ (spn ss i).1 ≤ 9999) ∧ 0 ≤ (spn ss i).2 ∧ (spn ss i).2 ≤ 5) := S2
      clear HNO HOK S2
      go_wp2
      go_roundg (n - (k + 1))
      case measure => omega
      case rel => exact ⟨k + 1, by go_num, by omega, by omega, rfl, S3⟩
    · have hltz : ¬ (k : Int) < (n : Int) := by omega
      by_cases h200 : n ≤ 40
      · have h200z : (n : Int) ≤ 40 := by omega
        have E : Hid (spansOk ss = true) := spansOk_all (by have := HI.out.2; omega) fun i hi => by
          have := SK.out i (by have := HI.out.2; omega)
          rwa [spn_eq hi] at this
        clear SK
        go_wp2
        go_ret
        exact ⟨ret_bool (E.out.symm), rfl⟩
      · have h200z : ¬ (n : Int) ≤ 40 := by omega
        have E : Hid (spansOk ss = false) := spansOk_long (by have := HI.out.2; omega)
        clear SK
        go_wp2
        go_ret
        exact ⟨ret_bool (E.out.symm), rfl⟩

set_option maxHeartbeats 16000000 in
theorem refSoundEntries_any (a : Option Addr) (n c : Nat) (es : List Et) (w : World) (hI : EntsIn w a es) (hn : es.length = n) (hm : n ≤ 9223372036854775807) :
    Calls Try.prog 36 #[.slice a n c] w fun e w' => e = .returned (.bool (entsOk (es.map pe))) ∧ Below w.heap.size w w' := by
  have HI : Aside (EntsIn w a es ∧ es.length = n) := ⟨hI, hn⟩
  clear hI hn
  go_enter Try.func36, Try.ntmps36
  go_wp2_with fail
  go_loopg [3] n (fun g1 vi wr => ∃ (k : Nat), vi = .int .i64 k ∧ k ≤ n ∧ n - k ≤ g1 ∧ Aside (Below w.heap.size w wr ∧ ∀ i, i < k → enGood (es.map pe) i))
  case atStart => exact ⟨0, rfl, Nat.zero_le _, Nat.le_refl _, Below.refl _ _, fun i hi => by omega⟩
  case round =>
    obtain ⟨k, rfl, hk, hg1, SK⟩ := hrel
    by_cases hlt : k < n
    · have hltz : (k : Int) < (n : Int) := by omega
      have hkl : k < es.length := by rw [HI.out.2]; exact hlt
      have hkm : k < (es.map pe).length := by simpa using hkl
      obtain ⟨b, off, ha, hc⟩ := (HI.out.1.keep SK.out.1).get hkl
      subst ha
      obtain ⟨r0, r1, r2⟩ := hc k hkl
      obtain ⟨t, ht⟩ : ∃ t, factsOk ((etn es k).fs.map pf) = t := ⟨_, rfl⟩
      have hV : ∀ q, Calls Try.prog 34 #[.slice (etn es k).a (etn es k).fs.length (etn es k).cap] (wr.drewN q) fun e w' => e = .returned (.bool t) ∧ w' = wr.drewN q := fun q => by
        have := refSoundFacts_any (etn es k).a (etn es k).fs.length (etn es k).cap (etn es k).fs (wr.drewN q) (r2.mem.keep (below_drewN (Below.refl _ _) q)) rfl r2.len
        rwa [ht] at this
      have HNO : Aside (t = false → entsOk (es.map pe) = false) := fun h => entsOk_not hkm fun hg => by
        have := hg.1
        rw [pen_map hkl] at this
        change factsOk ((etn es k).fs.map pf) = true at this
        rw [ht, h] at this; cases this
      have HOK : Aside (t = true → k = 0 → ∀ i, i < k + 1 → enGood (es.map pe) i) := fun h h0 i hi => by
        obtain rfl : i = k := by omega
        refine ⟨?_, fun h => by omega⟩
        rw [pen_map hkl]; exact ht.trans h
      cases t with
      | false =>
        have E : Hid (entsOk (es.map pe) = false) := HNO.out rfl
        clear hc HNO HOK ht r2
        generalize (etn es k).t = x at r0
        generalize (etn es k).a = d2 at r1 hV
        generalize (etn es k).fs.length = d3 at r1 hV
        generalize (etn es k).cap = d4 at r1 hV
        go_wp2_with fail
        go_quiet ((go_at_call 34; refine Calls.quiet_of_same (hV _)))
        have SB : Aside (Below w.heap.size w (wr.drewN nq)) := below_drewN SK.out.1 nq
        go_wp2
        go_ret
        exact ⟨ret_bool E.out.symm, SB.out⟩
      | true =>
        by_cases hk0 : k = 0
        · have S2 : Aside (∀ i, i < k + 1 → enGood (es.map pe) i) := HOK.out rfl hk0
          have hk0z : ¬ (0 : Int) < (k : Int) := by omega
          have hk0d : decide ((0 : Int) < (k : Int)) = false := decide_eq_false hk0z
          have hk0e : decide (0 < k) = false := decide_eq_false (by omega)
          clear hc HNO HOK ht r2 hk0
          generalize (etn es k).t = x at r0
          generalize (etn es k).a = d2 at r1 hV
          generalize (etn es k).fs.length = d3 at r1 hV
          generalize (etn es k).cap = d4 at r1 hV
          go_wp2_with fail
          go_quiet ((go_at_call 34; refine Calls.quiet_of_same (hV _)))
          have SB : Aside (Below w.heap.size w (wr.drewN nq)) := below_drewN SK.out.1 nq
          go_wp2
          go_roundg (n - (k + 1))
          case measure => omega
          case rel => exact ⟨k + 1, by go_num, by omega, by omega, SB.out, S2.out⟩
        · obtain ⟨j, hj⟩ : ∃ j, k = j + 1 := ⟨k - 1, by omega⟩
          have HJ : Hid (k = j + 1) := hj
          have hjl : j < es.length := by omega
          obtain ⟨r3, -, -⟩ := hc j hjl
          have hj1 : (k : Int) - 1 = (j : Int) := by omega
          have hj0 : (0 : Int) < (k : Int) := by omega
          have hk0d : decide ((0 : Int) < (k : Int)) = true := decide_eq_true (by omega)
          have hk0e : decide (0 < k) = true := decide_eq_true (by omega)
          have hjj : (0 : Int) ≤ (j : Int) ∧ (j : Int) < (n : Int) := by omega
          have HG : Aside (enGood (es.map pe) k ↔ (etn es j).t < (etn es k).t) := by
            show _ ↔ _
            unfold enGood
            rw [show k - 1 = j by omega, pen_map hkl, pen_map hjl]
            constructor
            · intro h; exact h.2 (by omega)
            · intro h; exact ⟨ht, fun _ => h⟩
          by_cases hle : (etn es k).t ≤ (etn es j).t
          · have E : Hid (entsOk (es.map pe) = false) := entsOk_not hkm fun h => by have := HG.out.1 h; omega
            have hled : decide ((etn es k).t ≤ (etn es j).t) = true := decide_eq_true hle
            clear hc HNO HOK ht r2 hk0 hj HG hle
            generalize (etn es k).t = x at r0 hled
            generalize (etn es j).t = y at r3 hled
            generalize (etn es k).a = d2 at r1 hV
            generalize (etn es k).fs.length = d3 at r1 hV
            generalize (etn es k).cap = d4 at r1 hV
            go_wp2_with fail
            go_quiet ((go_at_call 34; refine Calls.quiet_of_same (hV _)))
            have SB : Aside (Below w.heap.size w (wr.drewN nq)) := below_drewN SK.out.1 nq
            go_wp2
            go_ret
            exact ⟨ret_bool E.out.symm, SB.out⟩
          · have S2 : Aside (∀ i, i < k + 1 → enGood (es.map pe) i) := fun i hi => by
              by_cases e : i = k
              · subst e; exact HG.out.2 (by omega)
              · exact SK.out.2 i (by omega)
            have hled : decide ((etn es k).t ≤ (etn es j).t) = false := decide_eq_false hle
            clear hc HNO HOK ht r2 hk0 hj HG hle
            generalize (etn es k).t = x at r0 hled
            generalize (etn es j).t = y at r3 hled
            generalize (etn es k).a = d2 at r1 hV
            generalize (etn es k).fs.length = d3 at r1 hV
            generalize (etn es k).cap = d4 at r1 hV
            go_wp2_with fail
            go_quiet ((go_at_call 34; refine Calls.quiet_of_same (hV _)))
            have SB : Aside (Below w.heap.size w (wr.drewN nq)) := below_drewN SK.out.1 nq
            go_wp2
            go_roundg (n - (k + 1))
            case measure => omega
            case rel => exact ⟨k + 1, by go_num, by omega, by omega, SB.out, S2.out⟩
    · have hltz : ¬ (k : Int) < (n : Int) := by omega
      by_cases h200 : n ≤ 5000
      · have h200z : (n : Int) ≤ 5000 := by omega
        have E : Hid (entsOk (es.map pe) = true) := entsOk_all (by have := HI.out.2; simp; omega) fun i hi => SK.out.2 i (by have := HI.out.2; simp at hi; omega)
        go_wp2
        go_ret
        exact ⟨ret_bool (E.out.symm), SK.out.1⟩
      · have h200z : ¬ (n : Int) ≤ 5000 := by omega
        have E : Hid (entsOk (es.map pe) = false) := entsOk_long (by have := HI.out.2; simp; omega)
        go_wp2
        go_ret
        exact ⟨ret_bool (E.out.symm), SK.out.1⟩
end Go.Proofs.Ytlokamblbhooaaa.code
