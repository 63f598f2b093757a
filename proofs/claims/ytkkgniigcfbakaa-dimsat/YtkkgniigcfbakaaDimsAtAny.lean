/-
  The contracts of dims.At and of the chapter's At, whatever is asked.
-/
import Derived.Test.YtkkgniigcfbakaaDimsRefAt
namespace Go.Proofs.Ytkkgniigcfbakaa.dims
open Go.ChangeShapes Go.WideShapes Go.ChangeAt Go.RowKit Go.Deep
set_option linter.unusedVariables false

theorem atR_ok {ds : List Dm} {f t k : List Int} (hs : sndL ds = true) (e1 : f.length = ds.length) (e2 : t.length = ds.length) (e3 : k.length = ds.length) : atR ds f t k = atL ds f t k := by
  unfold atR; rw [if_pos (by unfold atOk; simp [hs, e1, e2, e3])]
theorem atR_s {ds : List Dm} {f t k : List Int} (hs : sndL ds = false) : atR ds f t k = [] := by unfold atR; rw [if_neg (by unfold atOk; simp [hs])]
theorem atR_1 {ds : List Dm} {f t k : List Int} (h : ¬ f.length = ds.length) : atR ds f t k = [] := by unfold atR; rw [if_neg (by unfold atOk; simp [h])]
theorem atR_2 {ds : List Dm} {f t k : List Int} (h : ¬ t.length = ds.length) : atR ds f t k = [] := by unfold atR; rw [if_neg (by unfold atOk; simp [h])]
theorem atR_3 {ds : List Dm} {f t k : List Int} (h : ¬ k.length = ds.length) : atR ds f t k = [] := by unfold atR; rw [if_neg (by unfold atOk; simp [h])]

theorem ne_beq {n m : Nat} (h : ¬ n = m) : ((n : Int) == (m : Int)) = false := by
  have : ¬ (n : Int) = (m : Int) := by omega
  simpa using this

set_option maxHeartbeats 2000000 in
theorem at_any (a a1 a2 a3 : Option Addr) (n n1 n2 n3 cap c1 c2 c3 : Nat) (ds : List Dm) (f t k : List Int) (w : World) (hI : DimsIn w a ds) (hn : ds.length = n) (hm : n ≤ 9223372036854775807) (h1 : Ints w a1 f) (h2 : Ints w a2 t) (h3 : Ints w a3 k) (e1 : f.length = n1) (e2 : t.length = n2) (e3 : k.length = n3) (hk : ∀ i, i < n3 → nth k i ≤ 9223372036854775807) :
    Calls Try.prog 24 #[.slice a n cap, .slice a1 n1 c1, .slice a2 n2 c2, .slice a3 n3 c3] w fun e w' => ∃ v, e = .returned v ∧ RowOut w' v (atR ds f t k) ∧ Below w.heap.size w w' := by
  have hL := soundL_any a n cap ds w hI hn hm
  cases hs : sndL ds with
  | false =>
    rw [hs] at hL
    rw [atR_s hs]
    clear hI h1 h2 h3 hn e1 e2 e3 hs
    as_aux_lemma =>
      go_enter Try.func24, Try.ntmps24
      go_wp2_with fail
      refine hL.mono ?_
      rintro e W1 ⟨rfl, hb1⟩
      have SB : Aside _ := hb1
      clear hb1 hL
      go_wp2
      all_goals
        go_ret
        exact ⟨_, rfl, RowOut.nil _, SB.out⟩
  | true =>
    rw [hs] at hL
    by_cases g1 : n1 = n
    · subst g1
      by_cases g2 : n2 = n1
      · subst g2
        by_cases g3 : n3 = n2
        · subst g3
          rw [atR_ok hs (by omega) (by omega) (by omega)]
          exact at_ok a a1 a2 a3 _ cap c1 c2 c3 ds f t k w hI hn h1 h2 h3 e1 e2 e3 hs hk
        · rw [atR_3 (by omega)]
          have z3 := ne_beq g3
          clear hI h1 h2 h3 hn e1 e2 e3 hs g3
          as_aux_lemma =>
            go_enter Try.func24, Try.ntmps24
            go_wp2_with fail
            refine hL.mono ?_
            rintro e W1 ⟨rfl, hb1⟩
            have SB : Aside _ := hb1
            clear hb1 hL
            go_wp2
            all_goals
              go_ret
              exact ⟨_, rfl, RowOut.nil _, SB.out⟩
      · rw [atR_2 (by omega)]
        have z2 := ne_beq g2
        clear hI h1 h2 h3 hn e1 e2 e3 hs g2
        as_aux_lemma =>
          go_enter Try.func24, Try.ntmps24
          go_wp2_with fail
          refine hL.mono ?_
          rintro e W1 ⟨rfl, hb1⟩
          have SB : Aside _ := hb1
          clear hb1 hL
          go_wp2
          all_goals
            go_ret
            exact ⟨_, rfl, RowOut.nil _, SB.out⟩
    · rw [atR_1 (by omega)]
      have z1 := ne_beq g1
      clear hI h1 h2 h3 hn e1 e2 e3 hs g1 hk
      as_aux_lemma =>
        go_enter Try.func24, Try.ntmps24
        go_wp2_with fail
        refine hL.mono ?_
        rintro e W1 ⟨rfl, hb1⟩
        have SB : Aside _ := hb1
        clear hb1 hL
        go_wp2
        all_goals
          go_ret
          exact ⟨_, rfl, RowOut.nil _, SB.out⟩

set_option maxHeartbeats 2000000 in
theorem refAt_any (a a1 a2 a3 : Option Addr) (n n1 n2 n3 cap c1 c2 c3 : Nat) (ds : List Dm) (f t k : List Int) (w : World) (hI : DimsIn w a ds) (hn : ds.length = n) (hm : n ≤ 9223372036854775807) (h1 : Ints w a1 f) (h2 : Ints w a2 t) (h3 : Ints w a3 k) (e1 : f.length = n1) (e2 : t.length = n2) (e3 : k.length = n3) (hk : ∀ i, i < n3 → nth k i ≤ 9223372036854775807) :
    Calls Try.prog 25 #[.slice a n cap, .slice a1 n1 c1, .slice a2 n2 c2, .slice a3 n3 c3] w fun e w' => ∃ v, e = .returned v ∧ RowOut w' v (atR ds f t k) ∧ Below w.heap.size w w' := by
  have hL := refSound_any a n cap ds w hI hn hm
  cases hs : sndL ds with
  | false =>
    rw [hs] at hL
    rw [atR_s hs]
    clear hI h1 h2 h3 hn e1 e2 e3 hs
    as_aux_lemma =>
      go_enter Try.func25, Try.ntmps25
      go_wp2_with fail
      refine hL.mono ?_
      rintro e W1 ⟨rfl, hb1⟩
      have SB : Aside _ := hb1
      clear hb1 hL
      go_wp2
      all_goals
        go_ret
        exact ⟨_, rfl, RowOut.nil _, SB.out⟩
  | true =>
    rw [hs] at hL
    by_cases g1 : n1 = n
    · subst g1
      by_cases g2 : n2 = n1
      · subst g2
        by_cases g3 : n3 = n2
        · subst g3
          rw [atR_ok hs (by omega) (by omega) (by omega)]
          exact refAt_ok a a1 a2 a3 _ cap c1 c2 c3 ds f t k w hI hn h1 h2 h3 e1 e2 e3 hs hk
        · rw [atR_3 (by omega)]
          have z3 := ne_beq g3
          clear hI h1 h2 h3 hn e1 e2 e3 hs g3
          as_aux_lemma =>
            go_enter Try.func25, Try.ntmps25
            go_wp2_with fail
            refine hL.mono ?_
            rintro e W1 ⟨rfl, hb1⟩
            have SB : Aside _ := hb1
            clear hb1 hL
            go_wp2
            all_goals
              go_ret
              exact ⟨_, rfl, RowOut.nil _, SB.out⟩
      · rw [atR_2 (by omega)]
        have z2 := ne_beq g2
        clear hI h1 h2 h3 hn e1 e2 e3 hs g2
        as_aux_lemma =>
          go_enter Try.func25, Try.ntmps25
          go_wp2_with fail
          refine hL.mono ?_
          rintro e W1 ⟨rfl, hb1⟩
          have SB : Aside _ := hb1
          clear hb1 hL
          go_wp2
          all_goals
            go_ret
            exact ⟨_, rfl, RowOut.nil _, SB.out⟩
    · rw [atR_1 (by omega)]
      have z1 := ne_beq g1
      clear hI h1 h2 h3 hn e1 e2 e3 hs g1 hk
      as_aux_lemma =>
        go_enter Try.func25, Try.ntmps25
        go_wp2_with fail
        refine hL.mono ?_
        rintro e W1 ⟨rfl, hb1⟩
        have SB : Aside _ := hb1
        clear hb1 hL
        go_wp2
        all_goals
          go_ret
          exact ⟨_, rfl, RowOut.nil _, SB.out⟩

end Go.Proofs.Ytkkgniigcfbakaa.dims
