/-
  FrameCuts: frames that are cut anywhere are read as a front of them.
-/
import Derived.Test.YtimijfibfjlkjaaFrameRowsUse
namespace Go.Proofs.Ytimijfibfjlkjaa.frame
open Go.ChangeShapes Go.WideShapes Go.ChangeAt Go.RowKit Go.Deep
open Go.Proofs.Ytimijfibfjlkjaa.bytes
set_option linter.unusedVariables false
set_option maxRecDepth 100000
set_option linter.unusedSimpArgs false

theorem rows_len {ls : List Lr} {n c m p : Nat} {a : Option Addr} {W : World} (hL : ListsIn W a ls) (hm : m ≤ ls.length) (hw : wt ls ≤ 3000) (hcp : ∀ i, i < ls.length → (ln ls i).l.length ≤ (ln ls i).cap) (hp : (rowsB ((ls.take m).map (·.l))).length = p) :
    Calls Try.prog 16 #[.slice a m c] W fun e w' => ∃ a' c', e = .returned (.slice a' p c') ∧ Below W.heap.size W w' := by
  have hs := (small_of hw).2
  have hl : (ls.take m).length = m := by rw [List.length_take]; omega
  have hw2 := wt_le ls m
  refine (rows_any m c a (ls.take m) W (hL.take m) hl (by omega) (by omega) (fun i hi => ?_)).mono ?_
  · rw [hl] at hi
    rw [ln_take hi]
    exact hcp i (by omega)
  · rintro e w' ⟨v, h1, h2, h3⟩
    obtain ⟨a', c', e', _⟩ := h2.bytes
    rw [hp] at e'
    exact ⟨a', c', by rw [h1, e'], h3⟩
theorem same_front {B : Nat} {W : World} {a1 a2 : Option Addr} {m c1 c2 : Nat} {xs ls : List Lr} (h1 : RowOut B W (.slice a1 m c1) xs) (h2 : ListsIn W a2 ls) (hx : xs.map (·.l) = (ls.take m).map (·.l)) (hm : m ≤ ls.length) (hw : wt ls ≤ 3000) :
    Calls Try.prog 14 #[.slice a1 m c1, .slice a2 m c2] W fun e w' => e = .returned (.bool true) ∧ Below W.heap.size W w' := by
  have hs := (small_of hw).2
  have hl : (ls.take m).length = m := by rw [List.length_take]; omega
  exact same_in h1 (h2.take m) (by have := congrArg List.length hx; rwa [List.length_map, List.length_map, hl] at this) hl (by omega) hx

set_option maxHeartbeats 8000000 in
theorem cuts_walk (a : Option Addr) (n c : Nat) (ls : List Lr) (z : Int) (w : World) (hL : ListsIn w a ls) (hn : ls.length = n) (hnc : n ≤ c) (hn2 : n ≤ 9223372036854775807) (hw : wt ls ≤ 1000000000000) (hcp : ∀ i, i < ls.length → (ln ls i).l.length ≤ (ln ls i).cap) :
    Calls Try.prog 6 #[.slice a n c, .int .i64 z] w fun e w' => e = .returned (.bool true) ∧ Below w.heap.size w w' := by
  have hK := known_any w
  have hH := heavy_any n c a ls w hL hn hn2 hw
  by_cases hbig : 3000 < wt ls
  · rw [decide_eq_true hbig] at hH
    clear hL hn hw hcp hbig
    go_enter Try.func6, Try.ntmps6
    go_wp2_with (first | (go_at_call 15; refine hH.mono ?_; rintro e w0 ⟨rfl, rfl⟩) | (go_at_call 9; refine hK.mono ?_; rintro e w1 ⟨rfl, g1⟩))
    go_ret
    exact ⟨rfl, g1⟩
  rw [decide_eq_false hbig] at hH
  have hsm := small_of (Nat.le_of_not_lt hbig)
  have hn3 : n ≤ 3000 := by rw [← hn]; exact hsm.2
  obtain ⟨R, hR⟩ : ∃ R, rowsB (ls.map (·.l)) = R := ⟨_, rfl⟩
  have hRl : R.length ≤ 3000 := by rw [← hR, wt_rows]; exact Nat.le_of_not_lt hbig
  have H : Aside (ListsIn w a ls ∧ ls.length = n ∧ wt ls ≤ 3000 ∧ (∀ i, i < ls.length → (ln ls i).l.length ≤ (ln ls i).cap) ∧ rowsB (ls.map (·.l)) = R) := ⟨hL, hn, Nat.le_of_not_lt hbig, hcp, hR⟩
  clear hL hn hw hcp hbig hsm hn2 hR
  go_enter Try.func6, Try.ntmps6
  go_upto_region 3 with (first | (go_at_call 15; refine hH.mono ?_; rintro e w0 ⟨rfl, rfl⟩) | (go_at_call 9; refine hK.mono ?_; rintro e w1 ⟨rfl, g1⟩))
  have H1 : Aside (Below w.heap.size w w1 ∧ ListsIn w1 a ls) := ⟨g1, H.out.1.keep g1⟩
  clear g1 hK hH
  have hRw := rows_any n c a ls w1 H1.out.2 H.out.2.1 (by omega) (by have := H.out.2.2.1; omega) H.out.2.2.2.1
  rw [H.out.2.2.2.2] at hRw
  go_upto_region 4 with (go_at_call 16; refine hRw.mono ?_; rintro e w2 ⟨v2, rfl, ho2, hb2⟩; refine Hid.out ?_)
  refine hid ?_
  obtain ⟨a2, c2, e2, hs2⟩ := ho2.sl (by omega)
  subst e2
  obtain ⟨rn, hrn⟩ : ∃ rn, R.length = rn := ⟨_, rfl⟩
  have HN : Aside (R.length = rn) := hrn
  rw [hrn] at hs2 hRl ⊢
  have hc2 := hs2.at_.cap
  have H2 : Aside (Below w1.heap.size w1 w2 ∧ Sl w2 a2 rn c2 R) := ⟨hb2, hs2⟩
  clear hRw ho2 hb2 hs2 hrn
  have E2 : Aside (0 ≤ max z 0 % ((rn : Int) + 1) ∧ max z 0 % ((rn : Int) + 1) < (rn : Int) + 1) := ⟨Int.emod_nonneg _ (by omega), Int.emod_lt_of_pos _ (by omega)⟩
  have hn1 : ¬ ((rn : Int) + 1 = 0) := by omega
  go_upto_region 4 with fail
  go_cut [6] from 18 (fun t wx => ∃ q : Int, t = .int .i64 q ∧ 0 ≤ q ∧ q < (rn : Int) + 1 ∧ wx = w2)
  case first =>
    go_wp2_with fail
    go_meet
    case rel => exact ⟨_, rfl, E2.out.1, E2.out.2, rfl⟩
  case rest =>
    obtain ⟨q', rfl, hq0, hqn, rfl⟩ := hcut
    obtain ⟨q, rfl⟩ := Int.eq_ofNat_of_zero_le hq0
    clear E2 hn1 hq0
    have hqr : q ≤ rn := by omega
    obtain ⟨m, h1, h2, h3, h4⟩ := cut_says H.out.2.2.1 q
    rw [H.out.2.2.2.2] at h2 h4
    rw [HN.out, H.out.2.1] at h4
    rw [H.out.2.1] at h1
    obtain ⟨p, hp⟩ : ∃ p, (rowsB ((ls.take m).map (·.l))).length = p := ⟨_, rfl⟩
    rw [hp] at h3
    have hS := scan_any q c2 a2 _ wc (H2.out.2.front q hqr) (by omega)
    rw [h2, hp] at hS
    have HP : Aside ((rowsB ((ls.take m).map (·.l))).length = p ∧ (ls.take m).length = m) := ⟨hp, by rw [List.length_take, H.out.2.1]; omega⟩
    clear h2 hp
    have hqc : (q : Int) ≤ (c2 : Int) := by omega
    have hqz : (q : Int) ≤ (rn : Int) := by omega
    have hpq : (p : Int) ≤ (q : Int) := by omega
    have hmn : (m : Int) ≤ (n : Int) := by omega
    have hmc : (m : Int) ≤ (c : Int) := by omega
    go_upto_region 6 with (go_at_call 11; refine hS.mono ?_; rintro e w3 ⟨v3, xs, rfl, hro3, hls3, hb3⟩; refine Hid.out ?_)
    refine hid ?_
    obtain ⟨a3, c3, e3, -⟩ := rowout_len hro3 (k := m) (by have h1 := congrArg List.length hls3; rwa [List.length_map, List.length_map, HP.out.2] at h1)
    subst e3
    have hb13 : Below w1.heap.size w1 w3 := H2.out.1.trans (hb3.mono H2.out.1.size)
    have hL3 := H1.out.2.keep hb13
    have hC1 := same_front (c2 := c) hro3 hL3 hls3 (by rw [H.out.2.1]; omega) H.out.2.2.1
    have hC2 : ∀ W, Below w3.heap.size w3 W → Calls Try.prog 16 #[.slice a m c] W fun e w' => ∃ a' c', e = .returned (.slice a' p c') ∧ Aside (Below w3.heap.size w3 w') := fun W hW =>
      (rows_len (n := n) (hL3.keep hW) (by rw [H.out.2.1]; omega) H.out.2.2.1 H.out.2.2.2.1 HP.out.1).mono fun e w' ⟨a', c', g1, g2⟩ => ⟨a', c', g1, hW.trans (g2.mono hW.size)⟩
    have HZ : Aside (Below w.heap.size w w3) := H1.out.1.trans (hb13.mono H1.out.1.size)
    clear hS hro3 hls3 hb3 hb13 hL3 H2 H1 H HP HN
    by_cases hqe : q < rn
    · have hqz2 : (q : Int) < (rn : Int) := by omega
      go_wp2_with (first | (go_at_call 14; refine hC1.mono ?_; rintro e w4 ⟨rfl, hb4⟩; clear hC1; have hC3 := hC2 w4 hb4) | (go_at_call 16; refine hC3.mono ?_; rintro e w5 ⟨a5, c5, rfl, hb5⟩))
      go_ret
      exact ⟨ret_bool (by simp), HZ.out.trans (hb5.out.mono HZ.out.size)⟩
    · have hqz2 : ¬ (q : Int) < (rn : Int) := by omega
      have hmm : m = n := h4 (by omega)
      subst hmm
      go_wp2_with (first | (go_at_call 14; refine hC1.mono ?_; rintro e w4 ⟨rfl, hb4⟩; clear hC1; have hC3 := hC2 w4 hb4) | (go_at_call 16; refine hC3.mono ?_; rintro e w5 ⟨a5, c5, rfl, hb5⟩))
      go_ret
      exact ⟨ret_bool (by simp), HZ.out.trans (hb5.out.mono HZ.out.size)⟩
end Go.Proofs.Ytimijfibfjlkjaa.frame
