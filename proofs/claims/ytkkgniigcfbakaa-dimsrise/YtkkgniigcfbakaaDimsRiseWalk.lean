/-
  The walk of DimsRise: of whatever choices the call answers true.
-/
import Derived.Test.YtkkgniigcfbakaaDimsUpWalk
namespace Go.Proofs.Ytkkgniigcfbakaa.dims
open Go.ChangeShapes Go.WideShapes Go.ChangeAt Go.RowKit Go.Deep
set_option linter.unusedVariables false

theorem rise {sz : Int} {l : List Int} (hS : SoundD sz l) {n x y : Int} (h0 : 0 ≤ n) (h1 : n ≤ (l.length : Int) + 1) (hx : 0 ≤ x) (hxy : x ≤ y) : upV sz l 0 n x ≤ upV sz l 0 n y ∧ upV sz l 0 ((l.length : Int) + 1) y = 0 ∧ 0 ≤ upV sz l 0 n x := by
  have e : ∀ t v, upV sz l 0 t v = raiseV l 0 t v := fun t v => if_pos (sndB_true hS)
  rw [e, e, e, raise0 hS.2.2.2 h0 h1 hx, raise0 hS.2.2.2 h0 h1 (by omega), raise0 hS.2.2.2 (by omega) (by omega) (by omega), if_neg (show ¬ (l.length : Int) + 1 = 0 by omega), if_pos rfl]
  by_cases e0 : n = 0
  · rw [if_pos e0, if_pos e0]; exact ⟨hxy, rfl, hx⟩
  · rw [if_neg e0, if_neg e0]
    by_cases e1 : n = (l.length : Int) + 1
    · rw [if_pos e1, if_pos e1]; exact ⟨Int.le_refl _, rfl, Int.le_refl _⟩
    · rw [if_neg e1, if_neg e1]
      have hd := (dv_le hS.2.2.2 (k := n.toNat) (by omega)).1
      exact ⟨Int.ediv_le_ediv (by omega) hxy, rfl, Int.ediv_nonneg hx (by omega)⟩

set_option maxHeartbeats 8000000 in
theorem rise_walk (c : Dm) (lv a b : Int) (w : World) (nC : Nums .u8 w c.a c.l.length c.cap c.l) (wc : (Lit.int .u16 c.sz).wf = true) (wl : (Lit.int .u8 lv).wf = true) (wa : (Lit.int .u16 a).wf = true) (wb : (Lit.int .u16 b).wf = true) :
    Calls Try.prog 10 #[.agg #[.int .u16 c.sz, .slice c.a c.l.length c.cap], .int .u8 lv, .int .u16 a, .int .u16 b] w fun e w' => e = .returned (.bool true) ∧ Below w.heap.size w w' := by
  have hl := u8_of_wf wl
  have ha := u16_of_wf wa
  have hb := u16_of_wf wb
  have D2 := fun (W : World) (B : Nat) (h0 : W.cell? ⟨B, 0, none⟩ = some (.int .u16 c.sz)) (h1 : W.cell? ⟨B, 1, none⟩ = some (.slice c.a c.l.length c.cap)) (hb : Below w.heap.size w W) => of_any (some ⟨B, 0, none⟩) 1 1 [c] W (pairs_one h0 h1 (nC.keep hb) wc) rfl (by omega)
  clear nC wc wl wa wb
  generalize c.sz = q1 at *
  generalize c.l.length = q3 at *
  generalize c.cap = q4 at *
  generalize c.a = q2 at *
  go_enter Try.func10, Try.ntmps10
  go_wp2_with fail
  have hbn : Below w.heap.size w ((w.alloc (.cells #[.int .u16 q1, .slice q2 q3 q4] 36)).alloc (.cells #[.int .u16 q1, .slice q2 q3 q4] 36)) := by (repeat (first | with_reducible exact Below.refl _ _ | (with_reducible refine Below.drew ?_) | (with_reducible refine Below.alloc ?_ (by first | omega | (simp; done) | (simp; omega)) _) | (with_reducible refine Below.setCell ?_ (by first | exact Nat.le_refl _ | omega | (simp; done) | (simp; omega)) _)))
  refine (D2 _ _ (by simp [go_sem]) (by simp [go_sem]) hbn).mono ?_
  rintro e w2 ⟨v2, rfl, hres⟩
  obtain ⟨g, cap2, x, rfl, -, hSx, -, -, hb2, x0, x1, xI, x4⟩ := hres.one
  have B2 : Aside (Below w.heap.size w w2) := hbn.trans (hb2.mono hbn.size)
  have XI : Aside (Ints w2 x.a x.l) := xI
  have HSX : Aside (SoundD x.sz x.l) := hSx
  clear hres hb2 hbn D2 xI hSx
  obtain ⟨nL, hnL⟩ : ∃ q, x.l.length = q := ⟨_, rfl⟩
  have HNL : Aside (x.l.length = nL) := hnL
  rw [hnL] at x1 x4
  clear hnL
  obtain ⟨y1, hy1⟩ : ∃ q, x.sz = q := ⟨_, rfl⟩
  obtain ⟨y2, hy2⟩ : ∃ q, x.a = q := ⟨_, rfl⟩
  obtain ⟨y4, hy4⟩ : ∃ q, x.cap = q := ⟨_, rfl⟩
  obtain ⟨y5, hy5⟩ : ∃ q, x.l = q := ⟨_, rfl⟩
  rw [hy1] at x0 HSX
  rw [hy2, hy4] at x1
  rw [hy5] at HSX HNL
  rw [hy2, hy5] at XI
  clear hy1 hy2 hy4 hy5
  go_wp2_with fail
  have hbn : Below w2.heap.size w2 (w2.alloc (.cells #[.int .i64 y1, .slice y2 nL y4] 29)) := (Below.refl _ _).alloc (Nat.le_refl _) _
  refine (known_any _).mono ?_
  rintro e w3 ⟨rfl, hb3⟩
  have hb23 : Below w2.heap.size w2 w3 := hbn.trans (hb3.mono hbn.size)
  have j1 : w3.cell? ⟨w2.heap.size, 0, none⟩ = some (.int .i64 y1) := (hb3.cell (p := ⟨w2.heap.size, 0, none⟩) (by simp)).trans (by simp [go_sem])
  have j2 : w3.cell? ⟨w2.heap.size, 1, none⟩ = some (.slice y2 nL y4) := (hb3.cell (p := ⟨w2.heap.size, 1, none⟩) (by simp)).trans (by simp [go_sem])
  have B3 : Aside (Below w.heap.size w w3) := B2.out.trans (hb23.mono B2.out.size)
  have XI3 : Aside (Ints w3 y2 y5) := XI.out.keep hb23
  clear hb3 hb23 hbn B2 XI x0 x1
  generalize w2.heap.size = B at j1 j2 ⊢
  obtain ⟨m, hmm⟩ : ∃ m, (nL : Int) + 2 = m := ⟨_, rfl⟩
  go_wp2_with fail
  refine (refLevels_bel y1 y2 nL y4 m _ (by omega) hmm).mono ?_
  rintro e w4 ⟨rfl, hb4⟩
  have j1 := (hb4.cell (p := ⟨B, 0, none⟩) (cell_lt j1)).trans j1
  have j2 := (hb4.cell (p := ⟨B, 1, none⟩) (cell_lt j2)).trans j2
  have B4 : Aside (Below w.heap.size w w4) := B3.out.trans (hb4.mono B3.out.size)
  have XI4 : Aside (Ints w4 y2 y5) := XI3.out.keep hb4
  clear hb4 B3 XI3
  have m0 : ¬ m = 0 := by omega
  have hlm := And.intro (Int.emod_nonneg lv (by omega : m ≠ 0)) (Int.emod_lt_of_pos lv (by omega : 0 < m))
  go_upto_region 6 with fail
  generalize lv % m = nn at hlm ⊢
  go_cut [12] from 14 (fun t wx => ∃ x : Int, t = .int .i64 x ∧ 0 ≤ x ∧ x ≤ 9999 ∧ wx = w4)
  case first =>
    as_aux_lemma =>
      go_wp2_with fail
      all_goals
        go_meet
        case rel => exact ⟨_, rfl, by omega, by omega, rfl⟩
  case rest =>
    obtain ⟨x, rfl, hx0, hx9, rfl⟩ := hcut
    go_upto_region 7 with fail
    go_cut [13] from 14 (fun t wx => ∃ y : Int, t = .int .i64 y ∧ x ≤ y ∧ y ≤ 9999 ∧ wx = wc)
    case first =>
      as_aux_lemma =>
        go_wp2_with fail
        all_goals
          go_meet
          case rel => exact ⟨_, rfl, by omega, by omega, rfl⟩
    case rest =>
      obtain ⟨y, rfl, hxy, hy9, rfl⟩ := hcut
      have hR := rise HSX.out (n := nn) (x := x) (y := y) hlm.1 (by have := HNL.out; omega) hx0 hxy
      rw [HNL.out] at hR
      obtain ⟨u1, hu1⟩ : ∃ u, upV y1 y5 0 nn x = u := ⟨_, rfl⟩
      obtain ⟨u2, hu2⟩ : ∃ u, upV y1 y5 0 nn y = u := ⟨_, rfl⟩
      rw [hu1, hu2] at hR
      obtain ⟨h12, h3, h10⟩ := hR
      have d1 : decide (u1 ≤ u2) = true := decide_eq_true h12
      have d2 : decide (0 ≤ u1) = true := decide_eq_true h10
      have C1 := fun W (h : Ints W y2 y5) => up_val y1 y2 nL y4 y5 0 nn x u1 W h HNL.out (by omega) hu1
      have C2 := fun W (h : Ints W y2 y5) => up_val y1 y2 nL y4 y5 0 nn y u2 W h HNL.out (by omega) hu2
      obtain ⟨m1, hm1⟩ : ∃ q, (nL : Int) + 1 = q := ⟨_, rfl⟩
      rw [hm1] at h3
      have C3 := fun W (h : Ints W y2 y5) => up_val y1 y2 nL y4 y5 0 m1 y 0 W h HNL.out (by omega) h3
      have C4 := fun W => levels_bel y1 y2 nL y4 m W (by omega) hmm
      have em : m - 1 = m1 := by omega
      have ew : IntKind.i64.wrap (m - 1) = m1 := by rw [IntWalk.i64_in _ (by omega)]; exact em
      have ew2 : wrap64 (m - 1) = m1 := by unfold wrap64; omega
      clear hu1 hu2 h3 hmm hm1 em
      have hz4 := B4.out.size
      go_wp2_with fail
      go_region_held3 (fun w' => Below wc.heap.size wc w' ∧ wc.heap.size ≤ w'.heap.size ∧ w'.cell? ⟨B, 0, none⟩ = some (.int .i64 y1) ∧ w'.cell? ⟨B, 1, none⟩ = some (.slice y2 nL y4))
        (first | assumption | (exact ⟨(Below.refl _ _).drew, Nat.le_refl _, j1, j2⟩) | (exact ⟨Below.refl _ _, Nat.le_refl _, j1, j2⟩) | (refine box_keep (W0 := wc) (g := B) (B := wc.heap.size) (x := .int .i64 y1) (y := .slice y2 nL y4) hb5 ?_; assumption))
        (first | (go_at_call 13; with_reducible refine (known_any _).mono ?_; rintro e w5 ⟨rfl, hb5⟩) | (go_at_call 17; with_reducible refine (C4 _).mono ?_; rintro e w5 ⟨rfl, hb5⟩) | (go_at_call 20; with_reducible refine (C1 _ (XI4.out.keep (by apply And.left; assumption))).mono ?_; rintro e w5 ⟨rfl, hb5⟩) | (go_at_call 20; with_reducible refine (C2 _ (XI4.out.keep (by apply And.left; assumption))).mono ?_; rintro e w5 ⟨rfl, hb5⟩) | (go_at_call 20; with_reducible refine (C3 _ (XI4.out.keep (by apply And.left; assumption))).mono ?_; rintro e w5 ⟨rfl, hb5⟩))
      have S5 : Below wc.heap.size wc w5 := by apply And.left; assumption
      have B5 : Aside (Below w.heap.size w w5) := B4.out.trans (S5.mono B4.out.size)
      go_wp2
      go_ret
      exact ⟨by simp, B5.out⟩
end Go.Proofs.Ytkkgniigcfbakaa.dims
