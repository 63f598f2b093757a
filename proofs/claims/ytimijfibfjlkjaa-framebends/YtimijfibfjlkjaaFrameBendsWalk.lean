/-
  FrameBends: a frame in which one byte of what it holds, or of its sum, is another one is none.
-/
import Derived.Test.YtimijfibfjlkjaaFrameUse
namespace Go.Proofs.Ytimijfibfjlkjaa.frame
open Go.ChangeShapes Go.WideShapes Go.ChangeAt Go.RowKit Go.Deep
open Go.Proofs.Ytimijfibfjlkjaa.bytes
set_option linter.unusedVariables false
set_option maxRecDepth 100000
set_option linter.unusedSimpArgs false

theorem bend_scan {l : List UInt8} (k : Nat) (y : UInt8) (hl : l.length ≤ 60000) (hk : 3 ≤ k) (hk2 : k < l.length + 7) (hy : (wrapB l).getD k 0 ≠ y) : scanB ((wrapB l).set k y) = [] := by
  have hw := wrapB_len l
  rw [set_parts _ k y (by omega)]
  exact scan_none (bend_none (self_parts (wrapB l) k (by omega)) hy (by rw [List.length_take]; omega) hl)

set_option maxHeartbeats 8000000 in
theorem bends_walk (a : Option Addr) (n c : Nat) (l : List UInt8) (z : Int) (x : UInt8) (w : World) (h1 : Sl w a n c l) :
    Calls Try.prog 7 #[.slice a n c, .int .i64 z, .int .u8 (x.toNat : Int)] w fun e w' => e = .returned (.bool true) ∧ Below w.heap.size w w' := by
  have hK := known_any w
  obtain ⟨xn, hxn⟩ : ∃ xn, x.toNat = xn := ⟨_, rfl⟩
  have HX : Hid (x.toNat = xn) := hxn
  rw [hxn]
  clear hxn
  by_cases hbig : 1500 < n
  · have hz : (1500 : Int) < (n : Int) := by omega
    clear h1
    go_enter Try.func7, Try.ntmps7
    go_wp2_with (go_at_call 9; refine hK.mono ?_; rintro e w1 ⟨rfl, g1⟩)
    go_ret
    exact ⟨rfl, g1⟩
  have hz : ¬ (1500 : Int) < (n : Int) := by omega
  by_cases hx0 : xn = 0
  · subst hx0
    clear h1 HX
    go_enter Try.func7, Try.ntmps7
    go_wp2_with (go_at_call 9; refine hK.mono ?_; rintro e w1 ⟨rfl, g1⟩)
    go_ret
    exact ⟨rfl, g1⟩
  have hxz : ¬ (xn : Int) = 0 := by omega
  have H : Aside (Sl w a n c l) := h1
  have E1 : Aside (0 ≤ z % ((n : Int) + 4) ∧ z % ((n : Int) + 4) < (n : Int) + 4) := ⟨Int.emod_nonneg _ (by omega), Int.emod_lt_of_pos z (by omega)⟩
  clear h1
  go_enter Try.func7, Try.ntmps7
  go_upto_region 3 with (go_at_call 9; refine hK.mono ?_; rintro e w1 ⟨rfl, g1⟩)
  have H1 : Aside (Below w.heap.size w w1 ∧ Sl w1 a n c l) := ⟨g1, H.out.keep g1⟩
  clear H g1 hK
  have hlen := H1.out.2.at_.len
  have hW := wrap_any n c a l w1 H1.out.2 (by omega)
  go_upto_region 4 with (go_at_call 10; refine hW.mono ?_; rintro e w2 ⟨v2, rfl, ho2, hb2⟩; refine Hid.out ?_)
  refine hid ?_
  obtain ⟨g, c2, e2, h8⟩ := row_of (l := l) (k := n + 7) ho2 (by rw [wrapB_len, hlen]) (by omega)
  subst e2
  have H2 : Aside (Below w.heap.size w w2 ∧ Below w1.heap.size w1 w2 ∧ Own8 w1.heap.size w2 g (n + 7) c2 (wrapB l) ∧ w.heap.size ≤ w1.heap.size) := ⟨H1.out.1.trans (hb2.mono H1.out.1.size), hb2, h8, H1.out.1.size⟩
  clear hW ho2 hb2 h8 H1
  have hq1 : IntKind.i64.wrap (((n + 7 : Nat) : Int) - 3) = (n : Int) + 4 := by rw [IntKind.wrap_i64]; omega
  have E2 : Aside (3 ≤ wrap64 (3 + max z 0 % ((n : Int) + 7 - 3)) ∧ wrap64 (3 + max z 0 % ((n : Int) + 7 - 3)) < (n : Int) + 7) := by
    have h0 := Int.emod_nonneg (max z 0) (b := (n : Int) + 7 - 3) (by omega)
    have h1 := Int.emod_lt_of_pos (max z 0) (b := (n : Int) + 7 - 3) (by omega)
    generalize max z 0 % ((n : Int) + 7 - 3) = r at h0 h1
    have e : wrap64 (3 + r) = 3 + r := by unfold wrap64; omega
    show _ ∧ _
    rw [e]
    omega
  have hn2 : ¬ ((n : Int) + 7 - 3 = 0) := by omega
  clear hq1 E1
  go_upto_region 6 with fail
  go_cut [9] from 39 (fun t wx => ∃ k : Int, t = .int .i64 k ∧ 3 ≤ k ∧ k < (n : Int) + 7 ∧ wx = w2)
  case first =>
    go_wp2_with fail
    go_meet
    case rel => exact ⟨_, rfl, E2.out.1, E2.out.2, rfl⟩
  case rest =>
    obtain ⟨k', rfl, hk0, hkn, rfl⟩ := hcut
    obtain ⟨k, rfl⟩ := Int.eq_ofNat_of_zero_le (show 0 ≤ k' by omega)
    clear E2 hn2
    have hk : k < n + 7 := by omega
    have hk3 : 3 ≤ k := by omega
    have cg := H2.out.2.2.1.cell k hk
    have fg := H2.out.2.2.1.frz k
    unfold bth at cg
    have HP : Aside (∀ y, (wrapB l).getD k 0 ≠ y → scanB ((wrapB l).set k y) = []) := fun y hy => bend_scan k y (by omega) hk3 (by omega) hy
    obtain ⟨u, hu⟩ : ∃ u, (wrapB l).getD k 0 = u := ⟨_, rfl⟩
    rw [hu] at cg HP
    have hst := H2.out.2.2.1.store k (u ^^^ x)
    have hbs : Below w1.heap.size wc (wc.setCell ⟨g, k, none⟩ (.int .u8 ((u ^^^ x).toNat : Int))) := (Below.refl _ _).setCell H2.out.2.2.1.lt.1 _
    have hx00 : x ≠ 0 := fun e => hx0 (by rw [← HX.out, e]; rfl)
    have H3 : Aside (Below w.heap.size w (wc.setCell ⟨g, k, none⟩ (.int .u8 ((u ^^^ x).toNat : Int))) ∧ Own8 w1.heap.size (wc.setCell ⟨g, k, none⟩ (.int .u8 ((u ^^^ x).toNat : Int))) g (n + 7) c2 ((wrapB l).set k (u ^^^ x)) ∧ scanB ((wrapB l).set k (u ^^^ x)) = []) := ⟨H2.out.1.trans (hbs.mono H2.out.2.2.2), hst, HP.out _ (xor_other hx00)⟩
    have hxor := xor_u8 u x
    rw [HX.out] at hxor
    clear HP hst hbs hu H2
    generalize (u ^^^ x).toNat = yn at hxor H3
    generalize u.toNat = un at cg hxor
    go_upto_region 8 with fail
    generalize wc.setCell ⟨g, k, none⟩ (.int .u8 (yn : Int)) = w3 at H3 ⊢
    have hS := scan_any (n + 7) c2 _ _ w3 (H3.out.2.1.sl (by omega)) (by omega)
    rw [H3.out.2.2, show (rowsB ([] : List (List UInt8))).length = 0 from rfl] at hS
    have HZ : Aside (Below w.heap.size w w3) := H3.out.1
    clear H3 cg fg hxor
    go_upto_region 9 with (go_at_call 11; refine hS.mono ?_; rintro e w4 ⟨v4, ls, rfl, hro, hls, hb4⟩; refine Hid.out ?_)
    refine hid ?_
    obtain ⟨a4, c4, e4, -⟩ := rowout_len hro (k := 0) (by have := congrArg List.length hls; simpa using this)
    subst e4
    clear hS hro hls
    go_wp2
    go_ret
    exact ⟨ret_bool (by simp), HZ.out.trans (hb4.mono HZ.out.size)⟩
end Go.Proofs.Ytimijfibfjlkjaa.frame
