/-
  SumBytes: bytes of which one is another one have another sum.
-/
import Derived.Test.YtjfiojojacgccaaSumKnown
namespace Go.Proofs.Ytjfiojojacgccaa.sum
open Go.ChangeShapes Go.WideShapes Go.ChangeAt Go.RowKit Go.Deep
open Go.Proofs.Ytjfiojojacgccaa.bytes
set_option linter.unusedVariables false
set_option maxRecDepth 100000
set_option linter.unusedSimpArgs false

set_option maxHeartbeats 8000000 in
theorem bytes_walk (a : Option Addr) (n c : Nat) (l : List UInt8) (z : Int) (x : UInt8) (w : World) (h1 : Sl w a n c l) :
    Calls Try.prog 7 #[.slice a n c, .int .i64 z, .int .u8 (x.toNat : Nat)] w fun e w' => e = .returned (.bool true) ∧ Below w.heap.size w w' := by
  have hK := known_any w
  by_cases hbig : 1500 < n
  · have hz : (1500 : Int) < (n : Int) := by omega
    clear h1
    go_enter Try.func7, Try.ntmps7
    go_wp2_with (go_at_call 9; refine hK.mono ?_; rintro e w1 ⟨rfl, g1⟩)
    go_ret
    exact ⟨rfl, g1⟩
  have hz : ¬ (1500 : Int) < (n : Int) := by omega
  by_cases hn0 : n = 0
  · have hzn : ((n : Int) == 0) = true := by simp [hn0]
    clear hn0
    clear h1
    go_enter Try.func7, Try.ntmps7
    go_wp2_with (go_at_call 9; refine hK.mono ?_; rintro e w1 ⟨rfl, g1⟩)
    go_ret
    exact ⟨rfl, g1⟩
  have hzn : ((n : Int) == 0) = false := by simpa using hn0
  by_cases hx0 : x = 0
  · have hzx : ((x.toNat : Int) == 0) = true := by simp [hx0]
    clear hx0
    clear h1
    go_enter Try.func7, Try.ntmps7
    go_wp2_with (go_at_call 9; refine hK.mono ?_; rintro e w1 ⟨rfl, g1⟩)
    go_ret
    exact ⟨rfl, g1⟩
  have HX0 : Aside (x ≠ 0) := hx0
  have hzx : ((x.toNat : Int) == 0) = false := by
    rw [beq_eq_false_iff_ne]
    intro e
    exact hx0 (UInt8.toNat_inj.1 (by show x.toNat = 0; omega))
  clear hx0
  have E1 : Aside (0 ≤ z % (n : Int) ∧ z % (n : Int) < n) := ⟨Int.emod_nonneg _ (by omega), Int.emod_lt_of_pos z (by omega)⟩
  have hn2 : ¬ ((n : Int) = 0) := by omega
  have H : Aside (Sl w a n c l) := h1
  clear h1
  obtain ⟨i0, hi, hz0, hz1, hz2⟩ := info_parts info_u8
  go_enter Try.func7, Try.ntmps7
  go_wp2_with (go_at_call 9; refine hK.mono ?_; rintro e w1 ⟨rfl, g1⟩; refine Hid.out ?_)
  refine hid ?_
  have H1 : Aside (Below w.heap.size w w1 ∧ Sl w1 a n c l) := ⟨g1, H.out.keep g1⟩
  clear hK H g1
  obtain ⟨b, off, ha, hnews⟩ := H1.out.2.news (by omega)
  subst ha
  have hlen : (Lib.byteCells l).length = n * 1 := by simp [Lib.byteCells, H1.out.2.at_.len]
  have hones := byteCells_one l
  go_wp2_with (at_builtin; refine wpList_append_lies _ rfl _ _ 22 rfl w1.heap.size 5 i0 _ 1 1 Try.underlying22 hi hz0 hz1 hz2 rfl (by decide) _ 0 [] rfl (World.ownsRow_nil _ _ _ _) ⟨b, off, none⟩ n c (Lib.byteCells l) rfl hlen hnews hones (by omega) (by unfold maxLen; omega) (by omega) (Nat.le_refl _) w1.heap.size rfl ?_; intro g cap w2 hown hgr _ _; refine Hid.out ?_)
  refine hid ?_
  simp only [Nat.zero_add] at hown ⊢
  have hb2 : Below w1.heap.size w1 w2 := (Below.refl _ _).grown hgr (Nat.le_refl _) fun q hq => by cases hq
  have H2 : Aside (Below w.heap.size w w2 ∧ Sl w2 (some ⟨b, off, none⟩) n c l ∧ Own8 w1.heap.size w2 g n cap l) := ⟨H1.out.1.trans (hb2.mono H1.out.1.size), H1.out.2.keep hb2, by simpa [Own8] using hown⟩
  have HB : Aside (Below w1.heap.size w1 w2 ∧ w.heap.size ≤ w1.heap.size ∧ Sl w1 (some ⟨b, off, none⟩) n c l) := ⟨hb2, H1.out.1.size, H1.out.2⟩
  clear hown hgr hb2 hnews hlen hones hi hz0 hz1 hz2 H1
  go_upto_region 5 with fail
  go_cut [8] from 9 (fun t wx => ∃ k : Int, t = .int .i64 k ∧ 0 ≤ k ∧ k < n ∧ wx = w2)
  case first =>
    by_cases s1 : z < 0
    · go_wp2_with fail
      all_goals
        go_meet
        case rel => exact ⟨_, rfl, by first | omega | simp, by first | omega | (simp; omega), rfl⟩
    · go_wp2_with fail
      all_goals
        go_meet
        case rel => exact ⟨_, rfl, E1.out.1, E1.out.2, rfl⟩
  case rest =>
    obtain ⟨k', rfl, hk0, hkn, rfl⟩ := hcut
    obtain ⟨k, rfl⟩ := Int.eq_ofNat_of_zero_le hk0
    clear E1
    have hk : k < n := by omega
    have cg := H2.out.2.2.cell k hk
    have fg := H2.out.2.2.frz k
    unfold bth at cg
    have hxo := xor_u8 (l.getD k 0) x
    have HP : Aside (sumB l ≠ sumB (l.set k (l.getD k 0 ^^^ x))) := by
      have hl : k < l.length := by rw [H2.out.2.1.at_.len]; exact hk
      rw [set_parts l k _ hl]
      intro e
      rw [self_parts l k hl] at e
      have e2 : (l.take k ++ l.getD k 0 :: l.drop (k + 1)).take k = l.take k := by rw [← self_parts l k hl]
      have e3 : (l.take k ++ l.getD k 0 :: l.drop (k + 1)).drop (k + 1) = l.drop (k + 1) := by rw [← self_parts l k hl]
      have e4 : (l.take k ++ l.getD k 0 :: l.drop (k + 1)).getD k 0 = l.getD k 0 := by rw [← self_parts l k hl]
      rw [e2, e3, e4] at e
      exact sum_byte (xor_other HX0.out) e
    obtain ⟨y, hy⟩ : ∃ y, l.getD k 0 ^^^ x = y := ⟨_, rfl⟩
    rw [hy] at hxo HP
    obtain ⟨u, hu⟩ : ∃ u, (l.getD k 0).toNat = u := ⟨_, rfl⟩
    rw [hu] at hxo cg
    have hst := H2.out.2.2.store k y
    have hbs : Below w1.heap.size wc (wc.setCell ⟨g, k, none⟩ (.int .u8 (y.toNat : Int))) := (Below.refl _ _).setCell H2.out.2.2.lt.1 _
    have H3 : Aside (Below w.heap.size w (wc.setCell ⟨g, k, none⟩ (.int .u8 (y.toNat : Int))) ∧ Sl (wc.setCell ⟨g, k, none⟩ (.int .u8 (y.toNat : Int))) (some ⟨b, off, none⟩) n c l ∧ Own8 w1.heap.size (wc.setCell ⟨g, k, none⟩ (.int .u8 (y.toNat : Int))) g n cap (l.set k y)) :=
      ⟨H2.out.1.trans (hbs.mono HB.out.2.1), HB.out.2.2.keep (HB.out.1.trans hbs), hst⟩
    clear hst hbs hy hu H2 HB HX0
    go_upto_region 7 with fail
    generalize wc.setCell ⟨g, k, none⟩ (.int .u8 (y.toNat : Int)) = w3 at H3 ⊢
    clear cg fg hxo
    have hC := sum1 H3.out.2.1
    obtain ⟨p, hp⟩ : ∃ p, sumB l = p := ⟨_, rfl⟩
    rw [hp] at hC HP
    clear hp
    go_wp2_with (go_at_call 10; refine hC.mono ?_; rintro e w4 ⟨rfl, g4⟩; refine Hid.out ?_)
    refine hid ?_
    have H4 : Aside (Below w.heap.size w w4 ∧ Own8 w1.heap.size w4 g n cap (l.set k y)) := ⟨H3.out.1.trans (g4.mono H3.out.1.size), H3.out.2.2.keep g4⟩
    have hC := sum1 (H4.out.2.sl (by omega))
    obtain ⟨q, hq⟩ : ∃ q, sumB (l.set k y) = q := ⟨_, rfl⟩
    rw [hq] at hC HP
    clear hq g4 H3
    go_wp2_with (go_at_call 10; refine hC.mono ?_; rintro e w5 ⟨rfl, g5⟩)
    go_ret
    refine ⟨ret_bool ?_, H4.out.1.trans (g5.mono H4.out.1.size)⟩
    have hne : ((p : Int) == (q : Int)) = false := by rw [beq_eq_false_iff_ne]; intro h; exact HP.out (by omega)
    first | (simp [hne]; done) | (simp; have := HP.out; omega)
end Go.Proofs.Ytjfiojojacgccaa.sum
