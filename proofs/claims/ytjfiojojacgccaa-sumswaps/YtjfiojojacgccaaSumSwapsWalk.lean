/-
  SumSwaps: two bytes side by side that are unlike can't be changed for one another.
-/
import Derived.Test.YtjfiojojacgccaaSumKnown
namespace Go.Proofs.Ytjfiojojacgccaa.sum
open Go.ChangeShapes Go.WideShapes Go.ChangeAt Go.RowKit Go.Deep
open Go.Proofs.Ytjfiojojacgccaa.bytes
set_option linter.unusedVariables false
set_option maxRecDepth 100000
set_option linter.unusedSimpArgs false

theorem swap_sum (l : List UInt8) (k : Nat) (h : k + 1 < l.length) : sumB l = sumB ((l.set k (l.getD (k + 1) 0)).set (k + 1) (l.getD k 0)) ↔ l.getD k 0 = l.getD (k + 1) 0 := by
  have e1 : l = l.take k ++ l.getD k 0 :: l.getD (k + 1) 0 :: l.drop (k + 1 + 1) := by
    have a1 := self_parts l k (by omega)
    have a2 := List.drop_eq_getElem_cons h
    have a3 : l.getD (k + 1) 0 = l[k + 1] := by simp [h]
    rw [a3, ← a2]; exact a1
  have e2 : (l.set k (l.getD (k + 1) 0)).set (k + 1) (l.getD k 0) = l.take k ++ l.getD (k + 1) 0 :: l.getD k 0 :: l.drop (k + 1 + 1) := by
    rw [set_parts l k _ (by omega)]
    have hk : (l.take k).length = k := by rw [List.length_take]; omega
    rw [List.set_append, if_neg (by omega), hk, Nat.add_sub_cancel_left, List.set_cons_succ, List.drop_eq_getElem_cons h, List.set_cons_zero]
  generalize l.getD k 0 = x at e1 e2 ⊢
  generalize l.getD (k + 1) 0 = y at e1 e2 ⊢
  rw [e2]
  generalize l.take k = p at e1 ⊢
  generalize l.drop (k + 1 + 1) = q at e1 ⊢
  rw [e1]
  exact sum_swap

theorem both_of {w w' : World} {b : Nat} {i j : Nat} {x y : Value} (h : Below w.heap.size w w') (h1 : w.cell? ⟨b, i, none⟩ = some x) (h2 : w.cell? ⟨b, j, none⟩ = some y) : Below w.heap.size w w' ∧ w'.cell? ⟨b, i, none⟩ = some x ∧ w'.cell? ⟨b, j, none⟩ = some y :=
  ⟨h, (h.cell (p := ⟨b, i, none⟩) (cell_lt h1)).trans h1, (h.cell (p := ⟨b, j, none⟩) (cell_lt h2)).trans h2⟩

set_option maxHeartbeats 8000000 in
theorem swaps_walk (a : Option Addr) (n c : Nat) (l : List UInt8) (z : Int) (w : World) (h1 : Sl w a n c l) :
    Calls Try.prog 8 #[.slice a n c, .int .i64 z] w fun e w' => e = .returned (.bool true) ∧ Below w.heap.size w w' := by
  have hK := known_any w
  by_cases hbig : 1500 < n
  · have hz : (1500 : Int) < (n : Int) := by omega
    clear h1
    go_enter Try.func8, Try.ntmps8
    go_wp2_with (go_at_call 9; refine hK.mono ?_; rintro e w1 ⟨rfl, g1⟩)
    go_ret
    exact ⟨rfl, g1⟩
  have hz : ¬ (1500 : Int) < (n : Int) := by omega
  by_cases hn0 : n < 2
  · have hzn : (n : Int) < 2 := by omega
    clear hn0
    clear h1
    go_enter Try.func8, Try.ntmps8
    go_wp2_with (go_at_call 9; refine hK.mono ?_; rintro e w1 ⟨rfl, g1⟩)
    go_ret
    exact ⟨rfl, g1⟩
  have hzn : ¬ (n : Int) < 2 := by omega
  have E1 : Aside (0 ≤ z % ((n : Int) - 1) ∧ z % ((n : Int) - 1) < (n : Int) - 1) := ⟨Int.emod_nonneg _ (by omega), Int.emod_lt_of_pos z (by omega)⟩
  have hn2 : ¬ ((n : Int) - 1 = 0) := by omega
  have H : Aside (Sl w a n c l) := h1
  clear h1
  obtain ⟨i0, hi, hz0, hz1, hz2⟩ := info_parts info_u8
  go_enter Try.func8, Try.ntmps8
  go_wp2_with (go_at_call 9; refine hK.mono ?_; rintro e w1 ⟨rfl, g1⟩; refine Hid.out ?_)
  refine hid ?_
  have H1 : Aside (Below w.heap.size w w1 ∧ Sl w1 a n c l) := ⟨g1, H.out.keep g1⟩
  clear hK H g1
  obtain ⟨b, off, ha, hnews⟩ := H1.out.2.news (by omega)
  subst ha
  have hlen : (Lib.byteCells l).length = n * 1 := by simp [Lib.byteCells, H1.out.2.at_.len]
  have hones := byteCells_one l
  go_wp2_with (at_builtin; refine wpList_append_lies _ rfl _ _ 22 rfl w1.heap.size 5 i0 _ 1 1 Try.underlying22 hi hz0 hz1 hz2 rfl (by decide) _ 0 [] rfl (World.ownsRow_nil _ _ _ _) ⟨b, off, none⟩ n c (Lib.byteCells l) rfl hlen hnews hones (by omega) (by unfold maxLen; omega) (by omega) (Nat.le_refl _) w1.heap.size rfl ?_; intro g cap w2 hown hgr _ _; refine Hid.out ?_)
  refine hid ?_
  simp only [Nat.zero_add] at hown ⊢
  have hb2 : Below w1.heap.size w1 w2 := (Below.refl _ _).grown hgr (Nat.le_refl _) fun q hq => by cases hq
  have H2 : Aside (Below w.heap.size w w2 ∧ Sl w2 (some ⟨b, off, none⟩) n c l ∧ Own8 w1.heap.size w2 g n cap l) := ⟨H1.out.1.trans (hb2.mono H1.out.1.size), H1.out.2.keep hb2, by simpa [Own8] using hown⟩
  have HB : Aside (Below w1.heap.size w1 w2 ∧ w.heap.size ≤ w1.heap.size ∧ Sl w1 (some ⟨b, off, none⟩) n c l) := ⟨hb2, H1.out.1.size, H1.out.2⟩
  clear hown hgr hb2 hnews hlen hones hi hz0 hz1 hz2 H1
  go_upto_region 5 with fail
  go_cut [6] from 8 (fun t wx => ∃ k : Int, t = .int .i64 k ∧ 0 ≤ k ∧ k < (n : Int) - 1 ∧ wx = w2)
  case first =>
    by_cases s1 : z < 0
    · go_wp2_with fail
      all_goals
        go_meet
        case rel => exact ⟨_, rfl, by first | omega | simp, by first | omega | (simp; omega), rfl⟩
    · go_wp2_with fail
      all_goals
        go_meet
        case rel => exact ⟨_, rfl, E1.out.1, E1.out.2, rfl⟩
  case rest =>
    obtain ⟨k', rfl, hk0, hkn, rfl⟩ := hcut
    obtain ⟨k, rfl⟩ := Int.eq_ofNat_of_zero_le hk0
    clear E1
    have hk : k + 1 < n := by omega
    have cg := H2.out.2.2.cell k (by omega)
    have cg2 := H2.out.2.2.cell (k + 1) hk
    have fg := H2.out.2.2.frz k
    have fg2 := H2.out.2.2.frz (k + 1)
    unfold bth at cg cg2
    have HP : Aside (sumB l = sumB ((l.set k (l.getD (k + 1) 0)).set (k + 1) (l.getD k 0)) ↔ l.getD k 0 = l.getD (k + 1) 0) := swap_sum l k (by rw [H2.out.2.1.at_.len]; exact hk)
    obtain ⟨x, hx⟩ : ∃ x, l.getD k 0 = x := ⟨_, rfl⟩
    obtain ⟨y, hy⟩ : ∃ y, l.getD (k + 1) 0 = y := ⟨_, rfl⟩
    rw [hx, hy] at HP
    rw [hx] at cg
    rw [hy] at cg2
    have hst := (H2.out.2.2.store k y).store (k + 1) x
    have hbs : Below w1.heap.size wc ((wc.setCell ⟨g, k, none⟩ (.int .u8 (y.toNat : Int))).setCell ⟨g, k + 1, none⟩ (.int .u8 (x.toNat : Int))) := ((Below.refl _ _).setCell H2.out.2.2.lt.1 _).setCell H2.out.2.2.lt.1 _
    have H3 : Aside (Below w.heap.size w ((wc.setCell ⟨g, k, none⟩ (.int .u8 (y.toNat : Int))).setCell ⟨g, k + 1, none⟩ (.int .u8 (x.toNat : Int))) ∧ Sl ((wc.setCell ⟨g, k, none⟩ (.int .u8 (y.toNat : Int))).setCell ⟨g, k + 1, none⟩ (.int .u8 (x.toNat : Int))) (some ⟨b, off, none⟩) n c l ∧ Own8 w1.heap.size ((wc.setCell ⟨g, k, none⟩ (.int .u8 (y.toNat : Int))).setCell ⟨g, k + 1, none⟩ (.int .u8 (x.toNat : Int))) g n cap ((l.set k y).set (k + 1) x)) :=
      ⟨H2.out.1.trans (hbs.mono HB.out.2.1), HB.out.2.2.keep (HB.out.1.trans hbs), hst⟩
    have HXY : Aside (l.getD k 0 = x ∧ l.getD (k + 1) 0 = y) := ⟨hx, hy⟩
    clear hst hbs hx hy H2 HB
    go_upto_region 9 with fail
    generalize (wc.setCell ⟨g, k, none⟩ (.int .u8 (y.toNat : Int))).setCell ⟨g, k + 1, none⟩ (.int .u8 (x.toNat : Int)) = w3 at H3 ⊢
    clear cg cg2 fg fg2
    obtain ⟨b', off', ha, hcc⟩ := H3.out.2.1.at_.mem.get (by rw [H3.out.2.1.at_.len]; omega)
    simp only [Option.some.injEq, Addr.mk.injEq, and_true] at ha
    obtain ⟨rfl, rfl⟩ := ha
    have r1 := hcc k (by rw [H3.out.2.1.at_.len]; omega)
    have r2 := hcc (k + 1) (by rw [H3.out.2.1.at_.len]; omega)
    unfold bth at r1 r2
    rw [HXY.out.1] at r1
    rw [HXY.out.2] at r2
    clear hcc HXY
    have C1 : ∀ W g', Below w3.heap.size w3 W → W.cell? ⟨g', 0, none⟩ = some (.slice (some ⟨b, off, none⟩) n c) → Calls Try.prog 10 #[.slice (some ⟨g', 0, none⟩) 1 1] W fun e w' => e = .returned (.int .u32 (sumB l : Nat)) ∧ Aside (Below W.heap.size W w') ∧ Aside (Below w3.heap.size w3 w') :=
      fun W g' hb h0 => (sumAt1 H3.out.2.1 W g' hb h0).mono fun e w' ⟨g1, g2⟩ => ⟨g1, g2, hb.trans (g2.mono hb.size)⟩
    have C2 : ∀ W g', Below w3.heap.size w3 W → W.cell? ⟨g', 0, none⟩ = some (.slice (some ⟨g, 0, none⟩) n cap) → Calls Try.prog 10 #[.slice (some ⟨g', 0, none⟩) 1 1] W fun e w' => e = .returned (.int .u32 (sumB ((l.set k y).set (k + 1) x) : Nat)) ∧ Aside (Below w3.heap.size w3 w') :=
      fun W g' hb h0 => (sumAt1 (H3.out.2.2.sl (by omega)) W g' hb h0).mono fun e w' ⟨g1, g2⟩ => ⟨g1, hb.trans (g2.mono hb.size)⟩
    obtain ⟨p, hp⟩ : ∃ p, sumB l = p := ⟨_, rfl⟩
    obtain ⟨q, hq⟩ : ∃ q, sumB ((l.set k y).set (k + 1) x) = q := ⟨_, rfl⟩
    rw [hp] at C1 HP
    rw [hq] at C2 HP
    clear hp hq
    have H4 : Aside (Below w.heap.size w w3) := H3.out.1
    have HR : Aside (w3.cell? ⟨b, off + k, none⟩ = some (.int .u8 (x.toNat : Int)) ∧ w3.cell? ⟨b, off + (k + 1), none⟩ = some (.int .u8 (y.toNat : Int))) := ⟨r1, r2⟩
    have HXY : Aside ((p = q) ↔ (x.toNat = y.toNat)) := by
      show _ ↔ _
      rw [HP.out]
      exact UInt8.toNat_inj.symm
    generalize x.toNat = xn at r1 r2 HR HXY
    generalize y.toNat = yn at r1 r2 HR HXY
    clear H3 HP
    have b1 : (k : Int) < (n : Int) := by omega
    have b2 : (0 : Int) ≤ (k : Int) := by omega
    have b3 : (k : Int) + 1 < (n : Int) := by omega
    have b4 : (0 : Int) ≤ (k : Int) + 1 := by omega
    have b5 : IntKind.i64.wrap ((k : Int) + 1) = ((k + 1 : Nat) : Int) := by rw [IntKind.wrap_i64]; omega
    have b6 : ((k + 1 : Nat) : Int) < (n : Int) := by omega
    have b7 : (0 : Int) ≤ ((k + 1 : Nat) : Int) := by omega
    go_wp2_with fail
    go_region_held3 (fun w' => Below w3.heap.size w3 w' ∧ w'.cell? ⟨b, off + k, none⟩ = some (.int .u8 (xn : Nat)) ∧ w'.cell? ⟨b, off + (k + 1), none⟩ = some (.int .u8 (yn : Nat)))
      (first | with_reducible assumption | (refine both_of ?_ HR.out.1 HR.out.2; repeat (first | with_reducible exact Below.refl _ _ | with_reducible exact hw3.out | with_reducible exact hw2b.out | (with_reducible refine Below.drew ?_) | (with_reducible refine Below.alloc ?_ (by first | omega | (simp; done) | (simp; omega) | (have := hw2b.out.size; omega) | (have := hw2b.out.size; simp; omega)) _))))
      ((first
        | (go_at_call 10; with_reducible refine (C1 _ _ ?_ ?_).mono ?_; (focus (apply And.left; assumption)); (focus (simp [go_sem]; done)); rintro e w2 ⟨rfl, hw2, hw2b⟩)
        | (go_at_call 10; with_reducible refine (C2 _ _ ?_ ?_).mono ?_; (focus (apply And.left; assumption)); (focus (first | (simp [go_sem]; done) | exact (hw2.out.cell (by simp <;> omega)).trans (by simp [go_sem]))); rintro e w3' ⟨rfl, hw3⟩)))
    all_goals
      go_wp2
      go_ret
      refine ⟨ret_bool ?_, H4.out.trans (hw3.out.mono H4.out.size)⟩
      have := HXY.out
      by_cases e : xn = yn
      · have e' := this.2 e
        subst e e'
        simp
      · have e' : ¬ p = q := fun h => e (this.1 h)
        have a1 : ((p : Int) == (q : Int)) = false := by rw [beq_eq_false_iff_ne]; intro h; exact e' (by omega)
        have a2 : ((xn : Int) == (yn : Int)) = false := by rw [beq_eq_false_iff_ne]; intro h; exact e (by omega)
        simp [a1, a2]
end Go.Proofs.Ytjfiojojacgccaa.sum
