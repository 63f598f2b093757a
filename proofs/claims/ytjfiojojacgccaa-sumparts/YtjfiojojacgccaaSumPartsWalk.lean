/-
  SumParts: bytes are summed alike, however they are cut.
-/
import Derived.Test.YtjfiojojacgccaaSumKnown
namespace Go.Proofs.Ytjfiojojacgccaa.sum
open Go.ChangeShapes Go.WideShapes Go.ChangeAt Go.RowKit Go.Deep
open Go.Proofs.Ytjfiojojacgccaa.bytes
set_option linter.unusedVariables false
set_option maxRecDepth 100000
set_option linter.unusedSimpArgs false

theorem sumAt4 {w : World} {a b e : Option Addr} {n c m d k f : Nat} {l1 l2 l3 : List UInt8} (h1 : Sl w a n c l1) (h2 : Sl w b m d l2) (h3 : Sl w e k f l3) (W : World) (g : Nat) (hb : Below w.heap.size w W)
    (c0 : W.cell? ⟨g, 0, none⟩ = some (.slice a n c)) (c1 : W.cell? ⟨g, 1, none⟩ = some (.slice b m d)) (c2 : W.cell? ⟨g, 2, none⟩ = some (.slice none 0 0)) (c3 : W.cell? ⟨g, 3, none⟩ = some (.slice e k f)) :
    Calls Try.prog 10 #[.slice (some ⟨g, 0, none⟩) 4 4] W fun o w' => o = .returned (.int .u32 (sumB (l1 ++ (l2 ++ l3)) : Nat)) ∧ Below W.heap.size W w' :=
  (sum_any 4 4 (some ⟨g, 0, none⟩) [⟨a, c, l1⟩, ⟨b, d, l2⟩, ⟨none, 0, []⟩, ⟨e, f, l3⟩] W (.inr ⟨g, 0, rfl, fun i hi => by
      match i, hi with
      | 0, _ => exact ⟨by rw [Nat.zero_add]; show _ = some (Value.slice a l1.length c); rw [h1.at_.len]; exact c0, (h1.keep hb).at_.mem⟩
      | 1, _ => exact ⟨by rw [Nat.zero_add]; show _ = some (Value.slice b l2.length d); rw [h2.at_.len]; exact c1, (h2.keep hb).at_.mem⟩
      | 2, _ => exact ⟨by rw [Nat.zero_add]; exact c2, .inl rfl⟩
      | 3, _ => exact ⟨by rw [Nat.zero_add]; show _ = some (Value.slice e l3.length f); rw [h3.at_.len]; exact c3, (h3.keep hb).at_.mem⟩⟩) rfl (by omega) (fun x hx => by
      simp at hx
      rcases hx with hx | hx | hx | hx
      · subst hx; rw [h1.at_.len]; exact h1.max
      · subst hx; rw [h2.at_.len]; exact h2.max
      · subst hx; simp
      · subst hx; rw [h3.at_.len]; exact h3.max)).mono fun o w' ⟨g1, g2⟩ => by
    refine ⟨by rw [g1]; simp [flat], g2⟩

theorem both_of {w w' : World} (h : Below w.heap.size w w') : Below w.heap.size w w' ∧ w.heap.size ≤ w'.heap.size := ⟨h, h.size⟩

set_option maxHeartbeats 8000000 in
theorem parts_walk (a : Option Addr) (n c : Nat) (l : List UInt8) (z1 z2 : Int) (w : World) (h1 : Sl w a n c l) :
    Calls Try.prog 6 #[.slice a n c, .int .i64 z1, .int .i64 z2] w fun e w' => e = .returned (.bool true) ∧ Below w.heap.size w w' := by
  have hK := known_any w
  by_cases hbig : 1500 < n
  · have hz : (1500 : Int) < (n : Int) := by omega
    clear h1
    go_enter Try.func6, Try.ntmps6
    go_wp2_with (go_at_call 9; refine hK.mono ?_; rintro e w1 ⟨rfl, g1⟩)
    go_ret
    exact ⟨rfl, g1⟩
  have hz : ¬ (1500 : Int) < (n : Int) := by omega
  have H : Aside (Sl w a n c l) := h1
  clear h1
  have hcn : n ≤ c := H.out.at_.cap
  have hn1 : wrap64 ((n : Int) + 1) = (n : Int) + 1 := by unfold wrap64; omega
  have hn2 : ¬ ((n : Int) + 1 = 0) := by omega
  have E1 : Aside (0 ≤ z1 % ((n : Int) + 1) ∧ z1 % ((n : Int) + 1) ≤ n) := ⟨Int.emod_nonneg _ (by omega), by have := Int.emod_lt_of_pos z1 (b := (n : Int) + 1) (by omega); omega⟩
  go_enter Try.func6, Try.ntmps6
  go_wp2_with (go_at_call 9; refine hK.mono ?_; rintro e w1 ⟨rfl, g1⟩; refine Hid.out ?_)
  refine hid ?_
  have H1 : Aside (Below w.heap.size w w1 ∧ Sl w1 a n c l) := ⟨g1, H.out.keep g1⟩
  clear hK H g1
  go_upto_region 3 with fail
  go_cut [7] from 8 (fun t wx => ∃ x : Int, t = .int .i64 x ∧ 0 ≤ x ∧ x ≤ n ∧ wx = w1)
  case first =>
    (
      by_cases s1 : z1 < 0
      · go_wp2_with fail
        all_goals
          go_meet
          case rel => exact ⟨_, rfl, by first | omega | simp, by first | omega | simp, rfl⟩
      · go_wp2_with fail
        all_goals
          go_meet
          case rel => exact ⟨_, rfl, E1.out.1, E1.out.2, rfl⟩)
  case rest =>
    obtain ⟨x, rfl, hx0, hxn, rfl⟩ := hcut
    obtain ⟨u, rfl⟩ := Int.eq_ofNat_of_zero_le hx0
    clear hx0 E1
    have hr3 : ¬ ((n : Int) - (u : Int) + 1 = 0) := by omega
    have E2 : Aside (0 ≤ z2 % ((n : Int) - (u : Int) + 1) ∧ z2 % ((n : Int) - (u : Int) + 1) ≤ (n : Int) - u) := ⟨Int.emod_nonneg _ (by omega), by have := Int.emod_lt_of_pos z2 (b := (n : Int) - (u : Int) + 1) (by omega); omega⟩
    go_upto_region 4 with fail
    go_cut [8] from 9 (fun t wx => ∃ x : Int, t = .int .i64 x ∧ (u : Int) ≤ x ∧ x ≤ n ∧ wx = wc)
    case first =>
      (
        by_cases s2 : z2 < 0
        · go_wp2_with fail
          all_goals
            go_meet
            case rel => exact ⟨_, rfl, by first | omega | (simp; omega), by first | omega | (simp; omega), rfl⟩
        · go_wp2_with fail
          all_goals
            go_meet
            case rel =>
              have e := E2.out
              exact ⟨_, rfl, by unfold wrap64; omega, by unfold wrap64; omega, rfl⟩)
    case rest =>
      obtain ⟨x, rfl, hx0, hxn2, rfl⟩ := hcut
      obtain ⟨v, rfl⟩ := Int.eq_ofNat_of_zero_le (Int.le_trans (by omega : (0 : Int) ≤ u) hx0)
      have hv : u ≤ v ∧ v ≤ n := ⟨by omega, by omega⟩
      have HF : Aside (Sl wc a n c l ∧ Sl wc a u c (l.take u) ∧ Sl wc (shift a c u) (v - u) (c - u) ((l.take v).drop u) ∧ Sl wc (shift a c v) (n - v) (c - v) (l.drop v)) := by
        have h := H1.out.2
        exact ⟨h, h.front u (by omega), (h.front v (by omega)).back u (by omega), h.back v (by omega)⟩
      have HE : Aside (l.take u ++ ((l.take v).drop u ++ l.drop v) = l) := sum_parts l hv.1
      obtain ⟨q1, hq1⟩ : ∃ q, shift a c u = q := ⟨_, rfl⟩
      obtain ⟨q2, hq2⟩ : ∃ q, shift a c v = q := ⟨_, rfl⟩
      rw [hq1, hq2] at HF
      have hs1 : (if c = u then a else a.map fun x => x.add u) = q1 := hq1
      have hs2 : (if c = v then a else a.map fun x => x.add v) = q2 := hq2
      clear hq1 hq2
      have C1 : ∀ W b, Below wc.heap.size wc W → W.cell? ⟨b, 0, none⟩ = some (.slice a n c) → Calls Try.prog 10 #[.slice (some ⟨b, 0, none⟩) 1 1] W fun e w' => e = .returned (.int .u32 (sumB l : Nat)) ∧ Aside (Below W.heap.size W w') ∧ Aside (Below wc.heap.size wc w') :=
        fun W b hb h0 => (sumAt1 HF.out.1 W b hb h0).mono fun e w' ⟨g1, g2⟩ => ⟨g1, g2, hb.trans (g2.mono hb.size)⟩
      have C4 : ∀ W g, Below wc.heap.size wc W → W.cell? ⟨g, 0, none⟩ = some (.slice a u c) → W.cell? ⟨g, 1, none⟩ = some (.slice q1 (v - u) (c - u)) → W.cell? ⟨g, 2, none⟩ = some (.slice none 0 0) → W.cell? ⟨g, 3, none⟩ = some (.slice q2 (n - v) (c - v)) → Calls Try.prog 10 #[.slice (some ⟨g, 0, none⟩) 4 4] W fun e w' => e = .returned (.int .u32 (sumB l : Nat)) ∧ Aside (Below wc.heap.size wc w') :=
        fun W g hb c0 c1 c2 c3 => (sumAt4 HF.out.2.1 HF.out.2.2.1 HF.out.2.2.2 W g hb c0 c1 c2 c3).mono fun e w' ⟨g1, g2⟩ => ⟨by rw [g1, HE.out], hb.trans (g2.mono hb.size)⟩
      obtain ⟨s, hs⟩ : ∃ s, sumB l = s := ⟨_, rfl⟩
      rw [hs] at C1 C4
      clear hs HE HF
      have b1 : (u : Int) ≤ (c : Int) := by omega
      have b2 : (v : Int) ≤ (c : Int) := by omega
      have b3 : (u : Int) ≤ (v : Int) := by omega
      have b4 : (u : Int) ≤ (n : Int) := by omega
      have b5 : (v : Int) ≤ (n : Int) := by omega
      have b6 : (0 : Int) ≤ (u : Int) := by omega
      have b7 : (0 : Int) ≤ (v : Int) := by omega
      go_wp2_with fail
      go_region_held3 (fun w' => Below wc.heap.size wc w' ∧ wc.heap.size ≤ w'.heap.size)
        (first | with_reducible assumption | (refine both_of ?_; repeat (first | with_reducible exact Below.refl _ _ | with_reducible exact hw3.out | with_reducible exact hw2b.out | (with_reducible refine Below.drew ?_) | (with_reducible refine Below.alloc ?_ (by first | omega | (simp; done) | (simp; omega) | (have := hw2b.out.size; omega) | (have := hw2b.out.size; simp; omega)) _))))
        ((first
          | (go_at_call 10; with_reducible refine (C1 _ _ ?_ ?_).mono ?_; (focus (apply And.left; assumption)); (focus (simp [go_sem])); rintro e w2 ⟨rfl, hw2, hw2b⟩)
          | (go_at_call 10; with_reducible refine (C4 _ _ ?_ ?_ ?_ ?_ ?_).mono ?_; (focus (apply And.left; assumption)); (focus (first | (simp [go_sem]; done) | exact (hw2.out.cell (by simp <;> omega)).trans (by simp [go_sem]))); (focus (first | (simp [go_sem]; done) | exact (hw2.out.cell (by simp <;> omega)).trans (by simp [go_sem]))); (focus (first | (simp [go_sem]; done) | exact (hw2.out.cell (by simp <;> omega)).trans (by simp [go_sem]))); (focus (first | (simp [go_sem]; done) | exact (hw2.out.cell (by simp <;> omega)).trans (by simp [go_sem]))); rintro e w3 ⟨rfl, hw3⟩)))
      all_goals
        go_wp2
        go_ret
        exact ⟨rfl, H1.out.1.trans (hw3.out.mono H1.out.1.size)⟩
end Go.Proofs.Ytjfiojojacgccaa.sum
