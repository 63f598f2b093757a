/-
  The contract of slices.CompactFunc of spans by their nodes: one of each run stays.
-/
import Derived.Test.YtfhihkogdnbghaaSpanCompact
namespace Go.Proofs.Ytfhihkogdnbghaa.spans
open Go.ChangeShapes Go.WideShapes Go.ChangeAt Go.RowKit Go.Deep
open Go.Proofs.Ytfhihkogdnbghaa.bytes (ret_bool hid nth addr_add cell_lt own_below own_mono Grw wp_region_grow grow_same grow_of)
set_option linter.unusedVariables false
set_option maxRecDepth 100000
set_option linter.unusedSimpArgs false

theorem cpt_take {l : List Sp} {k : Nat} (hk : k < l.length) (h0 : 0 < k) : cpt (l.take (k + 1)) = if (spn l (k - 1)).2 = (spn l k).2 then cpt (l.take k) else cpt (l.take k) ++ [spn l k] := by
  rw [take_spn hk, cpt_snoc, cpt_last]
  have e : lastN (l.take k) = (spn l (k - 1)).2 := by
    obtain ⟨j, rfl⟩ : ∃ j, k = j + 1 := ⟨k - 1, by omega⟩
    rw [take_spn (show j < l.length by omega), lastN_snoc]; rfl
  rw [e]
/-- between two rounds of the second loop: 'k' stay, of the first 'm' -/
structure CI (l : List Sp) (m k : Nat) (L : List Sp) : Prop where
  len : L.length = l.length
  low : L.take k = cpt (l.take m)
  cnt : k = (cpt (l.take m)).length
  lt : k < m
  le : m ≤ l.length
  high : ∀ j, m ≤ j + 1 → j < l.length → spn L j = spn l j
theorem spn_set {L : List Sp} {k j : Nat} {s : Sp} (h : j ≠ k) : spn (L.set k s) j = spn L j := by
  unfold spn
  rw [List.getD_eq_getElem?_getD, List.getD_eq_getElem?_getD, List.getElem?_set_ne (fun e => h e.symm)]
theorem CI.same {l L : List Sp} {m k : Nat} (h : CI l m k L) (hm : m < l.length) (he : (spn l (m - 1)).2 = (spn l m).2) : CI l (m + 1) k L := by
  have hlt := h.lt
  have e := cpt_take hm (by omega)
  rw [if_pos he] at e
  exact ⟨h.len, by rw [e]; exact h.low, by rw [e]; exact h.cnt, by omega, by omega, fun j hj hj2 => h.high j (by omega) hj2⟩
theorem CI.more {l L : List Sp} {m k : Nat} (h : CI l m k L) (hm : m < l.length) (he : ¬ (spn l (m - 1)).2 = (spn l m).2) : CI l (m + 1) (k + 1) (L.set k (spn l m)) := by
  have hlt := h.lt
  have hln := h.len
  have e := cpt_take hm (by omega)
  rw [if_neg he] at e
  refine ⟨by rw [List.length_set]; exact h.len, ?_, by rw [e, List.length_append, ← h.cnt]; rfl, by omega, by omega, fun j hj hj2 => ?_⟩
  · rw [e, ← h.low, List.take_succ_eq_append_getElem (by rw [List.length_set]; omega), List.getElem_set_self, List.take_set_of_le (Nat.le_refl _)]
  · rw [spn_set (by omega)]; exact h.high j (by omega) hj2
theorem CI.start {l : List Sp} {k : Nat} (h0 : 0 < k) (hk : k < l.length) (hc : cpt (l.take k) = l.take k) (he : (spn l (k - 1)).2 = (spn l k).2) : CI l (k + 1) k l := by
  have e := cpt_take hk h0
  rw [if_pos he, hc] at e
  exact ⟨rfl, e.symm, by rw [e, List.length_take]; omega, by omega, by omega, fun j _ _ => rfl⟩

/-- what comes out -/
def CompOut (B g n c : Nat) (w : World) (l : List Sp) (e : Ending) (w' : World) : Prop := ∃ q, q = (cpt l).length ∧ q ≤ n ∧ e = .returned (.slice (some ⟨g, 0, none⟩) q c) ∧ So B w' (.slice (some ⟨g, 0, none⟩) q c) (cpt l) ∧ w.grownBy w' (some g)

set_option maxRecDepth 100000 in
set_option maxHeartbeats 8000000 in
theorem compact_any (B g n c : Nat) (l : List Sp) (w : World) (hown : So B w (.slice (some ⟨g, 0, none⟩) n c) l) (hp : ∀ s ∈ l, 0 ≤ s.2) (hB : B ≤ w.heap.size) (h0 : 0 < n) (hn9 : n ≤ 1000) :
    Calls Try.prog 50 #[.slice (some ⟨g, 0, none⟩) n c, .func (.func 51) #[] #[]] w (CompOut B g n c w l) := by
  obtain ⟨hcap, hln, hcm⟩ := hown.cap
  have hc9 : c ≤ 9223372036854775807 := hcm
  have h1 : cpt (l.take 1) = l.take 1 := by
    cases l with
    | nil => simp at hln; omega
    | cons s r =>
      have := hp s (by simp)
      show (if (-1 : Int) = s.2 then [] else [] ++ [s]) = [s]
      rw [if_neg (by omega)]; rfl
  have H : Aside (So B w (.slice (some ⟨g, 0, none⟩) n c) l ∧ l.length = n ∧ B ≤ w.heap.size ∧ cpt (l.take 1) = l.take 1) := ⟨hown, hln.symm, hB, h1⟩
  clear hown hp hB h1 hcm hln
  go_enter Try.func50, Try.ntmps50
  by_cases h2 : n < 2
  · have h2z : (n : Int) < 2 := by omega
    obtain rfl : n = 1 := by omega
    have E : Aside (CompOut B g 1 c w l (.returned (.slice (some ⟨g, 0, none⟩) 1 c)) w) := by
      have e : cpt l = l := by
        have := H.out.2.2.2
        rwa [List.take_of_length_le (by rw [H.out.2.1]; exact Nat.le_refl _)] at this
      exact ⟨1, by rw [e, H.out.2.1], Nat.le_refl _, rfl, by rw [e]; exact H.out.1, World.grownBy.refl _ _⟩
    clear h2
    go_wp2
    go_ret
    exact E.out
  have h2z : ¬ (n : Int) < 2 := by omega
  clear h2
  go_wp2_with fail
  go_loopg [5, 6, 7] n (fun g1 vk v6 v7 wr => ∃ (k : Nat), vk = .int .i64 k ∧ 1 ≤ k ∧ k ≤ n ∧ n - k ≤ g1 ∧ Aside (So B wr (.slice (some ⟨g, 0, none⟩) n c) l ∧ w.grownBy wr (some g) ∧ cpt (l.take k) = l.take k))
  case atStart => exact ⟨1, rfl, Nat.le_refl _, by omega, by omega, H.out.1, World.grownBy.refl _ _, H.out.2.2.2⟩
  case round =>
    obtain ⟨k, rfl, hk1, hk, hg1, SK⟩ := hrel
    by_cases hlt : k < n
    · have hltz : (k : Int) < (n : Int) := by omega
      obtain ⟨k', rfl⟩ : ∃ k', k = k' + 1 := ⟨k - 1, by omega⟩
      have hkp : ((k' + 1 : Nat) : Int) - 1 = (k' : Int) := by omega
      have hkn : (k' : Int) < (n : Int) := by omega
      obtain ⟨a1, a2⟩ := SK.out.1.cells H.out.2.1 (k := k' + 1) hlt
      obtain ⟨b1, b2⟩ := SK.out.1.cells H.out.2.1 (k := k') (by omega)
      have hC := fun W => given1_any (spn l (k' + 1)) (spn l k') W
      have HE : Aside (cpt (l.take (k' + 1 + 1)) = if (spn l k').2 = (spn l (k' + 1)).2 then cpt (l.take (k' + 1)) else cpt (l.take (k' + 1)) ++ [spn l (k' + 1)]) := cpt_take (by rw [H.out.2.1]; exact hlt) (by omega)
      unfold spV at hC
      obtain ⟨q, hq⟩ : ∃ q, decide ((spn l (k' + 1)).2 = (spn l k').2) = q := ⟨_, rfl⟩
      rw [hq] at hC
      have HQ : Hid (decide ((spn l (k' + 1)).2 = (spn l k').2) = q) := hq
      clear hq
      generalize hx1 : (spn l (k' + 1)).1 = x1 at a1 hC
      generalize hx2 : (spn l (k' + 1)).2 = x2 at a2 hC
      generalize hz1 : (spn l k').1 = z1 at b1 hC
      generalize hz2 : (spn l k').2 = z2 at b2 hC
      clear hx1 hx2 hz1 hz2
      go_upto_region 6 with fail
      obtain ⟨W1, hW1⟩ : ∃ W1, wr = W1 := ⟨_, rfl⟩
      rw [hW1] at a1 a2 b1 b2 SK
      rw [hW1]
      clear hW1
      have A1 := fun gw : Grw W1 => gw.cell a1
      have A2 := fun gw : Grw W1 => gw.cell a2
      have B1 := fun gw : Grw W1 => gw.cell b1
      have B2 := fun gw : Grw W1 => gw.cell b2
      clear a1 a2 b1 b2
      have hNE : Nonempty (Grw W1) := ⟨⟨W1, Below.refl _ _⟩⟩
      refine wp_region_grow (by kernel_rfl) (by kernel_rfl) ?_
      repeat (go_big_quiet_step (first | (go_at_call 51; refine grow_of (hC _))))
      refine wpQuiet_nil ?_
      rintro _ ⟨gw, rfl⟩
      have S2 : Aside (So B gw.X (.slice (some ⟨g, 0, none⟩) n c) l ∧ w.grownBy gw.X (some g) ∧ cpt (l.take (k' + 1)) = l.take (k' + 1)) := ⟨SK.out.1.keep gw.bel, SK.out.2.1.andThen ⟨gw.bel.os, gw.bel.tape, gw.bel.output, gw.bel.size, fun i hi _ => gw.bel.block i hi⟩ fun j hj => .inr hj, SK.out.2.2⟩
      clear SK A1 A2 B1 B2
      generalize gw.X = W2 at S2 ⊢
      cases q with
      | false =>
        have he : ¬ (spn l k').2 = (spn l (k' + 1)).2 := fun e => by have := of_decide_eq_false HQ.out; exact this e.symm
        have HE2 : Aside (cpt (l.take (k' + 1 + 1)) = l.take (k' + 1 + 1)) := by
          show _ = _
          rw [HE.out, if_neg he, S2.out.2.2, ← take_spn (by rw [H.out.2.1]; exact hlt)]
        clear he HE
        go_wp2
        go_roundg (n - (k' + 1 + 1))
        case measure => omega
        case rel => exact ⟨k' + 1 + 1, by go_num, by omega, by omega, by omega, S2.out.1, S2.out.2.1, HE2.out⟩
      | true =>
        have he : (spn l (k' + 1 - 1)).2 = (spn l (k' + 1)).2 := (of_decide_eq_true HQ.out).symm
        have HI : Aside (CI l (k' + 1 + 1) (k' + 1) l) := CI.start (by omega) (by rw [H.out.2.1]; exact hlt) S2.out.2.2 he
        clear he HE
        have hck : ¬ c = k' + 1 := by omega
        have hck2 : ¬ (c : Int) = (k' : Int) + 1 := by omega
        obtain ⟨K0, hK0⟩ : ∃ K0, k' + 1 = K0 := ⟨_, rfl⟩
        go_wp2_with fail
        rw [hK0] at HI hck hlt ⊢
        obtain ⟨N2, hN2⟩ : ∃ N2, n - K0 = N2 := ⟨_, rfl⟩
        obtain ⟨C2, hC2⟩ : ∃ C2, c - K0 = C2 := ⟨_, rfl⟩
        rw [hN2, hC2]
        have hnn : K0 + N2 = n := by omega
        have hcc : N2 ≤ C2 := by omega
        have HC2 : Aside (C2 ≤ 9223372036854775807 ∧ K0 = k' + 1) := ⟨by omega, hK0.symm⟩
        clear hN2 hC2 hck2 hK0 hkp hkn hC HQ
        go_loopg [5, 7] N2 (fun g2 vk v7 wr => ∃ (kk j : Nat) (L : List Sp), vk = .int .i64 kk ∧ v7 = .int .i64 j ∧ 1 ≤ j ∧ j ≤ N2 ∧ N2 - j ≤ g2 ∧ Aside (So B wr (.slice (some ⟨g, 0, none⟩) n c) L ∧ w.grownBy wr (some g) ∧ CI l (K0 + j) kk L))
        case atStart => exact ⟨K0, 1, l, rfl, rfl, Nat.le_refl _, by omega, by omega, S2.out.1, S2.out.2.1, HI.out⟩
        case round =>
          clear S2 HI
          obtain ⟨kk, j, L, rfl, rfl, hj1, hjn, hg2, SJ⟩ := hrel
          by_cases hlj : j < N2
          · have hljz : (j : Int) < (N2 : Int) := by omega
            obtain ⟨j', rfl⟩ : ∃ j', j = j' + 1 := ⟨j - 1, by omega⟩
            have hjp : ((j' + 1 : Nat) : Int) - 1 = (j' : Int) := by omega
            have hjn2 : (j' : Int) < (N2 : Int) := by omega
            have hLn : L.length = n := by rw [SJ.out.2.2.len, H.out.2.1]
            have hkn : kk < n := by have := SJ.out.2.2.lt; omega
            have hkz : (kk : Int) < (n : Int) := by omega
            obtain ⟨a1, a2⟩ := SJ.out.1.cells hLn (k := K0 + (j' + 1)) (by omega)
            obtain ⟨b1, b2⟩ := SJ.out.1.cells hLn (k := K0 + j') (by omega)
            obtain ⟨d1, d2⟩ := SJ.out.1.cells hLn (k := kk) hkn
            have f1 := SJ.out.1.frz hLn (kk * 2)
            have f2 := SJ.out.1.frz hLn (kk * 2 + 1)
            rw [SJ.out.2.2.high _ (by omega) (by rw [H.out.2.1]; omega), Nat.add_mul] at a1 a2
            rw [SJ.out.2.2.high _ (by omega) (by rw [H.out.2.1]; omega), Nat.add_mul] at b1 b2
            have hC := fun W => given1_any (spn l (K0 + (j' + 1))) (spn l (K0 + j')) W
            unfold spV at hC
            obtain ⟨q, hq⟩ : ∃ q, decide ((spn l (K0 + (j' + 1))).2 = (spn l (K0 + j')).2) = q := ⟨_, rfl⟩
            rw [hq] at hC
            have HQ : Hid (decide ((spn l (K0 + (j' + 1))).2 = (spn l (K0 + j')).2) = q) := hq
            have HS : Aside (∀ W, So B W (.slice (some ⟨g, 0, none⟩) n c) L → So B ((W.setCell ⟨g, kk * 2, none⟩ (.int .i64 (spn l (K0 + (j' + 1))).1)).setCell ⟨g, kk * 2 + 1, none⟩ (.int .i64 (spn l (K0 + (j' + 1))).2)) (.slice (some ⟨g, 0, none⟩) n c) (L.set kk (spn l (K0 + (j' + 1)))) ∧ W.grownBy ((W.setCell ⟨g, kk * 2, none⟩ (.int .i64 (spn l (K0 + (j' + 1))).1)).setCell ⟨g, kk * 2 + 1, none⟩ (.int .i64 (spn l (K0 + (j' + 1))).2)) (some g)) := fun W h => h.set hLn hkn _
            clear hq
            generalize hx1 : (spn l (K0 + (j' + 1))).1 = x1 at a1 hC HS
            generalize hx2 : (spn l (K0 + (j' + 1))).2 = x2 at a2 hC HS
            generalize hz1 : (spn l (K0 + j')).1 = z1 at b1 hC
            generalize hz2 : (spn l (K0 + j')).2 = z2 at b2 hC
            generalize (spn L kk).1 = y1 at d1
            generalize (spn L kk).2 = y2 at d2
            clear hx1 hx2 hz1 hz2 hLn hkn
            go_upto_region 11 with fail
            obtain ⟨W1, hW1⟩ : ∃ W1, wr = W1 := ⟨_, rfl⟩
            rw [hW1] at a1 a2 b1 b2 SJ d1 d2 f1 f2
            rw [hW1]
            clear hW1
            have A1 := fun gw : Grw W1 => gw.cell a1
            have A2 := fun gw : Grw W1 => gw.cell a2
            have B1 := fun gw : Grw W1 => gw.cell b1
            have B2 := fun gw : Grw W1 => gw.cell b2
            have D1 : Aside (∀ gw : Grw W1, gw.X.cell? ⟨g, kk * 2, none⟩ = some (.int .i64 y1) ∧ gw.X.cell? ⟨g, kk * 2 + 1, none⟩ = some (.int .i64 y2) ∧ gw.X.frozen? ⟨g, kk * 2, none⟩ = false ∧ gw.X.frozen? ⟨g, kk * 2 + 1, none⟩ = false ∧ gw.X.cell? ⟨g, K0 * 2 + (j' + 1) * 2, none⟩ = some (.int .i64 x1) ∧ gw.X.cell? ⟨g, K0 * 2 + (j' + 1) * 2 + 1, none⟩ = some (.int .i64 x2)) := fun gw => by
              have hs := SJ.out.1.keep gw.bel
              have hLn : L.length = n := by rw [SJ.out.2.2.len, H.out.2.1]
              exact ⟨gw.cell d1, gw.cell d2, hs.frz hLn _, hs.frz hLn _, gw.cell a1, gw.cell a2⟩
            clear a1 a2 b1 b2 d1 d2 f1 f2
            have hNE : Nonempty (Grw W1) := ⟨⟨W1, Below.refl _ _⟩⟩
            refine wp_region_grow (by kernel_rfl) (by kernel_rfl) ?_
            repeat (go_big_quiet_step (first | (go_at_call 51; refine grow_of (hC _))))
            refine wpQuiet_nil ?_
            rintro _ ⟨gw, rfl⟩
            obtain ⟨d1, d2, f1, f2, a1, a2⟩ := D1.out gw
            have S2 : Aside (So B gw.X (.slice (some ⟨g, 0, none⟩) n c) L ∧ w.grownBy gw.X (some g) ∧ CI l (K0 + (j' + 1)) kk L) := ⟨SJ.out.1.keep gw.bel, SJ.out.2.1.andThen ⟨gw.bel.os, gw.bel.tape, gw.bel.output, gw.bel.size, fun i hi _ => gw.bel.block i hi⟩ fun j hj => .inr hj, SJ.out.2.2⟩
            clear SJ A1 A2 B1 B2 D1
            generalize gw.X = W2 at S2 d1 d2 f1 f2 a1 a2 ⊢
            cases q with
            | true =>
              have he : (spn l (K0 + (j' + 1) - 1)).2 = (spn l (K0 + (j' + 1))).2 := (of_decide_eq_true HQ.out).symm
              have HI : Aside (CI l (K0 + (j' + 1 + 1)) kk L) := S2.out.2.2.same (by rw [H.out.2.1]; omega) he
              clear he d1 d2 f1 f2 a1 a2 HS
              go_wp2
              go_roundg (N2 - (j' + 1 + 1))
              case measure => omega
              case rel => exact ⟨kk, j' + 1 + 1, L, rfl, by go_num, by omega, by omega, by omega, S2.out.1, S2.out.2.1, HI.out⟩
            | false =>
              have he : ¬ (spn l (K0 + (j' + 1) - 1)).2 = (spn l (K0 + (j' + 1))).2 := fun e => by have := of_decide_eq_false HQ.out; exact this e.symm
              have HI : Aside (CI l (K0 + (j' + 1 + 1)) (kk + 1) (L.set kk (spn l (K0 + (j' + 1))))) := S2.out.2.2.more (by rw [H.out.2.1]; omega) he
              clear he
              go_upto_region 13 with fail
              have S3 := HS.out W2 S2.out.1
              have S4 : Aside (_ ∧ _) := ⟨S3.1, S2.out.2.1.andThen S3.2 fun j hj => by cases hj; exact .inr rfl⟩
              clear S3 HS d1 d2 f1 f2 a1 a2
              generalize (W2.setCell ⟨g, kk * 2, none⟩ (.int .i64 x1)).setCell ⟨g, kk * 2 + 1, none⟩ (.int .i64 x2) = W3 at S4 ⊢
              go_wp2
              go_roundg (N2 - (j' + 1 + 1))
              case measure => omega
              case rel => exact ⟨kk + 1, j' + 1 + 1, _, by go_num, by go_num, by omega, by omega, by omega, S4.out.1, S4.out.2, HI.out⟩
          · have hljz : ¬ (j : Int) < (N2 : Int) := by omega
            obtain rfl : j = N2 := by omega
            have hLn : L.length = n := by rw [SJ.out.2.2.len, H.out.2.1]
            have hkn : kk < n := by have := SJ.out.2.2.lt; omega
            have hkz : (kk : Int) < (n : Int) := by omega
            have hkc : ¬ c = kk := by omega
            have eC : L.take kk = cpt l := by
              rw [SJ.out.2.2.low, List.take_of_length_le (by rw [H.out.2.1]; omega)]
            have eK : kk = (cpt l).length := by rw [← eC, List.length_take]; omega
            have hF : So B wr (.slice (some ⟨g, 0, none⟩) kk c) (cpt l) := by
              have h := SJ.out.1
              rw [← List.take_append_drop kk L, eC] at h
              have h2 := h.front
              rwa [← eK] at h2
            have S3 : Aside (∀ vs, CompOut B g n c w l (.returned (.slice (some ⟨g, 0, none⟩) kk c)) (wr.setCells g (kk * 2) vs)) := fun vs => by
              obtain ⟨s1, s2⟩ := So.out_of vs (kk * 2) wr hF (Nat.le_refl _)
              exact ⟨kk, eK, by omega, rfl, s1, SJ.out.2.1.andThen s2 fun j hj => by cases hj; exact .inr rfl⟩
            have hm0 : 0 < n - kk := by omega
            have HCC : Aside ((∀ j, j < (n - kk) * 2 → (wr.cell? ⟨g, kk * 2 + j, none⟩).isSome = true) ∧ (∀ j, j < (n - kk) * 2 → wr.frozen? ⟨g, kk * 2 + j, none⟩ = false)) := ⟨fun j hj => SJ.out.1.has hLn (by omega), fun j hj => SJ.out.1.frz hLn _⟩
            clear SJ hLn eC eK hF
            obtain ⟨vs, hR⟩ := run_clear_spans wr 27 Try.underlying27 g (kk * 2) (n - kk) (c - kk) hm0 HCC.out.1 HCC.out.2
            go_upto_region 15 with fail
            clear hR
            have S4 : Aside _ := S3.out vs
            clear S3 HCC
            generalize wr.setCells g (kk * 2) vs = W3 at S4 ⊢
            go_wp2
            go_ret
            exact S4.out
    · have hltz : ¬ (k : Int) < (n : Int) := by omega
      have E : Aside (CompOut B g n c w l (.returned (.slice (some ⟨g, 0, none⟩) n c)) wr) := by
        obtain rfl : k = n := by omega
        have e : cpt l = l := by
          have := SK.out.2.2
          rwa [List.take_of_length_le (by rw [H.out.2.1]; exact Nat.le_refl _)] at this
        exact ⟨k, by rw [e, H.out.2.1], Nat.le_refl _, rfl, by rw [e]; exact SK.out.1, SK.out.2.1⟩
      go_wp2
      go_ret
      exact E.out
end Go.Proofs.Ytfhihkogdnbghaa.spans
