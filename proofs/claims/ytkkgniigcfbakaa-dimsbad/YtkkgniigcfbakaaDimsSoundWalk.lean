/-
  The walk of DimsSound: of whatever dimensions and choices the call answers true.
-/
import Derived.Test.YtkkgniigcfbakaaDimsRefUp
import Derived.Test.YtkkgniigcfbakaaDimsOfWalk
namespace Go.Proofs.Ytkkgniigcfbakaa.dims
open Go.ChangeShapes Go.WideShapes Go.ChangeAt Go.RowKit Go.Deep
set_option linter.unusedVariables false

theorem levW_bel (sz : Int) (a : Option Addr) (n cap : Nat) (r : Int) (w : World) (hr : wrap64 ((n : Int) + 2) = r) :
    Calls Try.prog 17 #[.agg #[.int .i64 sz, .slice a n cap]] w fun e w' => e = .returned (.int .i64 r) ∧ Below w.heap.size w w' :=
  (levels_wrap sz a n cap w).mono fun e w' ⟨h1, h2⟩ => ⟨by rw [h1, hr], by rw [h2]; exact (Below.refl _ _).alloc (Nat.le_refl _) _⟩
theorem refLevW_bel (sz : Int) (a : Option Addr) (n cap : Nat) (r : Int) (w : World) (hr : wrap64 ((n : Int) + 2) = r) :
    Calls Try.prog 18 #[.agg #[.int .i64 sz, .slice a n cap]] w fun e w' => e = .returned (.int .i64 r) ∧ Below w.heap.size w w' :=
  (refLevels_wrap sz a n cap w).mono fun e w' ⟨h1, h2⟩ => ⟨by rw [h1, hr], by rw [h2]; exact (Below.refl _ _).alloc (Nat.le_refl _) _⟩

theorem pair_keep {W0 W w' : World} {b p B : Nat} {x y : Value} (hb : Below W.heap.size W w') (h : Below B W0 W ∧ B ≤ W.heap.size ∧ W.cell? ⟨b, p, none⟩ = some x ∧ W.cell? ⟨b, p + 1, none⟩ = some y) : Below B W0 w' ∧ B ≤ w'.heap.size ∧ w'.cell? ⟨b, p, none⟩ = some x ∧ w'.cell? ⟨b, p + 1, none⟩ = some y := by
  obtain ⟨h0, h1, h2, h3⟩ := h
  have k : ∀ {c o : Nat} {v : Value}, W.cell? ⟨c, o, none⟩ = some v → w'.cell? ⟨c, o, none⟩ = some v := fun {c o v} hv => (hb.cell (p := ⟨c, o, none⟩) (cell_lt hv)).trans hv
  exact ⟨h0.trans (hb.mono h1), Nat.le_trans h1 hb.size, k h2, k h3⟩

/-- what 'Of' hands out, as the walks take it -/
theorem OfRes.out {w W : World} {cs : List Dm} {v : Value} (h : OfRes w cs v W) : ∃ ds g cap, v = .slice (some ⟨g, 0, none⟩) ds.length cap ∧ DimsIn W (some ⟨g, 0, none⟩) ds ∧ ds.map pr = ofL cs ∧ sndL ds = true ∧ 1 ≤ ds.length ∧ ds.length ≤ 4 ∧ Below w.heap.size w W := by
  obtain ⟨ds, he, ho⟩ := h
  have hl : ds.length = (ofL cs).length := by rw [← he]; simp
  have hb := ofL_len cs
  obtain ⟨g, cap, hv, _, hd⟩ := ho.out (by omega)
  exact ⟨ds, g, cap, hv, hd, he, of_sndL he, by omega, by omega, ho.bel⟩

set_option maxHeartbeats 8000000 in
theorem sound_walk (a am : Option Addr) (n cap nm cm : Nat) (ds cs : List Dm) (w : World) (pI : Pairs .i64 .i64 w a ds) (pn : ds.length = n ∧ n ≤ cap ∧ cap ≤ maxLen) (pM : Pairs .u16 .u8 w am cs) (pm : cs.length = nm ∧ nm ≤ cm ∧ cm ≤ maxLen) :
    Calls Try.prog 5 #[.slice a n cap, .slice am nm cm] w fun e w' => e = .returned (.bool true) ∧ Below w.heap.size w w' := by
  have hI := pI.dims
  have hn := pn.1
  have hm : n ≤ 9223372036854775807 := Nat.le_trans pn.2.1 (Nat.le_trans pn.2.2 maxLen_le)
  have hm2 : nm ≤ 9223372036854775807 := Nat.le_trans pm.2.1 (Nat.le_trans pm.2.2 maxLen_le)
  have hH := heavy_any a n cap ds w hI hn hm
  have HI : Aside (DimsIn w a ds ∧ ds.length = n) := ⟨hI, hn⟩
  have HM : Aside (Pairs .u16 .u8 w am cs ∧ cs.length = nm) := ⟨pM, pm.1⟩
  clear pI pn pM pm hI hn
  go_enter Try.func5, Try.ntmps5
  go_wp2_with fail
  refine hH.mono ?_
  rintro e w0 ⟨hh, rfl⟩
  clear hH
  rcases hh with rfl | rfl
  · as_aux_lemma =>
      go_wp2_with (go_at_call 13; refine (known_any _).mono ?_; rintro e w1 ⟨rfl, hb1⟩)
      go_ret
      exact ⟨rfl, hb1⟩
  go_wp2_with (go_at_call 13; refine (known_any _).mono ?_; rintro e w1 ⟨rfl, hb1⟩)
  have B1 : Aside _ := hb1
  clear hb1
  go_loopg [5] n (fun g1 vi wr => ∃ (k : Nat), vi = .int .i64 k ∧ k ≤ n ∧ n - k ≤ g1 ∧ Aside (Below w0.heap.size w0 wr))
  case atStart => exact ⟨0, rfl, Nat.zero_le _, Nat.le_refl _, B1⟩
  case round =>
    clear B1
    obtain ⟨k, rfl, hk, hg1, SK⟩ := hrel
    by_cases hlt : k < n
    · as_aux_lemma =>
        have hltz : (k : Int) < (n : Int) := by omega
        have hkl : k < ds.length := by rw [HI.out.2]; exact hlt
        obtain ⟨b, off, ha, hc⟩ := (HI.out.1.keep SK.out).get hkl
        subst ha
        obtain ⟨r0, r1, _, _⟩ := hc k hkl
        clear hc
        generalize (dn ds k).sz = t1 at r0
        generalize (dn ds k).a = t2 at r1
        generalize (dn ds k).l.length = t3 at r1
        generalize (dn ds k).cap = t4 at r1
        obtain ⟨r, hr⟩ : ∃ r, wrap64 ((t3 : Int) + 2) = r := ⟨_, rfl⟩
        have C1 := fun W => levW_bel t1 t2 t3 t4 r W hr
        have C2 := fun W => refLevW_bel t1 t2 t3 t4 r W hr
        have hsz := SK.out.size
        clear hr
        go_wp2_with fail
        go_region_held3 (fun w' => Below w0.heap.size w0 w' ∧ w0.heap.size ≤ w'.heap.size ∧ w'.cell? ⟨b, off + k * 2, none⟩ = some (.int .i64 t1) ∧ w'.cell? ⟨b, off + k * 2 + 1, none⟩ = some (.slice t2 t3 t4))
          (first | assumption | (exact ⟨SK.out.drew, hsz, r0, r1⟩) | (exact ⟨SK.out, hsz, r0, r1⟩) | (refine pair_keep (W0 := w0) (b := b) (p := off + k * 2) (B := w0.heap.size) (x := .int .i64 t1) (y := .slice t2 t3 t4) hb2 ?_; assumption))
          (first | (go_at_call 17; with_reducible refine (C1 _).mono ?_; rintro e w2 ⟨rfl, hb2⟩) | (go_at_call 18; with_reducible refine (C2 _).mono ?_; rintro e w2 ⟨rfl, hb2⟩))
        have S2 : Aside (Below w0.heap.size w0 w2) := by show Below _ _ _; apply And.left; assumption
        go_wp2
        go_roundg (n - (k + 1))
        case measure => omega
        case rel => exact ⟨k + 1, by go_num, by omega, by omega, S2⟩
    · have hltz : ¬ (k : Int) < (n : Int) := by omega
      obtain ⟨s, hs⟩ : ∃ s, sndL ds = s := ⟨_, rfl⟩
      have C1 := soundL_any a n cap ds wr (HI.out.1.keep SK.out) HI.out.2 hm
      rw [hs] at C1
      go_wp2_with fail
      refine C1.mono ?_
      rintro e w2 ⟨rfl, hb2⟩
      have B2 : Aside (Below w0.heap.size w0 w2) := SK.out.trans (hb2.mono SK.out.size)
      clear C1 hb2 SK
      have C2 := refSound_any a n cap ds w2 (HI.out.1.keep B2.out) HI.out.2 hm
      rw [hs] at C2
      go_wp2_with fail
      refine C2.mono ?_
      rintro e w3 ⟨rfl, hb3⟩
      have B3 : Aside (Below w0.heap.size w0 w3) := B2.out.trans (hb3.mono B2.out.size)
      clear C2 hb3 B2 hs
      have C3 := of_any am nm cm cs w3 (HM.out.1.keep B3.out) HM.out.2 hm2
      go_wp2_with fail
      refine C3.mono ?_
      rintro e w4 ⟨v, rfl, hres⟩
      obtain ⟨ds2, g, cap2, rfl, hD, _, hS, _, _, hb4⟩ := hres.out
      have B4 : Aside (Below w0.heap.size w0 w4) := B3.out.trans (hb4.mono B3.out.size)
      have C4 := soundL_any _ _ cap2 ds2 w4 hD rfl (by omega)
      rw [hS] at C4
      clear C3 hb4 B3 hD hS hres
      generalize ds2.length = n2 at C4 ⊢
      go_wp2_with fail
      refine C4.mono ?_
      rintro e w5 ⟨rfl, hb5⟩
      have B5 : Aside (Below w0.heap.size w0 w5) := B4.out.trans (hb5.mono B4.out.size)
      clear C4 hb5 B4
      go_wp2
      go_ret
      exact ⟨rfl, B5.out⟩
end Go.Proofs.Ytkkgniigcfbakaa.dims
