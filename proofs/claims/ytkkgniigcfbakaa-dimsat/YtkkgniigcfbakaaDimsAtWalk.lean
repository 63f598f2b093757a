/-
  The walk of DimsAt: of whatever dimensions, choices, levels and keys the call answers true.
-/
import Derived.Test.YtkkgniigcfbakaaDimsAtAny
import Derived.Test.YtkkgniigcfbakaaDimsInF
import Derived.Test.YtkkgniigcfbakaaDimsUpWalk
import Derived.Test.YtkkgniigcfbakaaDimsComparesWalk
namespace Go.Proofs.Ytkkgniigcfbakaa.dims
open Go.ChangeShapes Go.WideShapes Go.ChangeAt Go.RowKit Go.Deep
set_option linter.unusedVariables false

theorem atR_len (ds : List Dm) (f t k : List Int) : (atR ds f t k).length ≤ 4 := by
  unfold atR
  split
  · rename_i h
    rw [atL_len]
    unfold atOk sndL at h
    simp at h
    omega
  · simp

set_option maxHeartbeats 8000000 in
theorem at_walk (a am a1 a2 a3 : Option Addr) (n cap nm cm n1 c1 n2 c2 n3 c3 : Nat) (ds cs : List Dm) (f t k : List Int) (w : World) (pI : Pairs .i64 .i64 w a ds) (pn : ds.length = n ∧ n ≤ cap ∧ cap ≤ maxLen) (pM : Pairs .u16 .u8 w am cs) (pm : cs.length = nm ∧ nm ≤ cm ∧ cm ≤ maxLen) (p1 : Nums .i64 w a1 n1 c1 f) (p2 : Nums .i64 w a2 n2 c2 t) (p3 : Nums .i64 w a3 n3 c3 k) :
    Calls Try.prog 7 #[.slice a n cap, .slice am nm cm, .slice a1 n1 c1, .slice a2 n2 c2, .slice a3 n3 c3] w fun e w' => e = .returned (.bool true) ∧ Below w.heap.size w w' := by
  have hI := pI.dims
  have hn := pn.1
  have hm : n ≤ 9223372036854775807 := Nat.le_trans pn.2.1 (Nat.le_trans pn.2.2 maxLen_le)
  have hm2 : nm ≤ 9223372036854775807 := Nat.le_trans pm.2.1 (Nat.le_trans pm.2.2 maxLen_le)
  have hH := heavy_any a n cap ds w hI hn hm
  have HI : Aside (DimsIn w a ds ∧ ds.length = n) := ⟨hI, hn⟩
  have HM : Aside (Pairs .u16 .u8 w am cs ∧ cs.length = nm) := ⟨pM, pm.1⟩
  have H1 : Aside (Ints w a1 f ∧ f.length = n1) := ⟨p1.ints, p1.eln⟩
  have H2 : Aside (Ints w a2 t ∧ t.length = n2) := ⟨p2.ints, p2.eln⟩
  have H3 : Aside (Ints w a3 k ∧ k.length = n3) := ⟨p3.ints, p3.eln⟩
  have HK : Aside (∀ i, i < n3 → nth k i ≤ 9223372036854775807) := fun i hi => (i64_of_wf (p3.wf i (by rw [p3.eln]; exact hi))).2
  clear pI pn pM pm hI hn p1 p2 p3
  go_enter Try.func7, Try.ntmps7
  go_wp2_with fail
  refine hH.mono ?_
  rintro e w0 ⟨hh, he⟩
  have he2 := he.symm
  clear hH he
  subst he2
  rcases hh with rfl | rfl
  · as_aux_lemma =>
      go_wp2_with (go_at_call 13; refine (known_any _).mono ?_; rintro e w1 ⟨rfl, hb1⟩)
      go_ret
      exact ⟨rfl, hb1⟩
  by_cases hn1 : (100 : Int) < (n1 : Int)
  · as_aux_lemma =>
      go_wp2_with (go_at_call 13; refine (known_any _).mono ?_; rintro e w1 ⟨rfl, hb1⟩)
      go_ret
      exact ⟨rfl, hb1⟩
  by_cases hn2 : (100 : Int) < (n2 : Int)
  · as_aux_lemma =>
      go_wp2_with (go_at_call 13; refine (known_any _).mono ?_; rintro e w1 ⟨rfl, hb1⟩)
      go_ret
      exact ⟨rfl, hb1⟩
  by_cases hn3 : (100 : Int) < (n3 : Int)
  · as_aux_lemma =>
      go_wp2_with (go_at_call 13; refine (known_any _).mono ?_; rintro e w1 ⟨rfl, hb1⟩)
      go_ret
      exact ⟨rfl, hb1⟩
  go_wp2_with fail
  refine (known_any _).mono ?_
  rintro e w1 ⟨rfl, hb1⟩
  have B1 : Aside (Below w.heap.size w w1) := hb1
  clear hb1
  go_wp2_with fail
  refine (of_any am nm cm cs w1 (HM.out.1.keep B1.out) HM.out.2 hm2).mono ?_
  rintro e w2 ⟨v2, rfl, hres⟩
  obtain ⟨dx, gx, capx, rfl, hX, -, -, -, hx4, hb2⟩ := hres.out
  have B2 : Aside (Below w.heap.size w w2) := B1.out.trans (hb2.mono B1.out.size)
  obtain ⟨ax, hax⟩ : ∃ q, some (⟨gx, 0, none⟩ : Addr) = q := ⟨_, rfl⟩
  rw [hax] at hX ⊢
  have X2 : Aside (DimsIn w2 ax dx) := hX
  clear hb2 B1 hres hax hX
  obtain ⟨nx, hnx⟩ : ∃ q, dx.length = q := ⟨_, rfl⟩
  have HNX : Aside (dx.length = nx) := hnx
  rw [hnx] at hx4 ⊢
  clear hnx
  obtain ⟨s1, hs1⟩ : ∃ s, inB ds k = s := ⟨_, rfl⟩
  obtain ⟨s2, hs2⟩ : ∃ s, inB dx k = s := ⟨_, rfl⟩
  have HS : Aside (inB ds k = s1 ∧ inB dx k = s2) := ⟨hs1, hs2⟩
  clear hs1 hs2
  go_wp2_with fail
  refine (in_val a a3 n cap n3 c3 ds k s1 w2 (HI.out.1.keep B2.out) HI.out.2 (H3.out.1.keep B2.out) H3.out.2 hm HS.out.1).mono ?_
  rintro e w3 ⟨rfl, hb3⟩
  have B3 : Aside (Below w.heap.size w w3) := B2.out.trans (hb3.mono B2.out.size)
  have X3 : Aside (DimsIn w3 ax dx) := X2.out.keep hb3
  clear hb3 B2 X2
  go_wp2_with fail
  refine (refIn_val a a3 n cap n3 c3 ds k s1 w3 (HI.out.1.keep B3.out) HI.out.2 (H3.out.1.keep B3.out) H3.out.2 hm HS.out.1).mono ?_
  rintro e w4 ⟨rfl, hb4⟩
  have B4 : Aside (Below w.heap.size w w4) := B3.out.trans (hb4.mono B3.out.size)
  have X4 : Aside (DimsIn w4 ax dx) := X3.out.keep hb4
  clear hb4 B3 X3
  go_wp2_with fail
  refine (in_val ax a3 nx capx n3 c3 dx k s2 w4 X4.out HNX.out (H3.out.1.keep B4.out) H3.out.2 (by omega) HS.out.2).mono ?_
  rintro e w5 ⟨rfl, hb5⟩
  have B5 : Aside (Below w.heap.size w w5) := B4.out.trans (hb5.mono B4.out.size)
  have X5 : Aside (DimsIn w5 ax dx) := X4.out.keep hb5
  clear hb5 B4 X4
  go_wp2_with fail
  refine (refIn_val ax a3 nx capx n3 c3 dx k s2 w5 X5.out HNX.out (H3.out.1.keep B5.out) H3.out.2 (by omega) HS.out.2).mono ?_
  rintro e w6 ⟨rfl, hb6⟩
  have B6 : Aside (Below w.heap.size w w6) := B5.out.trans (hb6.mono B5.out.size)
  have X6 : Aside (DimsIn w6 ax dx) := X5.out.keep hb6
  clear hb6 B5 X5
  go_wp2_with fail
  refine (at_any a a1 a2 a3 n n1 n2 n3 cap c1 c2 c3 ds f t k w6 (HI.out.1.keep B6.out) HI.out.2 hm (H1.out.1.keep B6.out) (H2.out.1.keep B6.out) (H3.out.1.keep B6.out) H1.out.2 H2.out.2 H3.out.2 HK.out).mono ?_
  rintro e w7 ⟨v1, rfl, hr1, hb7⟩
  have B7 : Aside (Below w.heap.size w w7) := B6.out.trans (hb7.mono B6.out.size)
  have X7 : Aside (DimsIn w7 ax dx) := X6.out.keep hb7
  clear hb7 B6 X6
  obtain ⟨L, hLL⟩ : ∃ L, atR ds f t k = L := ⟨_, rfl⟩
  have hL4 := atR_len ds f t k
  rw [hLL] at hr1 hL4
  have C8 := refAt_any a a1 a2 a3 n n1 n2 n3 cap c1 c2 c3 ds f t k w7 (HI.out.1.keep B7.out) HI.out.2 hm (H1.out.1.keep B7.out) (H2.out.1.keep B7.out) (H3.out.1.keep B7.out) H1.out.2 H2.out.2 H3.out.2 HK.out
  rw [hLL] at C8
  clear hLL
  obtain ⟨b1, d1, rfl, hq1, -⟩ := hr1
  have Q1 : Aside (Ints w7 b1 L) := hq1
  clear hq1
  obtain ⟨nL, hnL⟩ : ∃ q, L.length = q := ⟨_, rfl⟩
  have HNL : Aside (L.length = nL) := hnL
  rw [hnL] at hL4 ⊢
  clear hnL
  go_wp2_with fail
  refine (C8).mono ?_
  rintro e w8 ⟨v2, rfl, hr2, hb8⟩
  have Q1 : Aside (Ints w8 b1 L) := Q1.out.keep hb8
  have B8 : Aside (Below w.heap.size w w8) := B7.out.trans (hb8.mono B7.out.size)
  have X8 : Aside (DimsIn w8 ax dx) := X7.out.keep hb8
  clear hb8 B7 X7
  obtain ⟨b2, d2, rfl, hq2, -⟩ := hr2
  have Q2 : Aside (Ints w8 b2 L) := hq2
  rw [HNL.out]
  clear hq2 C8
  go_wp2_with fail
  refine (same_refl b1 b2 nL d1 d2 L w8 Q1.out Q2.out HNL.out (by omega)).mono ?_
  rintro e w9 ⟨rfl, hb9⟩
  have B9 : Aside (Below w.heap.size w w9) := B8.out.trans (hb9.mono B8.out.size)
  have X9 : Aside (DimsIn w9 ax dx) := X8.out.keep hb9
  clear hb9 B8 X8
  clear Q1 Q2 HNL hL4
  go_wp2_with fail
  refine (at_any ax a1 a2 a3 nx n1 n2 n3 capx c1 c2 c3 dx f t k w9 X9.out HNX.out (by omega) (H1.out.1.keep B9.out) (H2.out.1.keep B9.out) (H3.out.1.keep B9.out) H1.out.2 H2.out.2 H3.out.2 HK.out).mono ?_
  rintro e w10 ⟨v1, rfl, hr1, hb10⟩
  have B10 : Aside (Below w.heap.size w w10) := B9.out.trans (hb10.mono B9.out.size)
  have X10 : Aside (DimsIn w10 ax dx) := X9.out.keep hb10
  clear hb10 B9 X9
  obtain ⟨L2, hLL⟩ : ∃ L, atR dx f t k = L := ⟨_, rfl⟩
  have hL4 := atR_len dx f t k
  rw [hLL] at hr1 hL4
  have C11 := refAt_any ax a1 a2 a3 nx n1 n2 n3 capx c1 c2 c3 dx f t k w10 X10.out HNX.out (by omega) (H1.out.1.keep B10.out) (H2.out.1.keep B10.out) (H3.out.1.keep B10.out) H1.out.2 H2.out.2 H3.out.2 HK.out
  rw [hLL] at C11
  clear hLL
  obtain ⟨b3, d3, rfl, hq1, -⟩ := hr1
  have Q1 : Aside (Ints w10 b3 L2) := hq1
  clear hq1
  obtain ⟨nL2, hnL⟩ : ∃ q, L2.length = q := ⟨_, rfl⟩
  have HNL : Aside (L2.length = nL2) := hnL
  rw [hnL] at hL4 ⊢
  clear hnL
  go_wp2_with fail
  refine (C11).mono ?_
  rintro e w11 ⟨v2, rfl, hr2, hb11⟩
  have Q1 : Aside (Ints w11 b3 L2) := Q1.out.keep hb11
  have B11 : Aside (Below w.heap.size w w11) := B10.out.trans (hb11.mono B10.out.size)
  have X11 : Aside (DimsIn w11 ax dx) := X10.out.keep hb11
  clear hb11 B10 X10
  obtain ⟨b4, d4, rfl, hq2, -⟩ := hr2
  have Q2 : Aside (Ints w11 b4 L2) := hq2
  rw [HNL.out]
  clear hq2 C11
  go_wp2_with fail
  refine (same_refl b3 b4 nL2 d3 d4 L2 w11 Q1.out Q2.out HNL.out (by omega)).mono ?_
  rintro e w12 ⟨rfl, hb12⟩
  have B12 : Aside (Below w.heap.size w w12) := B11.out.trans (hb12.mono B11.out.size)
  clear hb12 B11
  go_wp2
  go_ret
  exact ⟨rfl, B12.out⟩
end Go.Proofs.Ytkkgniigcfbakaa.dims
