/-
  The walk of the statements' own 'Of'.
-/
import Derived.Test.YthbjfbkjbggkbaaDimsOf
namespace Go.Proofs.Ythbjfbkjbggkbaa.dims
open Go.ChangeShapes Go.WideShapes Go.ChangeAt Go.RowKit Go.Deep
set_option linter.unusedVariables false
set_option maxRecDepth 100000

theorem u16_of_wf {n : Int} (h : (Lit.int .u16 n).wf = true) : 0 ≤ n ∧ n ≤ 65535 := by
  simpa [Lit.wf, IntKind.min, IntKind.max, IntKind.signed, IntKind.bits] using h
theorem u8_of_wf {n : Int} (h : (Lit.int .u8 n).wf = true) : 0 ≤ n ∧ n ≤ 255 := by
  simpa [Lit.wf, IntKind.min, IntKind.max, IntKind.signed, IntKind.bits] using h

theorem take_snocD (cs : List Dm) (k : Nat) (h : k < cs.length) : (cs.take (k + 1)).map ofC = (cs.take k).map ofC ++ [ofC (dn cs k)] := by
  rw [List.take_succ_eq_append_getElem h, List.map_append, show dn cs k = cs[k] by simp [dn, h]]
  rfl

theorem cells_two_new (w : World) (v1 v2 : Value) (t : TypeId) : ∀ j u, [v1, v2][j]? = some u → (w.alloc (.cells #[v1, v2] t)).cell? ((⟨w.heap.size, 0, none⟩ : Addr).add j) = some u := by
  intro j u hj
  match j, hj with
  | 0, hj => simp at hj; subst hj; simp [Addr.add, go_sem]
  | 1, hj => simp at hj; subst hj; simp [Addr.add, go_sem]
  | j + 2, hj => simp at hj

theorem cells_two_at (w : World) (B : Nat) (hB : w.heap.size = B) (v1 v2 : Value) (t : TypeId) : ∀ j u, [v1, v2][j]? = some u → (w.alloc (.cells #[v1, v2] t)).cell? ((⟨B, 0, none⟩ : Addr).add j) = some u := by
  subst hB; exact cells_two_new w v1 v2 t

theorem ofL_eq {cs : List Dm} {k n : Nat} (hn : cs.length = n) (h0 : 0 < k) (hk : k = n ∨ k = 4) (hk4 : k ≤ 4) (hkn : k ≤ n) : (cs.take k).map ofC = ofL cs := by
  unfold ofL
  rw [if_neg (by omega)]
  rcases hk with h | h
  · rw [List.take_of_length_le (by omega), List.take_of_length_le (by omega)]
  · rw [h]

theorem take_nthI (l : List Int) (k : Nat) (h : k < l.length) : l.take (k + 1) = l.take k ++ [nth l k] := by
  rw [List.take_succ_eq_append_getElem h]
  simp [nth, h]

/-- what 'Of' hands out -/
def OfRes (w : World) (cs : List Dm) (v : Value) (W : World) : Prop := ∃ ds, ds.map pr = ofL cs ∧ OF w ds v W

set_option maxHeartbeats 16000000 in
theorem of_any (a : Option Addr) (n cap : Nat) (cs : List Dm) (w : World) (hI : Pairs .u16 .u8 w a cs) (hn : cs.length = n) (hm : n ≤ 9223372036854775807) :
    Calls Try.prog 9 #[.slice a n cap] w fun e w' => ∃ v, e = .returned v ∧ OfRes w cs v w' := by
  obtain ⟨i0, hi, hz0, hz1, hz2⟩ := info_parts info_int
  obtain ⟨j0, hj, hy0, hy1, hy2⟩ := info_parts info_dim
  have HN : Hid (cs.length = n) := hn
  have HI : Aside (Pairs .u16 .u8 w a cs) := hI
  clear hn hI
  go_enter Try.func9, Try.ntmps9
  go_wp2_with fail
  go_loopg [3, 4] 4 (fun g1 v vi wr => ∃ (k : Nat) (ds : List Dm) (av : Option Addr) (cv : Nat), v = .slice av k cv ∧ vi = .int .i64 k ∧ k ≤ n ∧ k ≤ 4 ∧ 4 - k ≤ g1 ∧ Aside (OF w ds (.slice av k cv) wr ∧ ds.length = k ∧ ds.map pr = (cs.take k).map ofC))
  case atStart => exact ⟨0, [], none, 0, rfl, rfl, Nat.zero_le _, Nat.zero_le _, Nat.le_refl _, OF.start w, rfl, rfl⟩
  case round =>
    obtain ⟨k, ds, av, cv, rfl, rfl, hk, hk4, hg1, SK⟩ := hrel
    by_cases hlt : k < n
    · have hltz : (k : Int) < (n : Int) := by omega
      by_cases hlt4 : k < 4
      · have hltz4 : (k : Int) < 4 := by omega
        generalize wr = W1 at SK ⊢
        have hkl : k < cs.length := by rw [HN.out]; exact hlt
        obtain ⟨b, off, ha, hc⟩ := (HI.out.keep SK.out.1.bel).get hkl
        subst ha
        obtain ⟨r0, r1, r2, r3⟩ := hc k hkl
        clear hc
        have hsz := u16_of_wf r3
        have HO : Hid (ofC (dn cs k) = (1 + (dn cs k).sz % 200, divs 1 ((dn cs k).l.take 4))) := rfl
        have HCS : Hid ((cs.take (k + 1)).map ofC = (cs.take k).map ofC ++ [ofC (dn cs k)]) := take_snocD cs k hkl
        have hl1 := cell_lt r0
        clear r3
        generalize (dn cs k).sz = s0 at r0 hsz HO
        generalize hL : (dn cs k).l = L at r1 r2 HO
        generalize (dn cs k).a = aL at r1 r2
        generalize (dn cs k).cap = cL at r1 r2
        obtain ⟨s, hs⟩ : ∃ s, s = 1 + s0 % 200 := ⟨_, rfl⟩
        clear hL
        obtain ⟨m, hm1, hm2, hm3⟩ : ∃ m : Nat, m ≤ L.length ∧ m ≤ 4 ∧ (m = L.length ∨ m = 4) := by
          by_cases h : L.length ≤ 4
          · exact ⟨L.length, by omega, h, .inl rfl⟩
          · exact ⟨4, by omega, by omega, .inr rfl⟩
        obtain ⟨D, hD⟩ : ∃ D, D = divs 1 (L.take 4) := ⟨_, rfl⟩
        have hDl : D.length = m := by rw [hD, divs_len]; simp; omega
        have hstep : ∀ j, j < m → nth D j = prev D j * (2 + nth L j % 4) ∧ 1 ≤ prev D j ∧ prev D j ≤ 625 := fun j hj => by
          have h1 := divs_step (L.take 4) j (by simp; omega)
          have h2 := divs_bound (L.take 4) j (by simp; omega)
          have e : nth (L.take 4) j = nth L j := by simp [nth, show j < 4 by omega]
          rw [e, ← hD] at h1
          rw [← hD] at h2
          refine ⟨h1, h2.1, Int.le_trans h2.2 ?_⟩
          have : j = 0 ∨ j = 1 ∨ j = 2 ∨ j = 3 := by omega
          rcases this with rfl | rfl | rfl | rfl <;> decide
        have HD : Aside (D = divs 1 (L.take 4) ∧ D.length = m ∧ (∀ j, j < m → nth D j = prev D j * (2 + nth L j % 4) ∧ 1 ≤ prev D j ∧ prev D j ≤ 625) ∧ (m = L.length ∨ m = 4)) := ⟨hD, hDl, hstep, hm3⟩
        have R2 : Aside (Nums .u8 W1 aL L.length cL L) := r2
        obtain ⟨nL, hnL⟩ : ∃ q, L.length = q := ⟨_, rfl⟩
        rw [hnL] at r1 hm1
        have HNL : Hid (L.length = nL) := hnL
        have HSS : Hid (s = 1 + s0 % 200) := hs
        clear hD hDl hstep hm3 r2 hnL
        have e200 : 0 ≤ s0 % 200 ∧ s0 % 200 < 200 := ⟨Int.emod_nonneg _ (by omega), Int.emod_lt_of_pos _ (by omega)⟩
        have DS : Aside (DL W1 (1 + s0 % 200) [] none 0 0 (W1.alloc (.cells #[.int .i64 (1 + s0 % 200), .slice none 0 0] 29))) := DL.start W1 _
        clear hs
        go_wp2_with fail
        go_loopg [6, 7] m (fun g2 vl vk wr2 => ∃ (j : Nat) (a2 : Option Addr) (c2 : Nat), vl = .int .i64 (prev D j) ∧ vk = .int .i64 j ∧ j ≤ m ∧ m - j ≤ g2 ∧ Aside (DL W1 (1 + s0 % 200) (D.take j) a2 j c2 wr2))
        case atStart => exact ⟨0, none, 0, rfl, rfl, Nat.zero_le _, Nat.le_refl _, by simpa using DS⟩
        case round =>
          clear DS
          obtain ⟨j, a2, c2, rfl, rfl, hjm, hg2, SJ⟩ := hrel
          have hbl := SJ.out.bel
          have r1' := (hbl.cell (p := ⟨b, off + k * 2 + 1, none⟩) hl1).trans r1
          by_cases hjl : j < m
          · as_aux_lemma =>
              have hjz : (j : Int) < (nL : Int) := by omega
              have hj4 : (j : Int) < 4 := by omega
              have hjL : j < L.length := by rw [HNL.out]; omega
              obtain ⟨bL, oL, haL, hcL⟩ := R2.out.mem.get hjL
              subst haL
              have rv := hcL j hjL
              have rv' := (hbl.cell (p := ⟨bL, oL + j, none⟩) (cell_lt rv)).trans rv
              have hv := u8_of_wf (R2.out.wf j hjL)
              obtain ⟨hx, hp1, hp2⟩ := HD.out.2.2.1 j hjl
              have HP : Hid (prev D (j + 1) = nth D j) := rfl
              have HT : Hid (D.take (j + 1) = D.take j ++ [nth D j]) := take_nthI D j (by rw [HD.out.2.1]; exact hjl)
              clear hcL rv r1
              generalize nth L j = v at rv' hv hx
              obtain ⟨x, hxx⟩ : ∃ x, nth D j = x := ⟨_, rfl⟩
              rw [hxx] at hx HP HT
              obtain ⟨p, hpp⟩ : ∃ p, prev D j = p := ⟨_, rfl⟩
              rw [hpp] at hx hp1 hp2 ⊢
              have hv4 : 0 ≤ v % 4 ∧ v % 4 < 4 := ⟨Int.emod_nonneg _ (by omega), Int.emod_lt_of_pos _ (by omega)⟩
              have hb1 : p * 1 ≤ p * (2 + v % 4) := Int.mul_le_mul_of_nonneg_left (by omega) (by omega)
              have hb2 : p * (2 + v % 4) ≤ p * 5 := Int.mul_le_mul_of_nonneg_left (by omega) (by omega)
              have hw1 : IntKind.i64.wrap (p * (2 + v % 4)) = x := by rw [IntWalk.i64_in _ (by omega)]; exact hx.symm
              have hw2 : wrap64 (p * (2 + v % 4)) = x := by rw [hx]; generalize p * (2 + v % 4) = q at hb1 hb2; unfold wrap64; omega
              clear hxx hpp hx hb1 hb2
              have c1 := SJ.out.c1
              have hown := SJ.out.own
              have hsz := SJ.out.siz
              clear hbl
              go_wp2_with (first | (at_builtin; refine wpList_append_lies _ rfl (.tmp 55) (.tmp 57) 26 rfl (W1.heap.size + 1) 3 i0 _ 1 8 Try.underlying26 hi hz0 hz1 hz2 rfl (by decide) _ _ _ rfl (hown.alloc _) ⟨wr.heap.size, 0, none⟩ 1 1 [.int .i64 x] rfl rfl (cell_one_new _ _ _) (by intro u hu; simp at hu; subst hu; rfl) (by decide) (by unfold maxLen; omega) (by omega) (by simp; omega) _ rfl ?_) | go_in)
              · intro g cap3 w3 hown3 hgrow hat hglt
                obtain ⟨d1, d2, d3⟩ := SJ.out.push hown3 hgrow
                have S3 : Aside _ := d3
                clear hown3 hgrow hat hglt d3 hown SJ c1
                go_wp2
                go_roundg (m - (j + 1))
                case measure => omega
                case rel => exact ⟨j + 1, _, _, by rw [HP.out], by go_num, by omega, by omega, by rw [HT.out]; exact S3.out⟩
          · have hjm2 : j = m := by omega
            have hex : ¬ (j : Int) < (nL : Int) ∨ ((j : Int) < (nL : Int) ∧ ¬ (j : Int) < 4) := by
              have := HD.out.2.2.2
              rw [HNL.out] at this
              omega
            have hDj : D.take j = D := List.take_of_length_le (by rw [HD.out.2.1]; omega)
            have hown := SJ.out.own
            rw [hDj] at hown
            have hDl : D.length = j := by rw [HD.out.2.1]; omega
            have hd : wr.ownsRow w.heap.size 3 1 (.slice a2 j c2) j (vals D) := own_mono hown (by have := SK.out.1.bel.size; omega)
            have O2 : Aside (OF w ds (.slice av k cv) wr) := SK.out.1.keep hbl
            have HDW : Aside (wr.ownsRow w.heap.size 3 1 (.slice a2 j c2) j (vals D) ∧ D.length = j) := ⟨hd, hDl⟩
            have c0 := SJ.out.c0
            have c1 := SJ.out.c1
            have hsz := SJ.out.siz
            have hdl := SK.out.2.1
            have hoD := O2.out.own
            rw [hdl] at hoD
            have hzw := O2.out.bel.size
            have HEQ : Aside (ds.length = k ∧ (ds ++ [(⟨1 + s0 % 200, a2, c2, D⟩ : Dm)]).map pr = (cs.take (k + 1)).map ofC) := by
              refine ⟨hdl, ?_⟩
              rw [List.map_append, SK.out.2.2, HCS.out, HO.out, ← HD.out.1]; rfl
            clear hjm2 hDj hown hDl hd hbl SJ SK hdl r1
            rcases hex with hex | ⟨hex, hex4⟩
            all_goals
              go_wp2_with (first | (at_builtin; refine wpList_append_lies _ rfl (.tmp 60) (.tmp 62) 24 rfl w.heap.size 29 j0 _ 2 32 Try.underlying24 hj hy0 hy1 hy2 rfl (by decide) _ _ _ rfl (hoD.alloc _) ⟨wr.heap.size, 0, none⟩ 1 1 [.int .i64 (1 + s0 % 200), .slice a2 j c2] rfl rfl (cells_two_new _ _ _ _) (by intro u hu; simp at hu; rcases hu with rfl | rfl <;> rfl) (by decide) (by unfold maxLen; omega) (by omega) (by simp; omega) _ rfl ?_) | go_in)
              · intro g cap3 w3 hown3 hgrow hat hglt
                have S4 : Aside (OF w (ds ++ [⟨1 + s0 % 200, a2, c2, D⟩]) (.slice (some ⟨g, 0, none⟩) (k + 1) cap3) w3 ∧ (ds ++ [(⟨1 + s0 % 200, a2, c2, D⟩ : Dm)]).length = k + 1 ∧ (ds ++ [(⟨1 + s0 % 200, a2, c2, D⟩ : Dm)]).map pr = (cs.take (k + 1)).map ofC) := by
                  refine ⟨?_, by simp [HEQ.out.1], HEQ.out.2⟩
                  refine (O2.out.keep ((Below.refl _ _).alloc (Nat.le_refl _) _)).push ?_ ?_ hgrow
                  · show (wr.alloc _).ownsRow w.heap.size 3 1 (.slice a2 D.length c2) D.length (vals D)
                    rw [HDW.out.2]; exact HDW.out.1.alloc _
                  · rw [HEQ.out.1]
                    show w3.ownsRow w.heap.size 29 2 (.slice (some ⟨g, 0, none⟩) (k + 1) cap3) (k + 1) (flatD ds ++ [.int .i64 (1 + s0 % 200), .slice a2 D.length c2])
                    rw [HDW.out.2]; exact hown3
                clear hown3 hgrow hat hglt hoD O2 HDW HEQ c0 c1
                go_wp2
                go_roundg (4 - (k + 1))
                case measure => omega
                case rel => exact ⟨k + 1, _, _, _, rfl, by go_num, by omega, by omega, by omega, S4⟩
      · as_aux_lemma =>
          have hltz4 : ¬ (k : Int) < 4 := by omega
          have hk0 : ((k : Int) == 0) = false := by
            have : ¬ (k : Int) = 0 := by omega
            simpa using this
          have HE : Hid ((cs.take k).map ofC = ofL cs) := ofL_eq HN.out (by omega) (by omega) hk4 hk
          go_wp2
          go_ret
          exact ⟨_, rfl, ds, SK.out.2.2.trans HE.out, SK.out.1⟩
    · have hltz : ¬ (k : Int) < (n : Int) := by omega
      rcases Nat.eq_zero_or_pos k with hk0 | hk0
      · as_aux_lemma =>
          subst hk0
          have HE : Hid (ofL cs = [(100, [10])]) := by show _ = _; unfold ofL; rw [if_pos (by have := HN.out; omega)]
          have hds : ds = [] := List.eq_nil_of_length_eq_zero SK.out.2.1
          subst hds
          have hown : wr.ownsRow w.heap.size 29 2 (.slice av 0 cv) 0 [] := SK.out.1.own
          have hsz := SK.out.1.bel.size
          go_wp2_with (first | (at_builtin; refine wpList_append_lies _ rfl (.tmp 67) (.tmp 70) 24 rfl w.heap.size 29 j0 _ 2 32 Try.underlying24 hj hy0 hy1 hy2 rfl (by decide) _ _ _ rfl ((hown.alloc _).alloc _) ⟨wr.heap.size + 1, 0, none⟩ 1 1 [.int .i64 100, .slice (some ⟨wr.heap.size, 0, none⟩) 1 1] rfl rfl (cells_two_at (wr.alloc (.cells #[.int .i64 10] 3)) (wr.heap.size + 1) (by simp) _ _ _) (by intro u hu; simp at hu; rcases hu with rfl | rfl <;> rfl) (by decide) (by unfold maxLen; omega) (by omega) (by simp; omega) _ rfl ?_) | go_in)
          · intro g cap3 w3 hown3 hgrow hat hglt
            have hb : Below wr.heap.size wr ((wr.alloc (.cells #[.int .i64 10] 3)).alloc (.cells #[.int .i64 100, .slice (some ⟨wr.heap.size, 0, none⟩) 1 1] 29)) := ((Below.refl _ _).alloc (Nat.le_refl _) _).alloc (by simp) _
            have S4 : Aside (OF w [⟨100, some ⟨wr.heap.size, 0, none⟩, 1, [10]⟩] (.slice (some ⟨g, 0, none⟩) 1 cap3) w3) := by
              refine OF.push (ds := []) (SK.out.1.keep hb) ?_ hown3 hgrow
              exact (World.ownsRow_lit wr #[.int .i64 10] 1 hsz (by unfold maxLen; omega) rfl).alloc _
            clear hown3 hgrow hat hglt hown hb
            go_wp2
            go_ret
            exact ⟨_, rfl, _, by rw [HE.out]; rfl, S4.out⟩
      · as_aux_lemma =>
          have hk0' : ((k : Int) == 0) = false := by
            have : ¬ (k : Int) = 0 := by omega
            simpa using this
          have HE : Hid ((cs.take k).map ofC = ofL cs) := ofL_eq HN.out (by omega) (by omega) hk4 hk
          go_wp2
          go_ret
          exact ⟨_, rfl, ds, SK.out.2.2.trans HE.out, SK.out.1⟩
end Go.Proofs.Ythbjfbkjbggkbaa.dims
