/-
  The contracts of dice.Cut and of the chapter's Cut: the rows that are in a box.
-/
import Derived.Test.YthbjfbkjbggkbaaDicePick
import Derived.Shelf.Abstract
namespace Go.Proofs.Ythbjfbkjbggkbaa.dice
open Go.ChangeShapes Go.WideShapes Go.ChangeAt Go.RowKit Go.Deep
open Go.Proofs.Ythbjfbkjbggkbaa.dims
open Go.Proofs.Ythbjfbkjbggkbaa.table (Rw rwn plain PRow rowCells KeyOk TabOut flatR flatR_len flatR_snoc flatR_one rowCells_one info_row own_rows rwn_mem rwn_eq wpList_append_zero refSame_any)
open Go.Proofs.Ythbjfbkjbggkbaa.cell (C4 In64)
set_option linter.unusedVariables false
set_option maxRecDepth 100000

set_option maxHeartbeats 2000000 in
theorem closure_cut (b1 b2 : Nat) (a1 a2 a3 : Option Addr) (n1 n2 n3 c1 c2 c3 : Nat) (lo up key : List Int) (w : World) (d1 : w.cell? ⟨b1, 0, none⟩ = some (.slice a1 n1 c1)) (d2 : w.cell? ⟨b2, 0, none⟩ = some (.slice a2 n2 c2)) (h1 : Ints w a1 lo) (e1 : lo.length = n1) (h2 : Ints w a2 up) (e2 : up.length = n2) (h3 : Ints w a3 key) (e3 : key.length = n3) (hm : n3 ≤ 9223372036854775807) :
    Calls Try.prog 29 #[.slice a3 n3 c3, .pointer (some ⟨b1, 0, none⟩), .pointer (some ⟨b2, 0, none⟩)] w fun e w' => e = .returned (.bool (wtn lo up key)) ∧ Below w.heap.size w w' := by
  have hC := within_any a1 a2 a3 n1 n2 n3 c1 c2 c3 lo up key w h1 e1 h2 e2 h3 e3 hm
  clear h1 h2 h3 e1 e2 e3
  go_enter Try.func29, Try.ntmps29
  go_wp2_with fail
  refine hC.mono ?_
  rintro e w1 ⟨rfl, hb1⟩
  have B1 : Aside _ := hb1
  clear hb1 hC
  go_wp2
  go_ret
  exact ⟨rfl, B1.out⟩

set_option maxHeartbeats 4000000 in
theorem cut_any (a a1 a2 : Option Addr) (n cap n1 n2 c1 c2 : Nat) (rs : List Rw) (lo up : List Int) (w : World) (hR : table.RowsIn w a rs) (hn : rs.length = n) (hn2 : n ≤ 100000) (hk : ∀ r ∈ rs, r.k.length ≤ 100000) (h1 : Ints w a1 lo) (e1 : lo.length = n1) (h2 : Ints w a2 up) (e2 : up.length = n2) :
    Calls Try.prog 22 #[.slice a n cap, .slice a1 n1 c1, .slice a2 n2 c2] w fun e w' => ∃ v, e = .returned v ∧ TabOut w' v (cutR (wtn lo up) rs) ∧ Below w.heap.size w w' := by
  have hb : Below w.heap.size w ((w.alloc (.cells #[.slice a1 n1 c1] 26)).alloc (.cells #[.slice a2 n2 c2] 26)) := ((Below.refl _ _).alloc (Nat.le_refl _) _).alloc (by simp) _
  have hT : Asks ((w.alloc (.cells #[.slice a1 n1 c1] 26)).alloc (.cells #[.slice a2 n2 c2] 26)) 29 #[.pointer (some ⟨w.heap.size, 0, none⟩), .pointer (some ⟨w.heap.size + 1, 0, none⟩)] (wtn lo up) rs := by
    intro W r hW hr
    obtain ⟨i, hi, rfl⟩ := List.mem_iff_getElem.1 hr
    obtain ⟨b, off, -, hc⟩ := hR.get hi
    have K := (hc i hi).2
    rw [rwn_eq hi] at K
    have hbW : Below w.heap.size w W := hb.trans (hW.mono (by simp; omega))
    exact closure_cut w.heap.size (w.heap.size + 1) a1 a2 _ n1 n2 _ c1 c2 _ lo up _ W ((hW.cell (p := ⟨w.heap.size, 0, none⟩) (by simp; omega)).trans (by simp [go_sem])) ((hW.cell (p := ⟨w.heap.size + 1, 0, none⟩) (by simp)).trans (by simp [go_sem])) (h1.keep hbW) e1 (h2.keep hbW) e2 (K.mem.keep hbW) rfl (Nat.le_trans K.lec K.max)
  have hP := pick_any a n cap rs 29 #[.pointer (some ⟨w.heap.size, 0, none⟩), .pointer (some ⟨w.heap.size + 1, 0, none⟩)] (wtn lo up) _ (hR.keep hb) hn hn2 hk (enters_of Try.func29 (by kernel_rfl) rfl) hT
  have HB : Aside _ := hb
  clear hR hn hk h1 h2 e1 e2 hT hb
  go_enter Try.func22, Try.ntmps22
  go_wp2_with (go_at_call 28; refine hP.mono ?_; rintro e w5 ⟨v, rfl, hR, hb5⟩)
  go_ret
  exact ⟨_, rfl, hR, HB.out.trans (hb5.mono HB.out.size)⟩

set_option maxHeartbeats 8000000 in
theorem refCut_any (a a1 a2 : Option Addr) (n cap n1 n2 c1 c2 : Nat) (rs : List Rw) (lo up : List Int) (w : World) (hR : table.RowsIn w a rs) (hn : rs.length = n) (hn2 : n ≤ 100000) (hk : ∀ r ∈ rs, r.k.length ≤ 100000) (h1 : Ints w a1 lo) (e1 : lo.length = n1) (h2 : Ints w a2 up) (e2 : up.length = n2) (hm : n1 ≤ 9223372036854775807) :
    Calls Try.prog 23 #[.slice a n cap, .slice a1 n1 c1, .slice a2 n2 c2] w fun e w' => ∃ v, e = .returned v ∧ TabOut w' v (cutR (wtn lo up) rs) ∧ Below w.heap.size w w' := by
  obtain ⟨i0, hi, hz0, hz1, hz2⟩ := info_parts info_row
  obtain ⟨j0, hj, hy0, hy1, hy2⟩ := info_parts info_int
  have HH : Aside (table.RowsIn w a rs ∧ rs.length = n ∧ ∀ r ∈ rs, r.k.length ≤ 100000) := ⟨hR, hn, hk⟩
  have HB : Aside (Ints w a1 lo ∧ lo.length = n1 ∧ Ints w a2 up ∧ up.length = n2) := ⟨h1, e1, h2, e2⟩
  clear hR hn hk h1 h2 e1 e2
  obtain ⟨p, hp⟩ : ∃ p, p = wtn lo up := ⟨_, rfl⟩
  have HP : Hid (p = wtn lo up) := hp
  rw [← hp]
  clear hp
  go_enter Try.func23, Try.ntmps23
  go_wp2_with fail
  go_loopg [7, 8, 9] n (fun g1 v vi s wr => ∃ (k : Nat) (os : List Rw), vi = .int .i64 k ∧ k ≤ n ∧ n - k ≤ g1 ∧ os.length ≤ k ∧ Aside (PK w rs p k os v wr))
  case atStart => exact ⟨0, [], rfl, Nat.zero_le _, Nat.le_refl _, Nat.le_refl _, PK.start w rs p⟩
  case round =>
    obtain ⟨k, os, rfl, hk, hg1, hol, SK⟩ := hrel
    by_cases hlt : k < n
    · have hltz : (k : Int) < (n : Int) := by omega
      have hkl : k < rs.length := by rw [HH.out.2.1]; exact hlt
      obtain ⟨b, off, ha, hc⟩ := (HH.out.1.keep SK.out.bel).get hkl
      subst ha
      obtain ⟨⟨r0, r1, r2, r3, r4⟩, K0⟩ := hc k hkl
      clear hc
      have hkm := HH.out.2.2 _ (rwn_mem hkl)
      have hT := fun z (hz : p (rwn rs k).k = z) => refWithin_val a1 a2 (rwn rs k).a n1 n2 (rwn rs k).k.length c1 c2 (rwn rs k).cap lo up (rwn rs k).k z wr (HB.out.1.keep SK.out.bel) HB.out.2.1 (HB.out.2.2.1.keep SK.out.bel) HB.out.2.2.2 K0.mem rfl hm (by rw [← HP.out]; exact hz)
      cases hpk : p (rwn rs k).k with
      | false =>
        have hT := hT false hpk
        have SS : Aside (PK w rs p (k + 1) os u7 wr) := SK.out.skip hkl hpk
        clear hpk SK K0
        generalize rwn rs k = r at r0 r1 r2 r3 r4 hT
        generalize r.k.length = nk at r0 hT
        go_wp2_with fail
        refine hT.mono ?_
        rintro e w2 ⟨rfl, hb2⟩
        have S2 : Aside (PK w rs p (k + 1) os u7 w2) := SS.out.keep hb2
        clear hb2 SS hT
        go_wp2
        go_roundg (n - (k + 1))
        case measure => omega
        case rel => exact ⟨k + 1, os, by go_num, by omega, by omega, by omega, S2⟩
      | true =>
        have hT := hT true hpk
        have PP : Aside (p (rwn rs k).k = true) := hpk
        have KV : Aside (KeyOk wr (rwn rs k).a (rwn rs k).k.length (rwn rs k).cap (rwn rs k).k) := K0
        clear hpk K0
        obtain ⟨r, hr⟩ : ∃ r, rwn rs k = r := ⟨_, rfl⟩
        rw [hr] at r0 r1 r2 r3 r4 hT KV hkm PP
        have HR : Hid (rwn rs k = r) := hr
        clear hr
        obtain ⟨nk, hnk⟩ : ∃ nk, r.k.length = nk := ⟨_, rfl⟩
        rw [hnk] at r0 hT hkm KV
        have HNK : Hid (r.k.length = nk) := hnk
        clear hnk
        go_wp2_with fail
        refine hT.mono ?_
        rintro e w2 ⟨rfl, hb2⟩
        have S2 : Aside (PK w rs p k os u7 w2) := SK.out.keep hb2
        have K2 : Aside (KeyOk w2 r.a nk r.cap r.k) := KV.out.keep hb2
        have kp : ∀ {o : Nat} {v : Value}, wr.cell? ⟨b, o, none⟩ = some v → w2.cell? ⟨b, o, none⟩ = some v := fun {o v} hv => (hb2.cell (p := ⟨b, o, none⟩) (cell_lt hv)).trans hv
        have d0 := kp r0
        have d1 := kp r1
        have d2 := kp r2
        have d3 := kp r3
        have d4 := kp r4
        have PU : Aside (∀ W W' A cK q c4, PK w rs p k os u7 W → W.ownsRow w.heap.size 3 1 (.slice A nk cK) nk (vals r.k) → W'.ownsRow w.heap.size 47 5 (.slice (some ⟨q, 0, none⟩) (os.length + 1) c4) (os.length + 1) (flatR os ++ [.slice A nk cK, .int .i64 r.c.n, .int .i64 r.c.s, .int .i64 r.c.lo, .int .i64 r.c.hi]) → W.grownBy W' u7.ownBlock → PK w rs p (k + 1) (os ++ [⟨A, cK, r.k, r.c⟩]) (.slice (some ⟨q, 0, none⟩) (os.length + 1) c4) W') := fun W W' A cK q c4 hP hd ho hg => by
          refine hP.push (r := ⟨A, cK, r.k, r.c⟩) hkl (by rw [HR.out]; exact PP.out) (by rw [HR.out]; rfl) KV.out.wf ?_ ?_ hg
          · show W.ownsRow w.heap.size 3 1 (.slice A r.k.length cK) r.k.length (vals r.k)
            rw [HNK.out]; exact hd
          · show W'.ownsRow w.heap.size 47 5 _ (os.length + 1) (flatR os ++ [.slice A r.k.length cK, _, _, _, _])
            rw [HNK.out]; exact ho
        clear r0 r1 r2 r3 r4 hb2 kp hT SK KV
        generalize r.c.n = e1 at d1 PU
        generalize r.c.s = e2 at d2 PU
        generalize r.c.lo = e3 at d3 PU
        generalize r.c.hi = e4 at d4 PU
        have hsz := S2.out.bel.size
        by_cases h0 : nk = 0
        · have HL : Aside (vals r.k = []) := by
            have := List.eq_nil_of_length_eq_zero (HNK.out.trans h0)
            show _ = _
            rw [this]; rfl
          have H0 : Hid (nk = 0) := h0
          obtain ⟨ka, hka⟩ : ∃ ka, r.a = ka := ⟨_, rfl⟩
          rw [hka] at d0
          subst h0
          clear hka
          have hown := S2.out.own
          go_wp2_with (first | (at_builtin; refine wpList_append_zero rfl (.tmp 24) (.tmp 29) 26 rfl w.heap.size 3 j0 1 Try.underlying26 hj _ 0 [] rfl (World.ownsRow_nil _ _ _ _) _ _ rfl ?_) | (at_builtin; refine wpList_append_lies _ rfl (.tmp 31) (.tmp 39) 41 rfl w.heap.size 47 i0 _ 5 56 Try.underlying41 hi hz0 hz1 hz2 rfl (by decide) _ os.length (flatR os) rfl (hown.alloc _) ⟨w2.heap.size, 0, none⟩ 1 1 [.slice none 0 0, .int .i64 e1, .int .i64 e2, .int .i64 e3, .int .i64 e4] rfl rfl (cells_five_new _ _ _ _ _ _ _) (by intro u hu; simp at hu; rcases hu with rfl | rfl | rfl | rfl | rfl <;> rfl) (by decide) (by unfold maxLen; omega) (by omega) (by simp; omega) _ rfl ?_) | go_in)
          intro g4 cap4 w4 hown4 hgrow hat hglt
          have S4 : Aside (PK w rs p (k + 1) (os ++ [⟨none, 0, r.k, r.c⟩]) (.slice (some ⟨g4, 0, none⟩) (os.length + 1) cap4) w4) :=
            PU.out _ w4 none 0 g4 cap4 (S2.out.keep ((Below.refl _ _).alloc (Nat.le_refl _) _)) (by rw [HL.out]; exact World.ownsRow_nil _ _ _ _) hown4 hgrow
          clear PU hown4 hgrow hat hglt S2 hown
          go_wp2
          go_roundg (n - (k + 1))
          case measure => omega
          case rel => exact ⟨k + 1, _, by go_num, by omega, by omega, by simp; omega, S4⟩
        · obtain ⟨kb, ko, hka, hkc⟩ := K2.out.mem.get (k := 0) (by rw [HNK.out]; omega)
          rw [hka] at d0
          have hnews := ints_news hkc
          have hvl : (vals r.k).length = nk * 1 := by rw [vals_len, HNK.out]; omega
          have hcl : Aside (∀ W, Below w2.heap.size w2 W → True) := fun _ _ => trivial
          go_wp2_with (first | (at_builtin; refine wpList_append_lies _ rfl (.tmp 24) (.tmp 29) 26 rfl w2.heap.size 3 j0 _ 1 8 Try.underlying26 hj hy0 hy1 hy2 rfl (by decide) _ 0 [] rfl (World.ownsRow_nil _ _ _ _) ⟨kb, ko, none⟩ nk r.cap (vals r.k) rfl hvl hnews (vals_one _) (by omega) (by unfold maxLen; omega) (by omega) (Nat.le_refl _) _ rfl ?_) | go_in)
          intro g3 c3 w3 hown3 hgrow3 hat3 hglt3
          have b23 : Below w2.heap.size w2 w3 := (Below.refl _ _).grown hgrow3 (Nat.le_refl _) fun q hq => by cases hq
          have kp : ∀ {o : Nat} {v : Value}, w2.cell? ⟨b, o, none⟩ = some v → w3.cell? ⟨b, o, none⟩ = some v := fun {o v} hv => (b23.cell (p := ⟨b, o, none⟩) (cell_lt hv)).trans hv
          have d1 := kp d1
          have d2 := kp d2
          have d3 := kp d3
          have d4 := kp d4
          have S3 : Aside (PK w rs p k os u7 w3) := S2.out.keep b23
          have O3 : Aside (w3.ownsRow w.heap.size 3 1 (.slice (some ⟨g3, 0, none⟩) nk c3) nk (vals r.k)) := by
            exact own_mono hown3 hsz
          clear hown3 hgrow3 hat3 hglt3 b23 kp S2 K2 hka hkc hnews hvl d0 hsz
          have hown := S3.out.own
          have hsz := S3.out.bel.size
          go_wp2_with (first | (at_builtin; refine wpList_append_lies _ rfl (.tmp 31) (.tmp 39) 41 rfl w.heap.size 47 i0 _ 5 56 Try.underlying41 hi hz0 hz1 hz2 rfl (by decide) _ os.length (flatR os) rfl (hown.alloc _) ⟨w3.heap.size, 0, none⟩ 1 1 [.slice (some ⟨g3, 0, none⟩) nk c3, .int .i64 e1, .int .i64 e2, .int .i64 e3, .int .i64 e4] rfl rfl (cells_five_new _ _ _ _ _ _ _) (by intro u hu; simp at hu; rcases hu with rfl | rfl | rfl | rfl | rfl <;> rfl) (by decide) (by unfold maxLen; omega) (by omega) (by simp; omega) _ rfl ?_) | go_in)
          intro g4 cap4 w4 hown4 hgrow hat hglt
          have S4 : Aside (PK w rs p (k + 1) (os ++ [⟨some ⟨g3, 0, none⟩, c3, r.k, r.c⟩]) (.slice (some ⟨g4, 0, none⟩) (os.length + 1) cap4) w4) :=
            PU.out _ w4 (some ⟨g3, 0, none⟩) c3 g4 cap4 (S3.out.keep ((Below.refl _ _).alloc (Nat.le_refl _) _)) (O3.out.alloc _) hown4 hgrow
          clear PU hown4 hgrow hat hglt S3 O3 hown
          go_wp2
          go_roundg (n - (k + 1))
          case measure => omega
          case rel => exact ⟨k + 1, _, by go_num, by omega, by omega, by simp; omega, S4⟩
    · have hltz : ¬ (k : Int) < (n : Int) := by omega
      have HR : Aside (TabOut wr u7 (cutR p rs) ∧ Below w.heap.size w wr) := ⟨SK.out.out (by rw [HH.out.2.1]; omega), SK.out.bel⟩
      clear SK
      go_wp2
      go_ret
      exact ⟨_, rfl, HR.out.1, HR.out.2⟩
end Go.Proofs.Ythbjfbkjbggkbaa.dice
