/-
  The contract of the chapter's Run.
-/
import Derived.Test.YtgimknplckkiaaaGreatDoorQueryRefCheck
import Derived.Test.YtgimknplckkiaaaGreatDoorQueryWork
import Derived.Test.YtgimknplckkiaaaGreatDoorTableRefRoll
namespace Go.Proofs.YtgimknplckkiaaaGreatDoor.query
open Go.ChangeShapes Go.WideShapes Go.ChangeAt Go.RowKit Go.Deep
open Go.Proofs.YtgimknplckkiaaaGreatDoor.dims
open Go.Proofs.YtgimknplckkiaaaGreatDoor.table
open Go.Proofs.YtgimknplckkiaaaGreatDoor.dice (wtn bx cutR refCut_any)
open Go.Proofs.YtgimknplckkiaaaGreatDoor.cell (C4 In64)
set_option linter.unusedVariables false
set_option maxRecDepth 100000

theorem refCut_rows (a a1 a2 : Option Addr) (n cap n1 n2 c1 c2 : Nat) (rs : List Rw) (lo up : List Int) (w : World) (hR : table.RowsIn w a rs) (hn : rs.length = n) (hn2 : n ≤ 100000) (hk : ∀ r ∈ rs, r.k.length ≤ 100000) (h1 : Ints w a1 lo) (e1 : lo.length = n1) (h2 : Ints w a2 up) (e2 : up.length = n2) (hm : n1 ≤ 9223372036854775807) :
    Calls Tryz.prog 25 #[.slice a n cap, .slice a1 n1 c1, .slice a2 n2 c2] w fun e w' => ∃ p m q, e = .returned (.slice p m q) ∧ Rows' w' p m (cutR (wtn lo up) rs) ∧ Below w.heap.size w w' := by
  refine (refCut_any a a1 a2 n cap n1 n2 c1 c2 rs lo up w hR hn hn2 hk h1 e1 h2 e2 hm).mono ?_
  rintro e w1 ⟨v, rfl, ⟨p, q, cs, hv, hR1, he, -⟩, hb⟩
  exact ⟨p, cs.length, q, by rw [hv], ⟨cs, hR1, rfl, he⟩, hb⟩
theorem zeros_snoc (j : Nat) : vals (zeros (j + 1)) = vals (zeros j) ++ [.int .i64 0] := by
  unfold zeros
  rw [List.replicate_succ', vals_app]; rfl
/-- a table's length -/
def TabN (W : World) (p : Option Addr) (m q : Nat) (t : List PRow) : Prop := TabOut W (.slice p m q) t ∧ t.length = m
theorem tab_n {W : World} {v : Value} {t : List PRow} (h : TabOut W v t) : ∃ p m q, v = .slice p m q ∧ TabN W p m q t := by
  obtain ⟨p, q, rs, hv, h1, h2, h3, h4⟩ := h
  exact ⟨p, rs.length, q, hv, ⟨p, q, rs, rfl, h1, h2, h3, h4⟩, by rw [← h2]; simp⟩

set_option maxHeartbeats 8000000 in
theorem refRun_any (a ar aL a1 a2 : Option Addr) (n cap nr cr nL cL n1 c1 n2 c2 : Nat) (ds : List Dm) (rs : List Rw) (L lo hi : List Int) (w : World) (hI : DimsIn w a ds) (hn : ds.length = n) (hm : n ≤ 9223372036854775807) (hR : table.RowsIn w ar rs) (hr : rs.length = nr) (hr2 : nr ≤ 10000) (hL : Ints w aL L) (eL : L.length = nL) (h1 : Ints w a1 lo) (e1 : lo.length = n1) (h2 : Ints w a2 hi) (e2 : hi.length = n2) :
    Calls Tryz.prog 10 #[.slice a n cap, .slice ar nr cr, .agg #[.slice aL nL cL, .slice a1 n1 c1, .slice a2 n2 c2]] w fun e w' => ∃ v, e = .returned (.tuple #[v, .int .i64 (runE ds rs L lo hi)]) ∧ TabOut w' v (runR ds rs L lo hi) ∧ Below w.heap.size w w' := by
  obtain ⟨i0, hi0, hz0, hz1, hz2⟩ := info_parts info_int
  have HH : Aside (DimsIn w a ds ∧ ds.length = n ∧ (Ints w aL L ∧ L.length = nL) ∧ (Ints w a1 lo ∧ lo.length = n1) ∧ Ints w a2 hi ∧ hi.length = n2) := ⟨hI, hn, ⟨hL, eL⟩, ⟨h1, e1⟩, h2, e2⟩
  have HR : Aside (table.RowsIn w ar rs ∧ rs.length = nr) := ⟨hR, hr⟩
  have R1 : Aside (QB w w.heap.size (.slice aL nL cL) (.slice a1 n1 c1) (.slice a2 n2 c2) (w.alloc (.cells #[.slice aL nL cL, .slice a1 n1 c1, .slice a2 n2 c2] 36))) := QB.start w _ _ _ _
  clear hI hn hR hr hL eL h1 e1 h2 e2
  go_enter Tryz.func10, Tryz.ntmps10
  go_wp2_with fail
  generalize (w.alloc (.cells #[.slice aL nL cL, .slice a1 n1 c1, .slice a2 n2 c2] 36)) = w1 at R1 ⊢
  obtain ⟨E, hE⟩ : ∃ E, checkE ds L lo hi = E := ⟨_, rfl⟩
  have C1 := refCheck_any a aL a1 a2 n cap nL cL n1 c1 n2 c2 ds L lo hi w1 (HH.out.1.keep R1.out.bel) HH.out.2.1 hm (HH.out.2.2.1.1.keep R1.out.bel) HH.out.2.2.1.2 (HH.out.2.2.2.1.1.keep R1.out.bel) HH.out.2.2.2.1.2 (HH.out.2.2.2.2.1.keep R1.out.bel) HH.out.2.2.2.2.2
  rw [hE] at C1
  refine C1.mono ?_
  rintro e w2 ⟨rfl, hb2⟩
  have R2 : Aside _ := R1.out.keep hb2
  clear C1 hb2 R1
  by_cases h0 : E = 0
  case neg =>
    have EE : Hid (runE ds rs L lo hi = E ∧ runR ds rs L lo hi = []) := by
      have := run_bad (rs := rs) (ds := ds) (L := L) (lo := lo) (hi := hi) (by rw [hE]; exact h0)
      rw [hE] at this; exact this
    have hx : (E != 0) = true := by rw [bne_iff_ne]; exact h0
    clear h0 hE
    go_wp2
    go_ret2
    exact ⟨_, by rw [EE.out.1]; rfl, by rw [EE.out.2]; exact TabOut.nil _, R2.out.bel⟩
  subst h0
  have HE : Hid (checkE ds L lo hi = 0) := hE
  clear hE
  have hn4 : n ≤ 4 := by have := (check_ok HE.out).1; unfold sndL at this; rw [HH.out.2.1] at this; simp at this; omega
  obtain ⟨s, hs⟩ : ∃ s, sndT rs n = s := ⟨_, rfl⟩
  have C1 := refSoundT_any ar nr cr rs n w2 (HR.out.1.keep R2.out.bel) HR.out.2 (by omega)
  rw [hs] at C1
  go_wp2_with fail
  refine C1.mono ?_
  rintro e w3 ⟨rfl, hb3⟩
  have R3 : Aside _ := R2.out.keep hb3
  clear C1 hb3 R2
  cases s with
  | false =>
    have EE : Hid (runE ds rs L lo hi = 1 ∧ runR ds rs L lo hi = []) := run_1 HE.out (by rw [HH.out.2.1]; exact hs)
    clear hs
    go_wp2
    go_ret2
    exact ⟨_, by rw [EE.out.1]; rfl, by rw [EE.out.2]; exact TabOut.nil _, R3.out.bel⟩
  | true =>
    have HT : Hid (sndT rs n = true) := hs
    clear hs
    have EE : Hid (runE ds rs L lo hi = toldE (runT ds (rs.map plain) L lo hi) 0 ∧ runR ds rs L lo hi = toldT (runT ds (rs.map plain) L lo hi)) := run_0 HE.out (by rw [HH.out.2.1]; exact HT.out)
    have hx1 : nL = n := by have := (lvq_at (check_ok HE.out).2.1).1; rw [HH.out.2.2.1.2, HH.out.2.1] at this; exact this
    subst hx1
    go_wp2_with fail
    go_loopg [9, 10] nL (fun g1 v vi wr => ∃ (j : Nat), vi = .int .i64 j ∧ j ≤ nL ∧ nL - j ≤ g1 ∧ Aside (wr.ownsRow w3.heap.size 3 1 v j (vals (zeros j)) ∧ Below w3.heap.size w3 wr))
    case atStart => exact ⟨0, rfl, Nat.zero_le _, Nat.le_refl _, World.ownsRow_nil _ _ _ _, Below.refl _ _⟩
    case round =>
      obtain ⟨j, rfl, hj, hg1, SK⟩ := hrel
      by_cases hlt : j < nL
      · have hltz : (j : Int) < (nL : Int) := by omega
        have hown := SK.out.1
        have hsz := SK.out.2.size
        go_wp2_with (first | (at_builtin; refine wpList_append_lies _ rfl (.tmp 30) (.tmp 31) 34 rfl w3.heap.size 3 i0 _ 1 8 Tryz.underlying34 hi0 hz0 hz1 hz2 rfl (by decide) _ _ _ rfl (hown.alloc _) ⟨wr.heap.size, 0, none⟩ 1 1 [.int .i64 0] rfl rfl (cell_one_new _ _ _) (by intro u hu; simp at hu; subst hu; rfl) (by decide) (by unfold maxLen; omega) (by omega) (by simp; omega) _ rfl ?_) | go_in)
        intro g cap3 w5 hown3 hgrow hat hglt
        have S3 : Aside (w5.ownsRow w3.heap.size 3 1 (.slice (some ⟨g, 0, none⟩) (j + 1) cap3) (j + 1) (vals (zeros (j + 1))) ∧ Below w3.heap.size w3 w5) :=
          ⟨by rw [zeros_snoc]; exact hown3, (SK.out.2.alloc hsz _).grown hgrow (by simp; omega) fun q hq => (SK.out.1.lt q hq).1⟩
        clear hown3 hgrow hat hglt hown SK
        go_wp2
        go_roundg (nL - (j + 1))
        case measure => omega
        case rel => exact ⟨j + 1, by go_num, by omega, by omega, S3⟩
      · have hltz : ¬ (j : Int) < (nL : Int) := by omega
        obtain rfl : j = nL := by omega
        have R4 : Aside _ := R3.out.keep SK.out.2
        have HZ0 := (own_out SK.out.1).1
        obtain ⟨gz, cz, rfl, hzz, -⟩ := HZ0
        rw [zeros_len]
        have HZ : Aside (Ints wr gz (zeros j)) := hzz
        clear hzz SK R3
        have q1 := R4.out.c1
        have q2 := R4.out.c2
        have q3 := R4.out.c3
        obtain ⟨T, hTT⟩ : ∃ T, runT ds (rs.map plain) L lo hi = T := ⟨_, rfl⟩
        rw [hTT] at EE
        have hA : ∀ W, Below wr.heap.size wr W → Calls Tryz.prog 25 #[.slice ar nr cr, .slice a1 n1 c1, .slice a2 n2 c2] W fun e w' => ∃ p m q, e = .returned (.slice p m q) ∧ Rows' w' p m (cutR (wtn lo hi) rs) ∧ Below W.heap.size W w' := fun W hW => by
          have hb := R4.out.bel.trans (hW.mono R4.out.bel.size)
          have h9 : n1 ≤ 9223372036854775807 := by
            have := (check_ok HE.out).2.2
            unfold bx at this
            simp only [Bool.and_eq_true, decide_eq_true_eq] at this
            have e1 := this.1
            rw [HH.out.2.2.2.1.2, HH.out.2.1] at e1
            omega
          exact refCut_rows ar a1 a2 nr cr n1 n2 c1 c2 rs lo hi W (HR.out.1.keep hb) HR.out.2 (by omega) (rows_few HT.out hn4) (HH.out.2.2.2.1.1.keep hb) HH.out.2.2.2.1.2 (HH.out.2.2.2.2.1.keep hb) HH.out.2.2.2.2.2 h9
        have hB : ∀ W p m q, Below wr.heap.size wr W → Rows' W p m (cutR (wtn lo hi) rs) → Calls Tryz.prog 24 #[.slice a j cap, .slice p m q, .slice gz j cz, .slice aL j cL] W fun e w' => ∃ v, e = .returned (.tuple #[v, .int .i64 0]) ∧ TabOut w' v T ∧ Below W.heap.size W w' := fun W p m q hW hK => by
          obtain ⟨cs, k1, k2, k3⟩ := hK
          have hb := R4.out.bel.trans (hW.mono R4.out.bel.size)
          have hl := rows_len k3
          have := refRoll_any a p gz aL j m j j cap q cz cL ds cs (zeros j) L W (HH.out.1.keep hb) HH.out.2.1 hm k1 k2 (by have := HR.out.2; omega) (HZ.out.keep hW) (zeros_len _) (HH.out.2.2.1.1.keep hb) HH.out.2.2.1.2
          have hrc := roll_cut (cs := cs) HE.out (by rw [HH.out.2.1]; exact HT.out) k3
          rw [HH.out.2.1, hTT] at hrc
          rw [hrc.1, hrc.2] at this
          exact this
        clear hTT
        go_wp2_with fail
        go_region_held3 (fun w' => Below wr.heap.size wr w' ∧ w'.cell? ⟨w.heap.size, 0, none⟩ = some (.slice aL j cL) ∧ w'.cell? ⟨w.heap.size, 1, none⟩ = some (.slice a1 n1 c1) ∧ w'.cell? ⟨w.heap.size, 2, none⟩ = some (.slice a2 n2 c2))
          (first | with_reducible assumption | (exact ⟨(Below.refl _ _).drew, q1, q2, q3⟩) | (refine keepQ (W0 := wr) (B := w.heap.size) (x1 := .slice aL j cL) (x2 := .slice a1 n1 c1) (x3 := .slice a2 n2 c2) hb1 ?_; with_reducible assumption) | (refine keepQ (W0 := wr) (B := w.heap.size) (x1 := .slice aL j cL) (x2 := .slice a1 n1 c1) (x3 := .slice a2 n2 c2) hb2 ?_; with_reducible assumption))
          (first | (go_at_call 25; refine (hA _ ?_).mono ?_; (focus (apply And.left; assumption)); rintro e wa ⟨p1, m1, q1', rfl, hK1, hb1⟩) | (go_at_call 24; refine (hB _ p1 m1 q1' ?_ hK1).mono ?_; (focus (apply And.left; assumption)); rintro e wb ⟨v2, rfl, hT2, hb2⟩))
        have B4 : Aside (Below wr.heap.size wr wb) := by apply And.left; assumption
        obtain ⟨pt, mt, qt, rfl, hTN⟩ := tab_n hT2
        have HT3 : Aside (TabN wb pt mt qt T) := hTN
        clear hA hB hT2 hb1 hb2 hK1 hTN q1 q2 q3
        by_cases h5 : mt ≤ 500
        · have h5z : ¬ (500 : Int) < (mt : Int) := by omega
          have E2 : Hid (toldE T 0 = 0 ∧ toldT T = T) := told_few (by have := HT3.out.2; omega) 0
          go_wp2
          go_ret2
          exact ⟨_, by rw [EE.out.1, E2.out.1]; rfl, by rw [EE.out.2, E2.out.2]; exact HT3.out.1, R4.out.bel.trans (B4.out.mono R4.out.bel.size)⟩
        · have h5z : (500 : Int) < (mt : Int) := by omega
          have E2 : Hid (toldE T 0 = 61 ∧ toldT T = []) := told_many (by have := HT3.out.2; omega) 0
          go_wp2
          go_ret2
          exact ⟨_, by rw [EE.out.1, E2.out.1]; rfl, by rw [EE.out.2, E2.out.2]; exact TabOut.nil _, R4.out.bel.trans (B4.out.mono R4.out.bel.size)⟩

theorem refRun_made (a p aL a1 a2 : Option Addr) (n cap m q cL c1 c2 : Nat) (ds : List Dm) (t : List PRow) (F : List PFact) (L lo hi : List Int) (w : World) (hI : DimsIn w a ds) (hd : Dims ds n) (hT : TabL w p m q t) (hM : MT n t F) (hm : m ≤ 1000) (hF : F.length ≤ 500) (hL : Ints w aL L) (hl : Lev ds n (zeros n) L) (h1 : Ints w a1 lo) (h2 : Ints w a2 hi) (hb : Box ds n lo hi) :
    Calls Tryz.prog 10 #[.slice a n cap, .slice p m q, .agg #[.slice aL n cL, .slice a1 n c1, .slice a2 n c2]] w fun e w' => ∃ x, e = .returned x ∧ ROut w .i64 (runF ds L lo hi F).length (runT ds t L lo hi) x w' := by
  obtain ⟨rs, b1, b2, b3, b4, b5⟩ := hT
  have hn4 := hd.few
  refine (refRun_any a p aL a1 a2 n cap m q n cL n c1 n c2 ds rs L lo hi w hI hd.len (by omega) b1 b3 (by omega) hL hl.lt h1 hb.ll h2 hb.lh).mono ?_
  rintro e w1 ⟨v, rfl, hT, hbl⟩
  obtain ⟨e1, e2⟩ := MT.ran hM b2 hd.snd hd.len hl hb hF
  rw [e2] at hT
  obtain ⟨p', m', q', hv, hL', hml⟩ := hT.tabL
  refine ⟨_, rfl, ⟨p', m', q', by rw [e1, hv], hL', ?_⟩, hbl⟩
  rw [hml]
  exact rows_le (MT.run hM hl hd.len hd.snd).m
end Go.Proofs.YtgimknplckkiaaaGreatDoor.query
