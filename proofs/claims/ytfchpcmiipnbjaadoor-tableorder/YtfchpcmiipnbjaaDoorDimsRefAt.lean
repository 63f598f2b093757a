/-
  The contract of the chapter's At, where it may be asked.
-/
import Derived.Test.YtfchpcmiipnbjaaDoorDimsAtF
import Derived.Test.YtfchpcmiipnbjaaDoorDimsRefUp
namespace Go.Proofs.YtfchpcmiipnbjaaDoor.dims
open Go.ChangeShapes Go.WideShapes Go.ChangeAt Go.RowKit Go.Deep
set_option linter.unusedVariables false
set_option maxRecDepth 100000

/-- what the round reads, and all that was there -/
theorem five_keep {W0 W w' : World} {B b p b1 p1 b2 p2 b3 p3 : Nat} {x0 x1 x2 x3 x4 : Value} (hb : Below W.heap.size W w')
    (h : Below B W0 W ∧ B ≤ W.heap.size ∧ W.cell? ⟨b, p, none⟩ = some x0 ∧ W.cell? ⟨b, p + 1, none⟩ = some x1 ∧ W.cell? ⟨b1, p1, none⟩ = some x2 ∧ W.cell? ⟨b2, p2, none⟩ = some x3 ∧ W.cell? ⟨b3, p3, none⟩ = some x4) :
    Below B W0 w' ∧ B ≤ w'.heap.size ∧ w'.cell? ⟨b, p, none⟩ = some x0 ∧ w'.cell? ⟨b, p + 1, none⟩ = some x1 ∧ w'.cell? ⟨b1, p1, none⟩ = some x2 ∧ w'.cell? ⟨b2, p2, none⟩ = some x3 ∧ w'.cell? ⟨b3, p3, none⟩ = some x4 := by
  obtain ⟨h0, h1, h2, h3, h4, h5, h6⟩ := h
  have k : ∀ {c o : Nat} {v : Value}, W.cell? ⟨c, o, none⟩ = some v → w'.cell? ⟨c, o, none⟩ = some v := fun {c o v} hv => (hb.cell (p := ⟨c, o, none⟩) (cell_lt hv)).trans hv
  exact ⟨h0.trans (hb.mono h1), Nat.le_trans h1 hb.size, k h2, k h3, k h4, k h5, k h6⟩

theorem five_grown {W0 W w' : World} {row : Option Nat} {B b p b1 p1 b2 p2 b3 p3 : Nat} {x0 x1 x2 x3 x4 : Value} (hg : W.grownBy w' row) (hr : ∀ k, row = some k → B ≤ k) (l : b < B) (l1 : b1 < B) (l2 : b2 < B) (l3 : b3 < B)
    (h : Below B W0 W ∧ B ≤ W.heap.size ∧ W.cell? ⟨b, p, none⟩ = some x0 ∧ W.cell? ⟨b, p + 1, none⟩ = some x1 ∧ W.cell? ⟨b1, p1, none⟩ = some x2 ∧ W.cell? ⟨b2, p2, none⟩ = some x3 ∧ W.cell? ⟨b3, p3, none⟩ = some x4) :
    Below B W0 w' ∧ B ≤ w'.heap.size ∧ w'.cell? ⟨b, p, none⟩ = some x0 ∧ w'.cell? ⟨b, p + 1, none⟩ = some x1 ∧ w'.cell? ⟨b1, p1, none⟩ = some x2 ∧ w'.cell? ⟨b2, p2, none⟩ = some x3 ∧ w'.cell? ⟨b3, p3, none⟩ = some x4 := by
  obtain ⟨h0, h1, h2, h3, h4, h5, h6⟩ := h
  have hb : Below B W w' := (Below.refl _ _).grown hg h1 hr
  have k : ∀ {c o : Nat} {v : Value}, c < B → W.cell? ⟨c, o, none⟩ = some v → w'.cell? ⟨c, o, none⟩ = some v := fun {c o v} hl hv => (hb.cell (p := ⟨c, o, none⟩) hl).trans hv
  exact ⟨h0.trans hb, Nat.le_trans h1 hg.size, k l h2, k l h3, k l1 h4, k l2 h5, k l3 h6⟩

theorem take_nth (l : List Int) (k : Nat) (h : k < l.length) : l.take (k + 1) = l.take k ++ [nth l k] := by
  rw [List.take_succ_eq_append_getElem h]
  simp [nth, h]

set_option maxHeartbeats 8000000 in
theorem refAt_cap (a a1 a2 a3 : Option Addr) (n cap c1 c2 c3 : Nat) (ds : List Dm) (f t k : List Int) (w : World) (hI : DimsIn w a ds) (hn : ds.length = n) (h1 : Ints w a1 f) (h2 : Ints w a2 t) (h3 : Ints w a3 k) (e1 : f.length = n) (e2 : t.length = n) (e3 : k.length = n) (hs : sndL ds = true) (hk : ∀ i, i < n → nth k i ≤ 9223372036854775807) :
    Calls Tryd.prog 43 #[.slice a n cap, .slice a1 n c1, .slice a2 n c2, .slice a3 n c3] w fun e w' => ∃ v, e = .returned v ∧ RowCap w' v (atL ds f t k) ∧ Below w.heap.size w w' := by
  obtain ⟨i0, hi, hz0, hz1, hz2⟩ := info_parts info_int
  have hn4 : n ≤ 4 := by unfold sndL at hs; rw [hn] at hs; simp at hs; omega
  have hall : ∀ i, i < n → SoundD (dn ds i).sz (dn ds i).l := fun i hi => by
    have hd : ds.all sndD = true := by unfold sndL at hs; simp only [Bool.and_eq_true] at hs; exact hs.2.2
    exact (sndB_iff _ _).1 (all_at hd (by omega))
  have hL := refSound_any a n cap ds w hI hn (by omega)
  rw [hs] at hL
  have HA : Aside (∀ i, i < n → SoundD (dn ds i).sz (dn ds i).l) := hall
  have HI : Aside (DimsIn w a ds ∧ ds.length = n) := ⟨hI, hn⟩
  have H1 : Aside (Ints w a1 f ∧ f.length = n) := ⟨h1, e1⟩
  have H2 : Aside (Ints w a2 t ∧ t.length = n) := ⟨h2, e2⟩
  have H3 : Aside (Ints w a3 k ∧ k.length = n) := ⟨h3, e3⟩
  have HKV : Aside (∀ i, i < n → nth k i ≤ 9223372036854775807) := hk
  obtain ⟨L, hLL⟩ : ∃ L, atL ds f t k = L := ⟨_, rfl⟩
  have HL : Hid (atL ds f t k = L ∧ L.length = n) := ⟨hLL, by rw [← hLL, atL_len, hn]⟩
  rw [hLL]
  clear hall hI hn h1 h2 h3 e1 e2 e3 hs hk hLL
  go_enter Tryd.func43, Tryd.ntmps43
  go_wp2_with fail
  refine hL.mono ?_
  rintro e W1 ⟨rfl, hb1⟩
  have SB1 : Aside _ := hb1
  clear hb1 hL
  go_wp2_with fail
  go_loopg [9, 10] n (fun g1 v vi wr => ∃ (j : Nat), vi = .int .i64 j ∧ j ≤ n ∧ n - j ≤ g1 ∧ Aside (wr.ownsRow w.heap.size 3 1 v j (vals (L.take j)) ∧ Below w.heap.size w wr))
  case atStart => exact ⟨0, rfl, Nat.zero_le _, Nat.le_refl _, World.ownsRow_nil _ _ _ _, SB1.out⟩
  case round =>
    clear SB1
    obtain ⟨j, rfl, hj, hg1, SK⟩ := hrel
    by_cases hlt : j < n
    · have hltz : (j : Int) < (n : Int) := by omega
      have hbl := SK.out.2
      obtain ⟨b, off, ha, hc⟩ := HI.out.1.get (k := j) (by rw [HI.out.2]; exact hlt)
      obtain ⟨b1, o1, ha1, hc1⟩ := H1.out.1.get (k := j) (by rw [H1.out.2]; exact hlt)
      obtain ⟨b2, o2, ha2, hc2⟩ := H2.out.1.get (k := j) (by rw [H2.out.2]; exact hlt)
      obtain ⟨b3, o3, ha3, hc3⟩ := H3.out.1.get (k := j) (by rw [H3.out.2]; exact hlt)
      subst ha
      subst ha1
      subst ha2
      subst ha3
      obtain ⟨r0, r1, ri, rm⟩ := hc j (by rw [HI.out.2]; exact hlt)
      have p1 := hc1 j (by rw [H1.out.2]; exact hlt)
      have p2 := hc2 j (by rw [H2.out.2]; exact hlt)
      have p3 := hc3 j (by rw [H3.out.2]; exact hlt)
      have l0 := cell_lt r0
      have l1 := cell_lt p1
      have l2 := cell_lt p2
      have l3 := cell_lt p3
      have hS := HA.out j hlt
      have hr := fun W (h : Ints W (dn ds j).a (dn ds j).l) => refUp_any (dn ds j).sz (dn ds j).a (dn ds j).l.length (dn ds j).cap (dn ds j).l (nth f j) (nth t j) (nth k j) W h rfl rm (HKV.out j hlt)
      have ev : upV (dn ds j).sz (dn ds j).l (nth f j) (nth t j) (nth k j) = nth L j := by
        rw [← HL.out.1, atL_nth _ _ _ _ (by rw [HI.out.2]; exact hlt)]
        exact if_pos (sndB_true hS)
      rw [ev] at hr
      obtain ⟨r, hrr⟩ : ∃ r, nth L j = r := ⟨_, rfl⟩
      rw [hrr] at hr
      have HT : Hid (vals (L.take (j + 1)) = vals (L.take j) ++ [.int .i64 r]) := by
        show _ = _
        rw [take_nth L j (by rw [HL.out.2]; exact hlt), vals_app, hrr]; rfl
      clear ev hrr hc hc1 hc2 hc3 hS rm
      rw [← hbl.cell (p := ⟨b, off + j * 2, none⟩) l0] at r0
      rw [← hbl.cell (p := ⟨b, off + j * 2 + 1, none⟩) l0] at r1
      rw [← hbl.cell (p := ⟨b1, o1 + j, none⟩) l1] at p1
      rw [← hbl.cell (p := ⟨b2, o2 + j, none⟩) l2] at p2
      rw [← hbl.cell (p := ⟨b3, o3 + j, none⟩) l3] at p3
      have RI : Aside (Ints w (dn ds j).a (dn ds j).l) := ri
      generalize nth f j = q1 at p1 hr
      generalize nth t j = q2 at p2 hr
      generalize nth k j = q3 at p3 hr
      generalize (dn ds j).sz = t1 at r0 hr
      generalize (dn ds j).l.length = t3 at r1 hr
      generalize (dn ds j).cap = t4 at r1 hr
      clear ri
      generalize (dn ds j).a = t2 at r1 hr RI
      generalize (dn ds j).l = t5 at hr RI
      have hsz := hbl.size
      have hown := SK.out.1
      clear hbl
      go_wp2_with fail
      go_region_held_law (fun w' => Below w.heap.size w w' ∧ w.heap.size ≤ w'.heap.size ∧ w'.cell? ⟨b, off + j * 2, none⟩ = some (.int .i64 t1) ∧ w'.cell? ⟨b, off + j * 2 + 1, none⟩ = some (.slice t2 t3 t4) ∧ w'.cell? ⟨b1, o1 + j, none⟩ = some (.int .i64 q1) ∧ w'.cell? ⟨b2, o2 + j, none⟩ = some (.int .i64 q2) ∧ w'.cell? ⟨b3, o3 + j, none⟩ = some (.int .i64 q3))
        (first | assumption | (exact ⟨SK.out.2.drew, hsz, r0, r1, p1, p2, p3⟩) | (exact ⟨SK.out.2, hsz, r0, r1, p1, p2, p3⟩) | (refine five_keep (W0 := w) (B := w.heap.size) (b := b) (p := off + j * 2) (b1 := b1) (p1 := o1 + j) (b2 := b2) (p2 := o2 + j) (b3 := b3) (p3 := o3 + j) (x0 := .int .i64 t1) (x1 := .slice t2 t3 t4) (x2 := .int .i64 q1) (x3 := .int .i64 q2) (x4 := .int .i64 q3) hb2 ?_; assumption) | (refine five_keep (W0 := w) (B := w.heap.size) (b := b) (p := off + j * 2) (b1 := b1) (p1 := o1 + j) (b2 := b2) (p2 := o2 + j) (b3 := b3) (p3 := o3 + j) (x0 := .int .i64 t1) (x1 := .slice t2 t3 t4) (x2 := .int .i64 q1) (x3 := .int .i64 q2) (x4 := .int .i64 q3) ((Below.refl _ _).alloc (Nat.le_refl _) _) ?_; assumption) | (refine five_grown (W0 := w) (B := w.heap.size) (b := b) (p := off + j * 2) (b1 := b1) (p1 := o1 + j) (b2 := b2) (p2 := o2 + j) (b3 := b3) (p3 := o3 + j) (x0 := .int .i64 t1) (x1 := .slice t2 t3 t4) (x2 := .int .i64 q1) (x3 := .int .i64 q2) (x4 := .int .i64 q3) hgrow (fun q hq => (hown.lt q hq).1) l0 l1 l2 l3 ?_; assumption))
        (first | (go_at_call 61; refine (hr _ (RI.out.keep (by apply And.left; assumption))).mono ?_; rintro e w2 ⟨rfl, hb2⟩) | (refine step_append_lies _ rfl (.tmp 42) (.tmp 60) 38 rfl w.heap.size 3 i0 _ 1 8 Tryd.underlying38 hi hz0 hz1 hz2 rfl (by decide) _ j (vals (L.take j)) rfl ((own_below hown.drew hb2).alloc _) ⟨w2.heap.size, 0, none⟩ 1 1 [.int .i64 r] rfl rfl (cell_one_new _ _ _) (by intro u hu; simp at hu; subst hu; rfl) (by decide) (by unfold maxLen; omega) (by omega) (by have := hb2.size; have e : wr.drew.heap.size = wr.heap.size := rfl; simp; omega) _ rfl ?_; intro g cap3 w3 hown3 hgrow hat hglt))
      have S3 : Aside (w3.ownsRow w.heap.size 3 1 (.slice (some ⟨g, 0, none⟩) (j + 1) cap3) (j + 1) (vals (L.take (j + 1))) ∧ Below w.heap.size w w3) :=
        ⟨by rw [HT.out]; exact hown3, by apply And.left; assumption⟩
      clear hown3 hgrow hat hglt hb2 hown SK
      go_wp2
      go_roundg (n - (j + 1))
      case measure => omega
      case rel => exact ⟨j + 1, by go_num, by omega, by omega, S3⟩
    · have hltz : ¬ (j : Int) < (n : Int) := by omega
      have e : j = n := by omega
      have hown := SK.out.1
      rw [List.take_of_length_le (by rw [HL.out.2]; omega)] at hown
      have HO : Aside (RowCap wr _ L) := own_cap hown
      have SB : Aside (Below w.heap.size w wr) := SK.out.2
      clear hown
      go_wp2
      go_ret
      exact ⟨_, rfl, HO.out, SB.out⟩
theorem refAt_ok (a a1 a2 a3 : Option Addr) (n cap c1 c2 c3 : Nat) (ds : List Dm) (f t k : List Int) (w : World) (hI : DimsIn w a ds) (hn : ds.length = n) (h1 : Ints w a1 f) (h2 : Ints w a2 t) (h3 : Ints w a3 k) (e1 : f.length = n) (e2 : t.length = n) (e3 : k.length = n) (hs : sndL ds = true) (hk : ∀ i, i < n → nth k i ≤ 9223372036854775807) :
    Calls Tryd.prog 43 #[.slice a n cap, .slice a1 n c1, .slice a2 n c2, .slice a3 n c3] w fun e w' => ∃ v, e = .returned v ∧ RowOut w' v (atL ds f t k) ∧ Below w.heap.size w w' :=
  (refAt_cap a a1 a2 a3 n cap c1 c2 c3 ds f t k w hI hn h1 h2 h3 e1 e2 e3 hs hk).mono fun e w' ⟨v, h1, h2, h3⟩ => ⟨v, h1, h2.out, h3⟩
end Go.Proofs.YtfchpcmiipnbjaaDoor.dims
