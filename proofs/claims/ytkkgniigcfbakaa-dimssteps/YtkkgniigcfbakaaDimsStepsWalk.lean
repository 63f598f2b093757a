/-
  The walk of DimsSteps: of whatever choices the call answers true.
-/
import Derived.Test.YtkkgniigcfbakaaDimsAtF
import Derived.Test.YtkkgniigcfbakaaDimsComparesWalk
import Derived.Test.YtkkgniigcfbakaaDimsKey
import Derived.Test.YtkkgniigcfbakaaDimsUpWalk
namespace Go.Proofs.Ytkkgniigcfbakaa.dims
open Go.ChangeShapes Go.WideShapes Go.ChangeAt Go.RowKit Go.Deep
set_option linter.unusedVariables false

theorem raise0_in {l : List Int} (hS : ∀ i, i < l.length → StepOk l i) {n x : Int} (h0 : 0 ≤ n) (h1 : n ≤ (l.length : Int) + 1) (hx : 0 ≤ x) : 0 ≤ raiseV l 0 n x ∧ raiseV l 0 n x ≤ x := by
  rw [raise0 hS h0 h1 hx]
  split
  · exact ⟨hx, Int.le_refl _⟩
  · split
    · exact ⟨Int.le_refl _, hx⟩
    · exact quo_le hx (dv_le hS (by omega)).1

/-- by two steps, or at once -/
theorem raise_steps {l : List Int} (hS : ∀ i, i < l.length → StepOk l i) {m t v : Int} (h0 : 0 ≤ m) (hmt : m ≤ t) (ht : t ≤ (l.length : Int) + 1) (hv : 0 ≤ v) : raiseV l m t (raiseV l 0 m v) = raiseV l 0 t v := by
  have hu := (raise0_in hS h0 (by omega) hv).1
  by_cases e : m = t
  · subst e
    generalize raiseV l 0 m v = u at hu
    unfold raiseV
    rw [if_neg (by omega), if_pos rfl]
  · by_cases e2 : t = (l.length : Int) + 1
    · rw [raise0 hS (by omega) ht hv, if_neg (by omega), if_pos e2]
      generalize raiseV l 0 m v = u at hu
      unfold raiseV
      rw [if_neg (by omega), if_neg e, if_pos e2]
    · rw [raise0 hS (by omega) ht hv, if_neg (by omega), if_neg e2, raise0 hS h0 (by omega) hv]
      have hw : (if m = 0 then v else if m = (l.length : Int) + 1 then 0 else v / dv l m.toNat) = v / dv l m.toNat := by
        by_cases e3 : m = 0
        · subst e3; simp [dv]
        · rw [if_neg e3, if_neg (by omega)]
      rw [hw]
      have hd := dv_div hS (j := m.toNat) (k := t.toNat) (by omega) (by omega)
      have hq := quo_le hv hd.1
      generalize hV : v / dv l m.toNat = u at hq
      unfold raiseV
      rw [if_neg (by omega), if_neg e, if_neg e2, ← hV, Int.ediv_ediv_of_nonneg (by omega), ← hd.2.2]

theorem raise_same {l : List Int} {v : Int} (hv : 0 ≤ v) : raiseV l 0 0 v = v := by
  unfold raiseV
  rw [if_neg (by omega), if_pos rfl]

def zeros (n : Nat) : List Int := List.replicate n 0
theorem zeros_len (n : Nat) : (zeros n).length = n := by simp [zeros]
theorem zeros_nth (n i : Nat) : nth (zeros n) i = 0 := by
  by_cases h : i < n
  · simp [nth, zeros, h]
  · exact nth_out (by rw [zeros_len]; exact h)
theorem zeros_ints (W : World) (n : Nat) : Ints (W.alloc (.cells (madeCells #[.int .i64 0] n) 3)) (some ⟨W.heap.size, 0, none⟩) (zeros n) := by
  refine .inr ⟨_, _, rfl, fun i hi => ?_⟩
  rw [zeros_len] at hi
  rw [zeros_nth]
  simp [go_sem, made_get _ _ _ hi]

theorem KeyRes.out {w W : World} {L : List Int} {v : Value} (h : KeyRes w L v W) : ∃ a cap, v = .slice a L.length cap ∧ Ints W a L ∧ L.length ≤ cap := (own_out h.1).1

theorem list_eq {L M : List Int} {n : Nat} (h1 : L.length = n) (h2 : M.length = n) (h : ∀ i, i < n → nth L i = nth M i) : L = M := eq_of_nth (by omega) fun i hi => h i (by omega)

/-- what the statement comes to -/
structure Ways (ds : List Dm) (n : Nat) (mid top k : List Int) : Prop where
  snd : ∀ i, i < n → SoundD (dn ds i).sz (dn ds i).l
  m : ∀ i, i < n → 0 ≤ nth mid i ∧ nth mid i ≤ nth top i ∧ nth top i ≤ ((dn ds i).l.length : Int) + 1
  k : ∀ i, i < n → 0 ≤ nth k i ∧ nth k i ≤ 10000

theorem Ways.two {ds : List Dm} {n : Nat} {mid top k : List Int} (h : Ways ds n mid top k) (hn : ds.length = n) : atL ds mid top (atL ds (zeros n) mid k) = atL ds (zeros n) top k := by
  refine list_eq (n := n) (by rw [atL_len, hn]) (by rw [atL_len, hn]) fun i hi => ?_
  rw [atL_nth _ _ _ _ (by omega), atL_nth _ _ _ _ (by omega)]
  unfold atV
  rw [atL_nth _ _ _ _ (by omega), zeros_nth]
  unfold atV
  rw [zeros_nth]
  obtain ⟨h1, h2, h3⟩ := h.m i hi
  exact raise_steps (h.snd i hi).2.2.2 h1 h2 h3 (h.k i hi).1
theorem Ways.same {ds : List Dm} {n : Nat} {mid top k : List Int} (h : Ways ds n mid top k) (hn : ds.length = n) (hk : k.length = n) : atL ds (zeros n) (zeros n) k = k := by
  refine list_eq (n := n) (by rw [atL_len, hn]) hk fun i hi => ?_
  rw [atL_nth _ _ _ _ (by omega)]
  unfold atV
  rw [zeros_nth]
  exact raise_same (h.k i hi).1
theorem Ways.le {ds : List Dm} {n : Nat} {mid top k : List Int} (h : Ways ds n mid top k) (hn : ds.length = n) : ∀ i, i < n → nth (atL ds (zeros n) mid k) i ≤ 9223372036854775807 := fun i hi => by
  rw [atL_nth _ _ _ _ (by omega)]
  unfold atV
  rw [zeros_nth]
  obtain ⟨h1, h2, h3⟩ := h.m i hi
  have := (raise0_in (h.snd i hi).2.2.2 h1 (by omega) (h.k i hi).1).2
  have := (h.k i hi).2
  omega

theorem sndL_all {ds : List Dm} (hs : sndL ds = true) : ∀ i, i < ds.length → SoundD (dn ds i).sz (dn ds i).l := fun i hi => by
  have hd : ds.all sndD = true := by unfold sndL at hs; simp only [Bool.and_eq_true] at hs; exact hs.2.2
  exact (sndB_iff _ _).1 (all_at hd hi)

theorem lev_in {ds : List Dm} {ch lo : List Int} {i : Nat} (hi : i < ds.length) (h0 : 0 ≤ nth lo i) (h1 : nth lo i ≤ ((dn ds i).l.length : Int) + 1) : nth lo i ≤ nth (levL ds ch lo) i ∧ nth (levL ds ch lo) i ≤ ((dn ds i).l.length : Int) + 1 := by
  rw [levL_nth _ _ _ hi]
  unfold levV
  have := Int.emod_nonneg (nth ch i) (by omega : ((dn ds i).l.length : Int) + 2 - nth lo i ≠ 0)
  have := Int.emod_lt_of_pos (nth ch i) (by omega : 0 < ((dn ds i).l.length : Int) + 2 - nth lo i)
  omega
theorem key_in {ds : List Dm} {ch : List Int} {i : Nat} (hi : i < ds.length) (h1 : 1 ≤ (dn ds i).sz) : 0 ≤ nth (keyL ds ch) i ∧ nth (keyL ds ch) i < (dn ds i).sz := by
  rw [keyL_nth _ _ hi]
  unfold keyV
  exact ⟨Int.emod_nonneg _ (by omega), Int.emod_lt_of_pos _ (by omega)⟩

set_option maxHeartbeats 16000000 in
theorem steps_walk (am aa ab ak : Option Addr) (nm cm na ca nb cb nk ck : Nat) (cs : List Dm) (la lb lk : List Int) (w : World) (pM : Pairs .u16 .u8 w am cs) (pm : cs.length = nm ∧ nm ≤ cm ∧ cm ≤ maxLen) (pa : Nums .u8 w aa na ca la) (pb : Nums .u8 w ab nb cb lb) (pk : Nums .u16 w ak nk ck lk) :
    Calls Try.prog 9 #[.slice am nm cm, .slice aa na ca, .slice ab nb cb, .slice ak nk ck] w fun e w' => e = .returned (.bool true) ∧ Below w.heap.size w w' := by
  have hm2 : nm ≤ 9223372036854775807 := Nat.le_trans pm.2.1 (Nat.le_trans pm.2.2 maxLen_le)
  have CO := of_any am nm cm cs w pM pm.1 hm2
  have HA : Aside (Nums .u8 w aa na ca la) := pa
  have HB : Aside (Nums .u8 w ab nb cb lb) := pb
  have HK : Aside (Nums .u16 w ak nk ck lk) := pk
  clear pM pm pa pb pk
  go_enter Try.func9, Try.ntmps9
  go_wp2_with fail
  refine CO.mono ?_
  rintro e w1 ⟨v1, rfl, hres⟩
  obtain ⟨ds, gx, cx, rfl, hX, -, hs, hx1, hx4, hb1⟩ := hres.out
  have B1 : Aside (Below w.heap.size w w1) := hb1
  obtain ⟨ax, hax⟩ : ∃ q, some (⟨gx, 0, none⟩ : Addr) = q := ⟨_, rfl⟩
  rw [hax] at hX ⊢
  have D1 : Aside (DimsIn w1 ax ds) := hX
  have HS : Aside (sndL ds = true ∧ ∀ i, i < ds.length → SoundD (dn ds i).sz (dn ds i).l) := ⟨hs, sndL_all hs⟩
  clear hb1 hres hax hX hs CO
  obtain ⟨n, hn⟩ : ∃ q, ds.length = q := ⟨_, rfl⟩
  have HN : Aside (ds.length = n) := hn
  rw [hn] at hx1 hx4 ⊢
  clear hn
  have hmk := run_make_row' (P := Try.prog) 26 3 (.int .i64 0) 8 Try.underlying26 info_int rfl .i64 .i64 n (by omega) (by omega)
  go_wp2_with fail
  refine (lev_any ax aa none n cx na ca 0 0 ds la [] w1 D1.out HN.out hx4 (HA.out.keep B1.out) (.inl rfl) rfl (fun i hi => ?_)).mono ?_
  · have := (HS.out.2 i (by rw [HN.out]; exact hi)).2.2.1
    simp [nth]; omega
  rintro e w2 ⟨v2, rfl, hr2⟩
  obtain ⟨m1, m2, rfl, hI2, hc2⟩ := hr2.out
  have B2 : Aside (Below w.heap.size w w2) := B1.out.trans (hr2.2.mono B1.out.size)
  have D2 : Aside (DimsIn w2 ax ds) := D1.out.keep (hr2.2)
  clear B1 D1
  have IM : Aside (Ints w2 m1 (levL ds la [])) := hI2
  have EM : Aside ((levL ds la []).length = n ∧ ∀ i, i < n → 0 ≤ nth (levL ds la []) i ∧ nth (levL ds la []) i ≤ ((dn ds i).l.length : Int) + 1) := ⟨by rw [levL_len, HN.out], fun i hi => by
    have h0 : nth ([] : List Int) i = 0 := rfl
    have := lev_in (ds := ds) (ch := la) (lo := []) (i := i) (by rw [HN.out]; exact hi) (by rw [h0]; omega) (by rw [h0]; omega)
    rw [h0] at this; exact this⟩
  rw [EM.out.1]
  clear hI2 hc2 hr2
  generalize levL ds la [] = mid at IM EM
  go_wp2_with fail
  refine (lev_any ax ab m1 n cx nb cb n m2 ds lb mid w2 D2.out HN.out hx4 (HB.out.keep B2.out) IM.out EM.out.1 (fun i hi => ⟨(HS.out.2 i (by rw [HN.out]; exact hi)).2.2.1, EM.out.2 i hi⟩)).mono ?_
  rintro e w3 ⟨v3, rfl, hr3⟩
  obtain ⟨t1, t2, rfl, hI3, hc3⟩ := hr3.out
  have B3 : Aside (Below w.heap.size w w3) := B2.out.trans (hr3.2.mono B2.out.size)
  have D3 : Aside (DimsIn w3 ax ds) := D2.out.keep (hr3.2)
  have IM : Aside (Ints w3 m1 mid) := IM.out.keep (hr3.2)
  clear B2 D2
  have IT : Aside (Ints w3 t1 (levL ds lb mid)) := hI3
  have ET : Aside ((levL ds lb mid).length = n ∧ ∀ i, i < n → 0 ≤ nth mid i ∧ nth mid i ≤ nth (levL ds lb mid) i ∧ nth (levL ds lb mid) i ≤ ((dn ds i).l.length : Int) + 1) := ⟨by rw [levL_len, HN.out], fun i hi => ⟨(EM.out.2 i hi).1, lev_in (by rw [HN.out]; exact hi) (EM.out.2 i hi).1 (EM.out.2 i hi).2⟩⟩
  rw [ET.out.1]
  clear hI3 hc3 hr3
  generalize levL ds lb mid = top at IT ET
  go_wp2_with fail
  refine (key_any ax ak n cx nk ck ds lk w3 D3.out HN.out hx4 (HK.out.keep B3.out) (fun i hi => (HS.out.2 i (by rw [HN.out]; exact hi)).1)).mono ?_
  rintro e w4 ⟨v4, rfl, hr4⟩
  obtain ⟨k1, k2, rfl, hI4, hc4⟩ := hr4.out
  have B4 : Aside (Below w.heap.size w w4) := B3.out.trans (hr4.2.mono B3.out.size)
  have D4 : Aside (DimsIn w4 ax ds) := D3.out.keep (hr4.2)
  have IM : Aside (Ints w4 m1 mid) := IM.out.keep (hr4.2)
  have IT : Aside (Ints w4 t1 top) := IT.out.keep (hr4.2)
  clear B3 D3
  have IK : Aside (Ints w4 k1 (keyL ds lk)) := hI4
  have EK : Aside ((keyL ds lk).length = n ∧ Ways ds n mid top (keyL ds lk)) := ⟨by rw [keyL_len, HN.out], ⟨fun i hi => HS.out.2 i (by rw [HN.out]; exact hi), ET.out.2, fun i hi => by
    have hS := HS.out.2 i (by rw [HN.out]; exact hi)
    have := key_in (ds := ds) (ch := lk) (i := i) (by rw [HN.out]; exact hi) hS.1
    have := hS.2.1
    omega⟩⟩
  rw [EK.out.1]
  clear hI4 hc4 hr4
  generalize keyL ds lk = key at IK EK
  go_wp2_with fail
  have hbz : Below w4.heap.size w4 (w4.alloc (.cells (madeCells #[.int .i64 0] n) 3)) := (Below.refl _ _).alloc (Nat.le_refl _) _
  have IZ : Aside (Ints (w4.alloc (.cells (madeCells #[.int .i64 0] n) 3)) (some ⟨w4.heap.size, 0, none⟩) (zeros n)) := zeros_ints w4 n
  have B5 : Aside (Below w.heap.size w (w4.alloc (.cells (madeCells #[.int .i64 0] n) 3))) := B4.out.trans (hbz.mono B4.out.size)
  have D5 : Aside (DimsIn (w4.alloc (.cells (madeCells #[.int .i64 0] n) 3)) ax ds) := D4.out.keep hbz
  have IM : Aside (Ints (w4.alloc (.cells (madeCells #[.int .i64 0] n) 3)) m1 mid) := IM.out.keep hbz
  have IT : Aside (Ints (w4.alloc (.cells (madeCells #[.int .i64 0] n) 3)) t1 top) := IT.out.keep hbz
  have IK : Aside (Ints (w4.alloc (.cells (madeCells #[.int .i64 0] n) 3)) k1 key) := IK.out.keep hbz
  clear hbz B4 D4
  generalize w4.alloc (.cells (madeCells #[.int .i64 0] n) 3) = w5 at IM IT IK IZ B5 D5 ⊢
  generalize (some ⟨w4.heap.size, 0, none⟩ : Option Addr) = z1 at IZ ⊢
  have EW := EK.out.2
  have HLE : Aside (∀ i, i < n → nth key i ≤ 9223372036854775807) := fun i hi => by have := (EK.out.2.k i hi).2; omega
  have EWA : Aside _ := EW
  clear EW
  refine (at_ok ax z1 m1 k1 n cx n m2 k2 ds (zeros n) mid key w5 D5.out HN.out IZ.out IM.out IK.out (zeros_len n) EM.out.1 EK.out.1 HS.out.1 HLE.out).mono ?_
  rintro e w6 ⟨v6, rfl, hr6, hb6⟩
  obtain ⟨x1, x2, rfl, hI6, hc6⟩ := hr6
  have B6 : Aside (Below w.heap.size w w6) := B5.out.trans (hb6.mono B5.out.size)
  have D6 : Aside (DimsIn w6 ax ds) := D5.out.keep (hb6)
  have IM : Aside (Ints w6 m1 mid) := IM.out.keep (hb6)
  have IT : Aside (Ints w6 t1 top) := IT.out.keep (hb6)
  have IK : Aside (Ints w6 k1 key) := IK.out.keep (hb6)
  have IZ : Aside (Ints w6 z1 (zeros n)) := IZ.out.keep (hb6)
  clear B5 D5
  have IX : Aside (Ints w6 x1 (atL ds (zeros n) mid key)) := hI6
  have EX : Aside ((atL ds (zeros n) mid key).length = n ∧ (∀ i, i < n → nth (atL ds (zeros n) mid key) i ≤ 9223372036854775807) ∧ atL ds mid top (atL ds (zeros n) mid key) = atL ds (zeros n) top key ∧ atL ds (zeros n) (zeros n) key = key) := ⟨by rw [atL_len, HN.out], EWA.out.le HN.out, EWA.out.two HN.out, EWA.out.same HN.out EK.out.1⟩
  rw [EX.out.1]
  clear hI6 hc6 hb6
  generalize atL ds (zeros n) mid key = xx at IX EX
  go_wp2_with fail
  refine (known_any _).mono ?_
  rintro e w7 ⟨rfl, hb7⟩
  have B7 : Aside (Below w.heap.size w w7) := B6.out.trans (hb7.mono B6.out.size)
  have D7 : Aside (DimsIn w7 ax ds) := D6.out.keep (hb7)
  have IM : Aside (Ints w7 m1 mid) := IM.out.keep (hb7)
  have IT : Aside (Ints w7 t1 top) := IT.out.keep (hb7)
  have IK : Aside (Ints w7 k1 key) := IK.out.keep (hb7)
  have IZ : Aside (Ints w7 z1 (zeros n)) := IZ.out.keep (hb7)
  have IX : Aside (Ints w7 x1 xx) := IX.out.keep (hb7)
  clear B6 D6
  clear hb7
  go_wp2_with fail
  refine (at_ok ax m1 t1 x1 n cx m2 t2 x2 ds mid top xx w7 D7.out HN.out IM.out IT.out IX.out EM.out.1 ET.out.1 EX.out.1 HS.out.1 EX.out.2.1).mono ?_
  rintro e w8 ⟨v8, rfl, hr8, hb8⟩
  rw [EX.out.2.2.1] at hr8
  obtain ⟨p1, p2, rfl, hI8, hc8⟩ := hr8
  have B8 : Aside (Below w.heap.size w w8) := B7.out.trans (hb8.mono B7.out.size)
  have D8 : Aside (DimsIn w8 ax ds) := D7.out.keep (hb8)
  have IM : Aside (Ints w8 m1 mid) := IM.out.keep (hb8)
  have IT : Aside (Ints w8 t1 top) := IT.out.keep (hb8)
  have IK : Aside (Ints w8 k1 key) := IK.out.keep (hb8)
  have IZ : Aside (Ints w8 z1 (zeros n)) := IZ.out.keep (hb8)
  have IX : Aside (Ints w8 x1 xx) := IX.out.keep (hb8)
  clear B7 D7
  have IP : Aside (Ints w8 p1 (atL ds (zeros n) top key)) := hI8
  have EP : Aside ((atL ds (zeros n) top key).length = n) := by show _ = _; rw [atL_len, HN.out]
  rw [EP.out]
  clear hI8 hc8 hb8
  go_wp2_with fail
  refine (at_ok ax z1 t1 k1 n cx n t2 k2 ds (zeros n) top key w8 D8.out HN.out IZ.out IT.out IK.out (zeros_len n) ET.out.1 EK.out.1 HS.out.1 HLE.out).mono ?_
  rintro e w9 ⟨v9, rfl, hr9, hb9⟩
  obtain ⟨o1, o2, rfl, hI9, hc9⟩ := hr9
  have B9 : Aside (Below w.heap.size w w9) := B8.out.trans (hb9.mono B8.out.size)
  have D9 : Aside (DimsIn w9 ax ds) := D8.out.keep (hb9)
  have IM : Aside (Ints w9 m1 mid) := IM.out.keep (hb9)
  have IT : Aside (Ints w9 t1 top) := IT.out.keep (hb9)
  have IK : Aside (Ints w9 k1 key) := IK.out.keep (hb9)
  have IZ : Aside (Ints w9 z1 (zeros n)) := IZ.out.keep (hb9)
  have IX : Aside (Ints w9 x1 xx) := IX.out.keep (hb9)
  have IP : Aside (Ints w9 p1 (atL ds (zeros n) top key)) := IP.out.keep (hb9)
  clear B8 D8
  have IQ : Aside (Ints w9 o1 (atL ds (zeros n) top key)) := hI9
  rw [EP.out]
  clear hI9 hc9 hb9
  generalize atL ds (zeros n) top key = LL at IP IQ EP
  go_wp2_with fail
  refine (same_refl p1 o1 n p2 o2 LL w9 IP.out IQ.out EP.out (by omega)).mono ?_
  rintro e w10 ⟨rfl, hb10⟩
  have B10 : Aside (Below w.heap.size w w10) := B9.out.trans (hb10.mono B9.out.size)
  have D10 : Aside (DimsIn w10 ax ds) := D9.out.keep (hb10)
  have IM : Aside (Ints w10 m1 mid) := IM.out.keep (hb10)
  have IT : Aside (Ints w10 t1 top) := IT.out.keep (hb10)
  have IK : Aside (Ints w10 k1 key) := IK.out.keep (hb10)
  have IZ : Aside (Ints w10 z1 (zeros n)) := IZ.out.keep (hb10)
  clear B9 D9
  clear hb10 IP IQ EP
  go_wp2_with fail
  refine (at_ok ax z1 z1 k1 n cx n n k2 ds (zeros n) (zeros n) key w10 D10.out HN.out IZ.out IZ.out IK.out (zeros_len n) (zeros_len n) EK.out.1 HS.out.1 HLE.out).mono ?_
  rintro e w11 ⟨v11, rfl, hr11, hb11⟩
  rw [EX.out.2.2.2] at hr11
  obtain ⟨s1, s2, rfl, hI11, hc11⟩ := hr11
  have B11 : Aside (Below w.heap.size w w11) := B10.out.trans (hb11.mono B10.out.size)
  have D11 : Aside (DimsIn w11 ax ds) := D10.out.keep (hb11)
  have IM : Aside (Ints w11 m1 mid) := IM.out.keep (hb11)
  have IT : Aside (Ints w11 t1 top) := IT.out.keep (hb11)
  have IK : Aside (Ints w11 k1 key) := IK.out.keep (hb11)
  have IZ : Aside (Ints w11 z1 (zeros n)) := IZ.out.keep (hb11)
  clear B10 D10
  have IS : Aside (Ints w11 s1 key) := hI11
  rw [EK.out.1]
  clear hI11 hc11 hb11
  go_wp2_with fail
  refine (same_refl s1 k1 n s2 k2 key w11 IS.out IK.out EK.out.1 (by omega)).mono ?_
  rintro e w12 ⟨rfl, hb12⟩
  have B12 : Aside (Below w.heap.size w w12) := B11.out.trans (hb12.mono B11.out.size)
  clear hb12
  go_wp2
  go_ret
  exact ⟨rfl, B12.out⟩
end Go.Proofs.Ytkkgniigcfbakaa.dims
