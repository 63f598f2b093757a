/-
  What the statements' walks carry: dimensions, boxes, keys and what boxes have in common, as slices of a known length; what holds of boxes that choices make.
-/
import Derived.Test.YthbjfbkjbggkbaaDiceBox
import Derived.Test.YthbjfbkjbggkbaaDiceKnown
namespace Go.Proofs.Ythbjfbkjbggkbaa.dice
open Go.ChangeShapes Go.WideShapes Go.ChangeAt Go.RowKit Go.Deep
open Go.Proofs.Ythbjfbkjbggkbaa.dims
set_option linter.unusedVariables false
set_option maxRecDepth 100000

/-- dimensions that choices make -/
def OfOut (w : World) (v : Value) (W : World) : Prop := ∃ ds g n cap, v = .slice (some ⟨g, 0, none⟩) n cap ∧ ds.length = n ∧ DimsIn W (some ⟨g, 0, none⟩) ds ∧ 1 ≤ n ∧ n ≤ 4 ∧ (∀ i, i < n → 1 ≤ (dn ds i).sz ∧ (dn ds i).sz ≤ 10000) ∧ Below w.heap.size w W

theorem of_made (a : Option Addr) (n cap : Nat) (cs : List Dm) (w : World) (hI : Pairs .u16 .u8 w a cs) (hn : cs.length = n) (hm : n ≤ 9223372036854775807) :
    Calls Try.prog 9 #[.slice a n cap] w fun e w' => ∃ v, e = .returned v ∧ OfOut w v w' := by
  refine (of_any a n cap cs w hI hn hm).mono ?_
  rintro e w1 ⟨v, rfl, ds, he, ho⟩
  have hl : ds.length = (ofL cs).length := by rw [← he]; simp
  have hb := ofL_len cs
  obtain ⟨g, cap, hv, _, hd⟩ := ho.out (by omega)
  have hs := of_sndL he
  have hd2 : ds.all sndD = true := by unfold sndL at hs; simp only [Bool.and_eq_true] at hs; exact hs.2.2
  exact ⟨v, rfl, ds, g, _, cap, hv, rfl, hd, by omega, by omega, fun i hi => let h := (sndB_iff _ _).1 (all_at hd2 hi); ⟨h.1, h.2.1⟩, ho.bel⟩

/-- a list of a known length -/
def ListOut (w : World) (n : Nat) (L : List Int) (v : Value) (W : World) : Prop := (∃ p q, v = .slice p n q ∧ Ints W p L ∧ n ≤ q) ∧ Below w.heap.size w W
def PairOut (w : World) (n : Nat) (L H : List Int) (t : Value) (W : World) : Prop := (∃ p1 q1 p2 q2, t = .tuple #[.slice p1 n q1, .slice p2 n q2] ∧ (Ints W p1 L ∧ n ≤ q1) ∧ (Ints W p2 H ∧ n ≤ q2)) ∧ Below w.heap.size w W
def MeetOut (w : World) (n : Nat) (r : Bool) (L H : List Int) (t : Value) (W : World) : Prop := (∃ p1 q1 p2 q2, t = .tuple #[.slice p1 n q1, .slice p2 n q2, .bool r] ∧ Ints W p1 L ∧ Ints W p2 H) ∧ Below w.heap.size w W

theorem row_len {W : World} {v : Value} {L : List Int} {n : Nat} (h : RowOut W v L) (hl : L.length = n) : ∃ p q, v = .slice p n q ∧ Ints W p L ∧ n ≤ q := by
  obtain ⟨a, cap, e, hI, hc⟩ := h
  subst hl
  exact ⟨a, cap, e, hI, hc⟩

theorem key_made (a ac : Option Addr) (n cap nc cc : Nat) (ds : List Dm) (ch : List Int) (w : World) (hI : DimsIn w a ds) (hn : ds.length = n) (hn4 : n ≤ 4) (hC : Nums .u16 w ac nc cc ch) (hs : ∀ i, i < n → 1 ≤ (dn ds i).sz ∧ (dn ds i).sz ≤ 10000) :
    Calls Try.prog 10 #[.slice a n cap, .slice ac nc cc] w fun e w' => ∃ v, e = .returned v ∧ ListOut w n (keyL ds ch) v w' := by
  refine (key_any a ac n cap nc cc ds ch w hI hn hn4 hC (fun i hi => (hs i hi).1)).mono ?_
  rintro e w1 ⟨v, rfl, h⟩
  exact ⟨v, rfl, row_len (own_out h.1).1 (by rw [keyL_len, hn]), h.2⟩

theorem box_out (a aa ab : Option Addr) (n cap na ca nb cb : Nat) (ds : List Dm) (ch dh : List Int) (w : World) (hI : DimsIn w a ds) (hn : ds.length = n) (hn1 : 1 ≤ n) (hn4 : n ≤ 4) (hA : Nums .u16 w aa na ca ch) (hB : Nums .u16 w ab nb cb dh) (hs : ∀ i, i < n → 1 ≤ (dn ds i).sz ∧ (dn ds i).sz ≤ 10000) :
    Calls Try.prog 11 #[.slice a n cap, .slice aa na ca, .slice ab nb cb] w fun e w' => ∃ t, e = .returned t ∧ PairOut w n (boxL ds ch dh) (boxH ds ch dh) t w' := by
  refine (box_made a aa ab n cap na ca nb cb ds ch dh w hI hn hn1 hn4 hA hB hs).mono ?_
  rintro e w1 ⟨t, rfl, ⟨v1, v2, ht, h1, h2⟩, hb⟩
  obtain ⟨p1, q1, e1, i1, m1⟩ := row_len h1 (by rw [boxL_len, hn])
  obtain ⟨p2, q2, e2, i2, m2⟩ := row_len h2 (by rw [boxH_len, hn])
  exact ⟨t, rfl, ⟨p1, q1, p2, q2, by rw [ht, e1, e2], ⟨i1, m1⟩, i2, m2⟩, hb⟩

theorem MeetRes.out {w W : World} {n : Nat} {r : Bool} {lo up fr un L H : List Int} {t : Value} (h : MeetRes w lo up fr un t W) (hr : mt lo up fr un = r) (hL : mtL lo up fr un = L) (hH : mtH lo up fr un = H) (l1 : L.length = n) (l2 : H.length = n) : MeetOut w n r L H t W := by
  obtain ⟨⟨v1, v2, ht, h1, h2⟩, hb⟩ := h
  rw [hL] at h1
  rw [hH] at h2
  obtain ⟨p1, q1, e1, i1, -⟩ := row_len h1 l1
  obtain ⟨p2, q2, e2, i2, -⟩ := row_len h2 l2
  exact ⟨⟨p1, q1, p2, q2, by rw [ht, e1, e2, hr], i1, i2⟩, hb⟩

theorem meet_out (a1 a2 a3 a4 : Option Addr) (n1 n2 n3 n4 c1 c2 c3 c4 n : Nat) (r : Bool) (lo up fr un L H : List Int) (w : World) (h1 : Ints w a1 lo) (e1 : lo.length = n1) (h2 : Ints w a2 up) (e2 : up.length = n2) (h3 : Ints w a3 fr) (e3 : fr.length = n3) (h4 : Ints w a4 un) (e4 : un.length = n4) (hm : n1 ≤ 100000)
    (hr : mt lo up fr un = r) (hL : mtL lo up fr un = L) (hH : mtH lo up fr un = H) (l1 : L.length = n) (l2 : H.length = n) :
    Calls Try.prog 12 #[.slice a1 n1 c1, .slice a2 n2 c2, .slice a3 n3 c3, .slice a4 n4 c4] w fun e w' => ∃ t, e = .returned t ∧ MeetOut w n r L H t w' := by
  refine (meet_any a1 a2 a3 a4 n1 n2 n3 n4 c1 c2 c3 c4 lo up fr un w h1 e1 h2 e2 h3 e3 h4 e4 hm).mono ?_
  rintro e w1 ⟨t, rfl, h⟩
  exact ⟨t, rfl, h.out hr hL hH l1 l2⟩

theorem mt_iff {lo up fr un : List Int} (h : up.length = lo.length ∧ fr.length = lo.length ∧ un.length = lo.length) : mt lo up fr un = true ↔ ∀ i, i < lo.length → maxI (nth lo i) (nth fr i) < minI (nth up i) (nth un i) := by
  unfold mt
  rw [decide_eq_true h, Bool.true_and, allB_iff]
  simp only [mtAt, decide_eq_true_eq]
theorem mtL_len {lo up fr un : List Int} (h : mt lo up fr un = true) : (mtL lo up fr un).length = lo.length := by unfold mtL; rw [if_pos h, mLo_len]
theorem mtH_len {lo up fr un : List Int} (h : mt lo up fr un = true) : (mtH lo up fr un).length = up.length := by unfold mtH; rw [if_pos h, mHi_len]
theorem mtL_no {lo up fr un : List Int} (h : mt lo up fr un = false) : mtL lo up fr un = [] := by unfold mtL; rw [h]; rfl
theorem mtH_no {lo up fr un : List Int} (h : mt lo up fr un = false) : mtH lo up fr un = [] := by unfold mtH; rw [h]; rfl
theorem maxI_le {a b c : Int} : maxI a b ≤ c ↔ a ≤ c ∧ b ≤ c := by unfold maxI; split <;> omega
theorem lt_minI {a b c : Int} : c < minI a b ↔ c < a ∧ c < b := by unfold minI; split <;> omega

/-- a key is in both boxes just if it is in what they have in common -/
theorem both_meet {n : Nat} {lo up fr un k : List Int} (h1 : lo.length = n) (h2 : up.length = n) (h3 : fr.length = n) (h4 : un.length = n) (h5 : k.length = n) :
    (wtn lo up k = true ∧ wtn fr un k = true) ↔ (mt lo up fr un = true ∧ wtn (mtL lo up fr un) (mtH lo up fr un) k = true) := by
  have hl : up.length = lo.length ∧ fr.length = lo.length ∧ un.length = lo.length := ⟨by omega, by omega, by omega⟩
  constructor
  · rintro ⟨ha, hb⟩
    obtain ⟨-, -, ha⟩ := wtn_iff.1 ha
    obtain ⟨-, -, hb⟩ := wtn_iff.1 hb
    have hm : mt lo up fr un = true := (mt_iff hl).2 fun i hi => by
      have p := ha i (by omega)
      have q := hb i (by omega)
      exact Int.lt_of_le_of_lt (maxI_le.2 ⟨p.1, q.1⟩) (lt_minI.2 ⟨p.2, q.2⟩)
    refine ⟨hm, ?_⟩
    unfold mtL mtH
    rw [if_pos hm, if_pos hm]
    refine wtn_iff.2 ⟨by rw [mLo_len]; omega, by rw [mHi_len]; omega, fun i hi => ?_⟩
    have p := ha i hi
    have q := hb i hi
    rw [mLo_nth _ _ (by omega), mHi_nth _ _ (by omega)]
    exact ⟨maxI_le.2 ⟨p.1, q.1⟩, lt_minI.2 ⟨p.2, q.2⟩⟩
  · rintro ⟨hm, hw⟩
    unfold mtL mtH at hw
    rw [if_pos hm, if_pos hm] at hw
    obtain ⟨-, -, hw⟩ := wtn_iff.1 hw
    have key : ∀ i, i < n → (nth lo i ≤ nth k i ∧ nth fr i ≤ nth k i) ∧ (nth k i < nth up i ∧ nth k i < nth un i) := fun i hi => by
      have p := hw i (by omega)
      rw [mLo_nth _ _ (by omega), mHi_nth _ _ (by omega)] at p
      exact ⟨maxI_le.1 p.1, lt_minI.1 p.2⟩
    exact ⟨wtn_iff.2 ⟨by omega, by omega, fun i hi => ⟨(key i (by omega)).1.1, (key i (by omega)).2.1⟩⟩, wtn_iff.2 ⟨by omega, by omega, fun i hi => ⟨(key i (by omega)).1.2, (key i (by omega)).2.2⟩⟩⟩

/-- the places of a box that choices make -/
theorem box_at {ds : List Dm} {ch dh : List Int} {n : Nat} (hn : ds.length = n) (hs : ∀ i, i < n → 1 ≤ (dn ds i).sz ∧ (dn ds i).sz ≤ 10000) {i : Nat} (hi : i < n) : 0 ≤ nth (boxL ds ch dh) i ∧ nth (boxL ds ch dh) i < nth (boxH ds ch dh) i ∧ nth (boxH ds ch dh) i ≤ (dn ds i).sz := by
  have key : ∀ c : List Int, 0 ≤ nth (keyL ds c) i ∧ nth (keyL ds c) i < (dn ds i).sz := fun c => by
    rw [keyL_nth _ _ (by omega)]
    unfold keyV
    have h1 := hs i hi
    exact ⟨Int.emod_nonneg _ (by omega), Int.emod_lt_of_pos _ (by omega)⟩
  obtain ⟨a1, a2⟩ := key ch
  obtain ⟨b1, b2⟩ := key dh
  unfold boxL boxH
  rw [bLo_nth _ _ (by rw [keyL_len]; omega), bHi_nth _ _ (by rw [keyL_len]; omega)]
  unfold minI maxI
  split <;> split <;> omega

/-- a box that is within another one: what they have in common is it -/
theorem meet_in {n : Nat} {lo up fr un : List Int} (h1 : lo.length = n) (h2 : up.length = n) (h3 : fr.length = n) (h4 : un.length = n) (h : ∀ i, i < n → nth fr i ≤ nth lo i ∧ nth lo i < nth up i ∧ nth up i ≤ nth un i) : mt lo up fr un = true ∧ mtL lo up fr un = lo ∧ mtH lo up fr un = up := by
  have hx : ∀ i, i < n → maxI (nth lo i) (nth fr i) = nth lo i ∧ minI (nth up i) (nth un i) = nth up i := fun i hi => by
    have := h i hi
    unfold maxI minI
    rw [if_neg (by omega), if_neg (by omega)]; exact ⟨rfl, rfl⟩
  have hm : mt lo up fr un = true := (mt_iff ⟨by omega, by omega, by omega⟩).2 fun i hi => by
    rw [(hx i (by omega)).1, (hx i (by omega)).2]; exact (h i (by omega)).2.1
  refine ⟨hm, ?_, ?_⟩
  · unfold mtL; rw [if_pos hm]
    exact nth_ext (mLo_len _ _) fun i hi => by rw [mLo_nth _ _ hi]; exact (hx i (by omega)).1
  · unfold mtH; rw [if_pos hm]
    exact nth_ext (mHi_len _ _) fun i hi => by rw [mHi_nth _ _ hi]; exact (hx i (by omega)).2
end Go.Proofs.Ythbjfbkjbggkbaa.dice
