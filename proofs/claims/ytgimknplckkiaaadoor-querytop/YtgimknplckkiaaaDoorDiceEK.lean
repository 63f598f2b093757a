/-
  The chapter's example holds: the contract of the statements' own 'known'.
  What the statements' walks carry: dimensions, boxes, keys and what boxes have in common, as slices of a known length; what holds of boxes that choices make.
  Tables that the statements' walks carry; rows that a list of keys makes.
  A box that is cut in two by one place: each key of it is in one part, and in no more.
-/
import Derived.Test.YtgimknplckkiaaaDoorDiceDK
import Derived.Test.YtgimknplckkiaaaDoorDiceBK
import Derived.Test.YtgimknplckkiaaaDoorDimsK
import Derived.Test.YtgimknplckkiaaaDoorTableCK
namespace Go.Proofs.YtgimknplckkiaaaDoor.dice
open Go.ChangeShapes Go.WideShapes Go.ChangeAt Go.RowKit Go.Deep
open Go.Proofs.YtgimknplckkiaaaDoor.dims
set_option linter.unusedVariables false
set_option maxRecDepth 100000

theorem ints1 {W : World} {b : Nat} {x : Int} (h : W.cell? ⟨b, 0, none⟩ = some (.int .i64 x)) : Ints W (some ⟨b, 0, none⟩) [x] := by
  refine .inr ⟨_, _, rfl, fun i hi => ?_⟩
  match i, hi with
  | 0, _ => simpa [nth] using h
theorem ints2 {W : World} {b : Nat} {x y : Int} (h : W.cell? ⟨b, 0, none⟩ = some (.int .i64 x)) (h2 : W.cell? ⟨b, 1, none⟩ = some (.int .i64 y)) : Ints W (some ⟨b, 0, none⟩) [x, y] := by
  refine .inr ⟨_, _, rfl, fun i hi => ?_⟩
  match i, hi with
  | 0, _ => simpa [nth] using h
  | 1, _ => simpa [nth] using h2
theorem dims1 {W : World} {b : Nat} {x : Int} (h : W.cell? ⟨b, 0, none⟩ = some (.int .i64 x)) (h2 : W.cell? ⟨b, 1, none⟩ = some (.slice none 0 0)) : DimsIn W (some ⟨b, 0, none⟩) [⟨x, none, 0, []⟩] := by
  refine .inr ⟨_, _, rfl, fun i hi => ?_⟩
  match i, hi with
  | 0, _ => exact ⟨by simpa [dn] using h, by simpa [dn] using h2, .inl rfl, by simp [dn]⟩

end Go.Proofs.YtgimknplckkiaaaDoor.dice

namespace Go.Proofs.YtgimknplckkiaaaDoor.dice
open Go.ChangeShapes Go.WideShapes Go.ChangeAt Go.RowKit Go.Deep
open Go.Proofs.YtgimknplckkiaaaDoor.dims
set_option linter.unusedVariables false
set_option maxRecDepth 100000

/-- dimensions that choices make -/
def OfOut (w : World) (v : Value) (W : World) : Prop := ∃ ds g n cap, v = .slice (some ⟨g, 0, none⟩) n cap ∧ ds.length = n ∧ DimsIn W (some ⟨g, 0, none⟩) ds ∧ 1 ≤ n ∧ n ≤ 4 ∧ (∀ i, i < n → 1 ≤ (dn ds i).sz ∧ (dn ds i).sz ≤ 10000) ∧ Below w.heap.size w W

theorem of_made (a : Option Addr) (n cap : Nat) (cs : List Dm) (w : World) (hI : Pairs .u16 .u8 w a cs) (hn : cs.length = n) (hm : n ≤ 9223372036854775807) :
    Calls Tryd.prog 18 #[.slice a n cap] w fun e w' => ∃ v, e = .returned v ∧ OfOut w v w' := by
  refine (of_any a n cap cs w hI hn hm).mono ?_
  rintro e w1 ⟨v, rfl, ds, he, ho⟩
  have hl : ds.length = (ofL cs).length := by rw [← he]; simp
  have hb := ofL_len cs
  obtain ⟨g, cap, hv, _, hd⟩ := ho.out (by omega)
  have hs := of_sndL he
  have hd2 : ds.all sndD = true := by unfold sndL at hs; simp only [Bool.and_eq_true] at hs; exact hs.2.2
  exact ⟨v, rfl, ds, g, _, cap, hv, rfl, hd, by omega, by omega, fun i hi => let h := (sndB_iff _ _).1 (all_at hd2 hi); ⟨h.1, h.2.1⟩, ho.bel⟩

/-- a list of a known length -/
def ListOut (w : World) (n : Nat) (L : List Int) (v : Value) (W : World) : Prop := (∃ p q, v = .slice p n q ∧ Ints W p L ∧ n ≤ q) ∧ Below w.heap.size w W
def PairOut (w : World) (n : Nat) (L H : List Int) (t : Value) (W : World) : Prop := (∃ p1 q1 p2 q2, t = .tuple #[.slice p1 n q1, .slice p2 n q2] ∧ (Ints W p1 L ∧ n ≤ q1) ∧ (Ints W p2 H ∧ n ≤ q2)) ∧ Below w.heap.size w W
def MeetOut (w : World) (n : Nat) (r : Bool) (L H : List Int) (t : Value) (W : World) : Prop := (∃ p1 q1 p2 q2, t = .tuple #[.slice p1 n q1, .slice p2 n q2, .bool r] ∧ Ints W p1 L ∧ Ints W p2 H) ∧ Below w.heap.size w W

theorem row_len {W : World} {v : Value} {L : List Int} {n : Nat} (h : RowOut W v L) (hl : L.length = n) : ∃ p q, v = .slice p n q ∧ Ints W p L ∧ n ≤ q := by
  obtain ⟨a, cap, e, hI, hc⟩ := h
  subst hl
  exact ⟨a, cap, e, hI, hc⟩

theorem key_made (a ac : Option Addr) (n cap nc cc : Nat) (ds : List Dm) (ch : List Int) (w : World) (hI : DimsIn w a ds) (hn : ds.length = n) (hn4 : n ≤ 4) (hC : Nums .u16 w ac nc cc ch) (hs : ∀ i, i < n → 1 ≤ (dn ds i).sz ∧ (dn ds i).sz ≤ 10000) :
    Calls Tryd.prog 41 #[.slice a n cap, .slice ac nc cc] w fun e w' => ∃ v, e = .returned v ∧ ListOut w n (keyL ds ch) v w' := by
  refine (key_any a ac n cap nc cc ds ch w hI hn hn4 hC (fun i hi => (hs i hi).1)).mono ?_
  rintro e w1 ⟨v, rfl, h⟩
  exact ⟨v, rfl, row_len (own_out h.1).1 (by rw [keyL_len, hn]), h.2⟩

theorem box_out (a aa ab : Option Addr) (n cap na ca nb cb : Nat) (ds : List Dm) (ch dh : List Int) (w : World) (hI : DimsIn w a ds) (hn : ds.length = n) (hn1 : 1 ≤ n) (hn4 : n ≤ 4) (hA : Nums .u16 w aa na ca ch) (hB : Nums .u16 w ab nb cb dh) (hs : ∀ i, i < n → 1 ≤ (dn ds i).sz ∧ (dn ds i).sz ≤ 10000) :
    Calls Tryd.prog 42 #[.slice a n cap, .slice aa na ca, .slice ab nb cb] w fun e w' => ∃ t, e = .returned t ∧ PairOut w n (boxL ds ch dh) (boxH ds ch dh) t w' := by
  refine (box_made a aa ab n cap na ca nb cb ds ch dh w hI hn hn1 hn4 hA hB hs).mono ?_
  rintro e w1 ⟨t, rfl, ⟨v1, v2, ht, h1, h2⟩, hb⟩
  obtain ⟨p1, q1, e1, i1, m1⟩ := row_len h1 (by rw [boxL_len, hn])
  obtain ⟨p2, q2, e2, i2, m2⟩ := row_len h2 (by rw [boxH_len, hn])
  exact ⟨t, rfl, ⟨p1, q1, p2, q2, by rw [ht, e1, e2], ⟨i1, m1⟩, i2, m2⟩, hb⟩

theorem MeetRes.out {w W : World} {n : Nat} {r : Bool} {lo up fr un L H : List Int} {t : Value} (h : MeetRes w lo up fr un t W) (hr : mt lo up fr un = r) (hL : mtL lo up fr un = L) (hH : mtH lo up fr un = H) (l1 : L.length = n) (l2 : H.length = n) : MeetOut w n r L H t W := by
  obtain ⟨⟨v1, v2, ht, h1, h2⟩, hb⟩ := h
  rw [hL] at h1
  rw [hH] at h2
  obtain ⟨p1, q1, e1, i1, -⟩ := row_len h1 l1
  obtain ⟨p2, q2, e2, i2, -⟩ := row_len h2 l2
  exact ⟨⟨p1, q1, p2, q2, by rw [ht, e1, e2, hr], i1, i2⟩, hb⟩

theorem mt_iff {lo up fr un : List Int} (h : up.length = lo.length ∧ fr.length = lo.length ∧ un.length = lo.length) : mt lo up fr un = true ↔ ∀ i, i < lo.length → maxI (nth lo i) (nth fr i) < minI (nth up i) (nth un i) := by
  unfold mt
  rw [decide_eq_true h, Bool.true_and, allB_iff]
  simp only [mtAt, decide_eq_true_eq]
theorem mtL_len {lo up fr un : List Int} (h : mt lo up fr un = true) : (mtL lo up fr un).length = lo.length := by unfold mtL; rw [if_pos h, mLo_len]
theorem mtH_len {lo up fr un : List Int} (h : mt lo up fr un = true) : (mtH lo up fr un).length = up.length := by unfold mtH; rw [if_pos h, mHi_len]
theorem mtL_no {lo up fr un : List Int} (h : mt lo up fr un = false) : mtL lo up fr un = [] := by unfold mtL; rw [h]; rfl
theorem mtH_no {lo up fr un : List Int} (h : mt lo up fr un = false) : mtH lo up fr un = [] := by unfold mtH; rw [h]; rfl
theorem maxI_le {a b c : Int} : maxI a b ≤ c ↔ a ≤ c ∧ b ≤ c := by unfold maxI; split <;> omega
theorem lt_minI {a b c : Int} : c < minI a b ↔ c < a ∧ c < b := by unfold minI; split <;> omega

/-- a key is in both boxes just if it is in what they have in common -/
theorem both_meet {n : Nat} {lo up fr un k : List Int} (h1 : lo.length = n) (h2 : up.length = n) (h3 : fr.length = n) (h4 : un.length = n) (h5 : k.length = n) :
    (wtn lo up k = true ∧ wtn fr un k = true) ↔ (mt lo up fr un = true ∧ wtn (mtL lo up fr un) (mtH lo up fr un) k = true) := by
  have hl : up.length = lo.length ∧ fr.length = lo.length ∧ un.length = lo.length := ⟨by omega, by omega, by omega⟩
  constructor
  · rintro ⟨ha, hb⟩
    obtain ⟨-, -, ha⟩ := wtn_iff.1 ha
    obtain ⟨-, -, hb⟩ := wtn_iff.1 hb
    have hm : mt lo up fr un = true := (mt_iff hl).2 fun i hi => by
      have p := ha i (by omega)
      have q := hb i (by omega)
      exact Int.lt_of_le_of_lt (maxI_le.2 ⟨p.1, q.1⟩) (lt_minI.2 ⟨p.2, q.2⟩)
    refine ⟨hm, ?_⟩
    unfold mtL mtH
    rw [if_pos hm, if_pos hm]
    refine wtn_iff.2 ⟨by rw [mLo_len]; omega, by rw [mHi_len]; omega, fun i hi => ?_⟩
    have p := ha i hi
    have q := hb i hi
    rw [mLo_nth _ _ (by omega), mHi_nth _ _ (by omega)]
    exact ⟨maxI_le.2 ⟨p.1, q.1⟩, lt_minI.2 ⟨p.2, q.2⟩⟩
  · rintro ⟨hm, hw⟩
    unfold mtL mtH at hw
    rw [if_pos hm, if_pos hm] at hw
    obtain ⟨-, -, hw⟩ := wtn_iff.1 hw
    have key : ∀ i, i < n → (nth lo i ≤ nth k i ∧ nth fr i ≤ nth k i) ∧ (nth k i < nth up i ∧ nth k i < nth un i) := fun i hi => by
      have p := hw i (by omega)
      rw [mLo_nth _ _ (by omega), mHi_nth _ _ (by omega)] at p
      exact ⟨maxI_le.1 p.1, lt_minI.1 p.2⟩
    exact ⟨wtn_iff.2 ⟨by omega, by omega, fun i hi => ⟨(key i (by omega)).1.1, (key i (by omega)).2.1⟩⟩, wtn_iff.2 ⟨by omega, by omega, fun i hi => ⟨(key i (by omega)).1.2, (key i (by omega)).2.2⟩⟩⟩

/-- the places of a box that choices make -/
theorem box_at {ds : List Dm} {ch dh : List Int} {n : Nat} (hn : ds.length = n) (hs : ∀ i, i < n → 1 ≤ (dn ds i).sz ∧ (dn ds i).sz ≤ 10000) {i : Nat} (hi : i < n) : 0 ≤ nth (boxL ds ch dh) i ∧ nth (boxL ds ch dh) i < nth (boxH ds ch dh) i ∧ nth (boxH ds ch dh) i ≤ (dn ds i).sz := by
  have key : ∀ c : List Int, 0 ≤ nth (keyL ds c) i ∧ nth (keyL ds c) i < (dn ds i).sz := fun c => by
    rw [keyL_nth _ _ (by omega)]
    unfold keyV
    have h1 := hs i hi
    exact ⟨Int.emod_nonneg _ (by omega), Int.emod_lt_of_pos _ (by omega)⟩
  obtain ⟨a1, a2⟩ := key ch
  obtain ⟨b1, b2⟩ := key dh
  unfold boxL boxH
  rw [bLo_nth _ _ (by rw [keyL_len]; omega), bHi_nth _ _ (by rw [keyL_len]; omega)]
  unfold minI maxI
  split <;> split <;> omega

/-- a box that is within another one: what they have in common is it -/
theorem meet_in {n : Nat} {lo up fr un : List Int} (h1 : lo.length = n) (h2 : up.length = n) (h3 : fr.length = n) (h4 : un.length = n) (h : ∀ i, i < n → nth fr i ≤ nth lo i ∧ nth lo i < nth up i ∧ nth up i ≤ nth un i) : mt lo up fr un = true ∧ mtL lo up fr un = lo ∧ mtH lo up fr un = up := by
  have hx : ∀ i, i < n → maxI (nth lo i) (nth fr i) = nth lo i ∧ minI (nth up i) (nth un i) = nth up i := fun i hi => by
    have := h i hi
    unfold maxI minI
    rw [if_neg (by omega), if_neg (by omega)]; exact ⟨rfl, rfl⟩
  have hm : mt lo up fr un = true := (mt_iff ⟨by omega, by omega, by omega⟩).2 fun i hi => by
    rw [(hx i (by omega)).1, (hx i (by omega)).2]; exact (h i (by omega)).2.1
  refine ⟨hm, ?_, ?_⟩
  · unfold mtL; rw [if_pos hm]
    exact nth_ext (mLo_len _ _) fun i hi => by rw [mLo_nth _ _ hi]; exact (hx i (by omega)).1
  · unfold mtH; rw [if_pos hm]
    exact nth_ext (mHi_len _ _) fun i hi => by rw [mHi_nth _ _ hi]; exact (hx i (by omega)).2
end Go.Proofs.YtgimknplckkiaaaDoor.dice

namespace Go.Proofs.YtgimknplckkiaaaDoor.dice
open Go.ChangeShapes Go.WideShapes Go.ChangeAt Go.RowKit Go.Deep
open Go.Proofs.YtgimknplckkiaaaDoor.dims
open Go.Proofs.YtgimknplckkiaaaDoor.table (Rw rwn plain PRow rowCells KeyOk TabOut flatR flatR_len flatR_snoc flatR_one rowCells_one info_row own_rows rwn_mem rwn_eq wpList_append_zero refSame_any)
open Go.Proofs.YtgimknplckkiaaaDoor.cell (C4 In64)
set_option linter.unusedVariables false
set_option maxRecDepth 100000

/-- a table that came out of a call, with its rows -/
def TabRes (w : World) (n : Nat) (v : Value) (t : List PRow) (W : World) : Prop := (∃ a cap rs, v = .slice a n cap ∧ table.RowsIn W a rs ∧ rs.map plain = t ∧ rs.length = n) ∧ Below w.heap.size w W
theorem tab_res {w W : World} {v : Value} {t : List PRow} {n : Nat} (h : TabOut W v t) (hn : t.length = n) (hb : Below w.heap.size w W) : TabRes w n v t W := by
  obtain ⟨a, cap, rs, e, hR, hp, -, -⟩ := h
  have hl : rs.length = n := by rw [← hn, ← hp]; simp
  exact ⟨⟨a, cap, rs, by rw [e, hl], hR, hp, hl⟩, hb⟩
theorem cut_len (p : List Int → Bool) (rs : List Rw) : (cutR p rs).length ≤ rs.length := by simp [cutR]; exact List.length_filter_le _ _

theorem cut_out (a a1 a2 : Option Addr) (n cap n1 n2 c1 c2 m : Nat) (rs : List Rw) (lo up : List Int) (w : World) (hR : table.RowsIn w a rs) (hn : rs.length = n) (hn2 : n ≤ 100000) (hk : ∀ r ∈ rs, r.k.length ≤ 100000) (h1 : Ints w a1 lo) (e1 : lo.length = n1) (h2 : Ints w a2 up) (e2 : up.length = n2) (hm : (cutR (wtn lo up) rs).length = m) :
    Calls Tryd.prog 27 #[.slice a n cap, .slice a1 n1 c1, .slice a2 n2 c2] w fun e w' => ∃ v, e = .returned v ∧ TabRes w m v (cutR (wtn lo up) rs) w' := by
  refine (cut_any a a1 a2 n cap n1 n2 c1 c2 rs lo up w hR hn hn2 hk h1 e1 h2 e2).mono ?_
  rintro e w1 ⟨v, rfl, h, hb⟩
  exact ⟨v, rfl, tab_res h hm hb⟩
theorem refCut_out (a a1 a2 : Option Addr) (n cap n1 n2 c1 c2 m : Nat) (rs : List Rw) (lo up : List Int) (w : World) (hR : table.RowsIn w a rs) (hn : rs.length = n) (hn2 : n ≤ 100000) (hk : ∀ r ∈ rs, r.k.length ≤ 100000) (h1 : Ints w a1 lo) (e1 : lo.length = n1) (h2 : Ints w a2 up) (e2 : up.length = n2) (h9 : n1 ≤ 9223372036854775807) (hm : (cutR (wtn lo up) rs).length = m) :
    Calls Tryd.prog 30 #[.slice a n cap, .slice a1 n1 c1, .slice a2 n2 c2] w fun e w' => ∃ v, e = .returned v ∧ TabRes w m v (cutR (wtn lo up) rs) w' := by
  refine (refCut_any a a1 a2 n cap n1 n2 c1 c2 rs lo up w hR hn hn2 hk h1 e1 h2 e2 h9).mono ?_
  rintro e w1 ⟨v, rfl, h, hb⟩
  exact ⟨v, rfl, tab_res h hm hb⟩

/-- rows that a list of keys makes -/
def mkRow (ck : Nat → List Int) (cc : Nat → C4) (n : Nat) : List Rw := (List.range n).map fun i => ⟨none, 0, ck i, cc i⟩
theorem mkRow_len (ck : Nat → List Int) (cc : Nat → C4) (n : Nat) : (mkRow ck cc n).length = n := by simp [mkRow]
theorem mkRow_nth (ck : Nat → List Int) (cc : Nat → C4) {n i : Nat} (hi : i < n) : rwn (mkRow ck cc n) i = ⟨none, 0, ck i, cc i⟩ := by simp [mkRow, rwn, hi]
theorem cutR_all (rs : List Rw) : cutR (fun _ => true) rs = rs.map plain := by
  unfold cutR
  rw [List.filter_eq_self.2 (by simp)]
theorem In64_u8 {x : Int} (h : 0 ≤ x ∧ x ≤ 255) : In64 x := by unfold In64; omega

theorem rows_light {rs qs : List Rw} {m : Nat} (h : rs.map plain = qs.map plain) (hq : ∀ i, i < qs.length → (rwn qs i).k.length ≤ m) : ∀ r ∈ rs, r.k.length ≤ m := by
  intro r hr
  have h1 : plain r ∈ qs.map plain := by rw [← h]; exact List.mem_map_of_mem hr
  obtain ⟨q, hq2, he⟩ := List.mem_map.1 h1
  obtain ⟨i, hi, rfl⟩ := List.mem_iff_getElem.1 hq2
  have := hq i hi
  rw [rwn_eq hi] at this
  have e : qs[i].k = r.k := congrArg Prod.fst he
  rw [← e]; exact this
end Go.Proofs.YtgimknplckkiaaaDoor.dice

namespace Go.Proofs.YtgimknplckkiaaaDoor.dice
open Go.ChangeShapes Go.WideShapes Go.ChangeAt Go.RowKit Go.Deep
open Go.Proofs.YtgimknplckkiaaaDoor.dims
open Go.Proofs.YtgimknplckkiaaaDoor.table (Rw rwn plain PRow)
set_option linter.unusedVariables false
set_option maxRecDepth 100000

theorem nth_cons_zero (x : Int) (l : List Int) : nth (x :: l) 0 = x := rfl
theorem nth_cons_drop (x : Int) (l : List Int) {i : Nat} (hi : 0 < i) : nth (x :: l.drop 1) i = nth l i := by
  obtain ⟨j, rfl⟩ : ∃ j, i = j + 1 := ⟨i - 1, by omega⟩
  simp [nth]
theorem cut_places {n : Nat} {lo up x : List Int} {K : Int} (h1 : lo.length = n) (h2 : up.length = n) (hn : 1 ≤ n) (hK1 : nth lo 0 ≤ K) (hK2 : K ≤ nth up 0) :
    (wtn lo (K :: up.drop 1) x = false ∧ wtn (K :: lo.drop 1) up x = false ∧ wtn lo up x = false) ∨ (wtn lo (K :: up.drop 1) x = true ∧ wtn (K :: lo.drop 1) up x = false ∧ wtn lo up x = true) ∨ (wtn lo (K :: up.drop 1) x = false ∧ wtn (K :: lo.drop 1) up x = true ∧ wtn lo up x = true) := by
  have l1 : (K :: up.drop 1).length = n := by simp; omega
  have l2 : (K :: lo.drop 1).length = n := by simp; omega
  have key : ∀ b : Bool, ¬ b = true → b = false := fun b h => by cases b <;> simp_all
  by_cases hx : x.length = n
  · have a1 : wtn lo (K :: up.drop 1) x = true ↔ (nth x 0 < K ∧ ∀ i, i < n → nth lo i ≤ nth x i ∧ (0 < i → nth x i < nth up i)) := by
      rw [wtn_iff]
      constructor
      · rintro ⟨_, _, h⟩
        refine ⟨by have := (h 0 (by omega)).2; rwa [nth_cons_zero] at this, fun i hi => ⟨(h i (by omega)).1, fun h0 => ?_⟩⟩
        have := (h i (by omega)).2
        rwa [nth_cons_drop _ _ h0] at this
      · rintro ⟨h0, h⟩
        refine ⟨by omega, by omega, fun i hi => ⟨(h i (by omega)).1, ?_⟩⟩
        by_cases e : i = 0
        · subst e; rw [nth_cons_zero]; exact h0
        · rw [nth_cons_drop _ _ (by omega)]; exact (h i (by omega)).2 (by omega)
    have a2 : wtn (K :: lo.drop 1) up x = true ↔ (K ≤ nth x 0 ∧ ∀ i, i < n → nth x i < nth up i ∧ (0 < i → nth lo i ≤ nth x i)) := by
      rw [wtn_iff]
      constructor
      · rintro ⟨_, _, h⟩
        refine ⟨by have := (h 0 (by omega)).1; rwa [nth_cons_zero] at this, fun i hi => ⟨(h i (by omega)).2, fun h0 => ?_⟩⟩
        have := (h i (by omega)).1
        rwa [nth_cons_drop _ _ h0] at this
      · rintro ⟨h0, h⟩
        refine ⟨by omega, by omega, fun i hi => ⟨?_, (h i (by omega)).1⟩⟩
        by_cases e : i = 0
        · subst e; rw [nth_cons_zero]; exact h0
        · rw [nth_cons_drop _ _ (by omega)]; exact (h i (by omega)).2 (by omega)
    have a3 : wtn lo up x = true ↔ ∀ i, i < n → nth lo i ≤ nth x i ∧ nth x i < nth up i := by
      rw [wtn_iff]
      exact ⟨fun h i hi => h.2.2 i (by omega), fun h => ⟨by omega, by omega, fun i hi => h i (by omega)⟩⟩
    by_cases hs : nth x 0 < K
    · have f2 : wtn (K :: lo.drop 1) up x = false := key _ fun h => by have := (a2.1 h).1; omega
      by_cases h : wtn lo up x = true
      · have h3 := a3.1 h
        exact .inr (.inl ⟨a1.2 ⟨hs, fun i hi => ⟨(h3 i hi).1, fun _ => (h3 i hi).2⟩⟩, f2, h⟩)
      · refine .inl ⟨key _ fun h1 => h (a3.2 fun i hi => ?_), f2, key _ h⟩
        obtain ⟨p0, p⟩ := a1.1 h1
        refine ⟨(p i hi).1, ?_⟩
        by_cases e : i = 0
        · subst e; omega
        · exact (p i hi).2 (by omega)
    · have f1 : wtn lo (K :: up.drop 1) x = false := key _ fun h => hs (a1.1 h).1
      by_cases h : wtn lo up x = true
      · have h3 := a3.1 h
        exact .inr (.inr ⟨f1, a2.2 ⟨by omega, fun i hi => ⟨(h3 i hi).2, fun _ => (h3 i hi).1⟩⟩, h⟩)
      · refine .inl ⟨f1, key _ fun h1 => h (a3.2 fun i hi => ?_), key _ h⟩
        obtain ⟨p0, p⟩ := a2.1 h1
        refine ⟨?_, (p i hi).1⟩
        by_cases e : i = 0
        · subst e; omega
        · exact (p i hi).2 (by omega)
  · exact .inl ⟨wtn_len (by omega), wtn_len (by omega), wtn_len (by omega)⟩

theorem cut_parts {n : Nat} {lo up : List Int} {K : Int} (h1 : lo.length = n) (h2 : up.length = n) (hn : 1 ≤ n) (hK1 : nth lo 0 ≤ K) (hK2 : K ≤ nth up 0) (rs : List Rw) :
    (cutR (wtn lo (K :: up.drop 1)) rs).length + (cutR (wtn (K :: lo.drop 1) up) rs).length = (cutR (wtn lo up) rs).length := by
  unfold cutR
  simp only [List.length_map]
  induction rs with
  | nil => rfl
  | cons r l ih =>
    rcases cut_places (x := r.k) h1 h2 hn hK1 hK2 with ⟨a, b, c⟩ | ⟨a, b, c⟩ | ⟨a, b, c⟩
    · simp only [List.filter_cons, a, b, c, Bool.false_eq_true, if_false]; exact ih
    · simp only [List.filter_cons, a, b, c, if_true, Bool.false_eq_true, if_false, List.length_cons]; omega
    · simp only [List.filter_cons, a, b, c, if_true, Bool.false_eq_true, if_false, List.length_cons]; omega

/-- the place that a choice makes -/
theorem mid_place {x y v : Int} (hxy : x < y) (hv : 0 ≤ v) : x ≤ x + v % (y - x + 1) ∧ x + v % (y - x + 1) ≤ y := by
  have h1 := Int.emod_nonneg v (by omega : y - x + 1 ≠ 0)
  have h2 := Int.emod_lt_of_pos v (by omega : 0 < y - x + 1)
  omega
end Go.Proofs.YtgimknplckkiaaaDoor.dice
