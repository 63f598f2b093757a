/-
  Boxes by places: what is within, what is sound, what two have in common.
  The contracts of the leaves: lists of one length; a list as it is, in memory of its own; the statements' own 'same' and 'heavy'; is a key within, is it a box.
  The contracts of dice.Within and of the chapter's Within: is a key in a box?
  The contracts of dice.same (a list as it is, in memory of its own) and of the statements' own 'same' (are two lists one?) and 'ints'.
-/
import Derived.Test.YtgimknplckkiaaaDoorDimsJ
import Derived.Laws.CopyOwn
import Derived.Test.YtgimknplckkiaaaDoorDimsK
namespace Go.Proofs.YtgimknplckkiaaaDoor.dice
open Go.ChangeShapes Go.WideShapes Go.ChangeAt Go.RowKit Go.Deep
open Go.Proofs.YtgimknplckkiaaaDoor.dims
set_option linter.unusedVariables false
set_option maxRecDepth 100000

def allB (n : Nat) (p : Nat → Bool) : Bool := (List.range n).all p
theorem allB_true {n : Nat} {p : Nat → Bool} (h : ∀ i, i < n → p i = true) : allB n p = true := by
  unfold allB; rw [List.all_eq_true]; exact fun i hi => h i (List.mem_range.1 hi)
theorem allB_get {n : Nat} {p : Nat → Bool} (h : allB n p = true) {i : Nat} (hi : i < n) : p i = true := by
  unfold allB at h; rw [List.all_eq_true] at h; exact h i (List.mem_range.2 hi)
theorem allB_false {n : Nat} {p : Nat → Bool} {i : Nat} (hi : i < n) (h : p i = false) : allB n p = false := by
  cases e : allB n p with
  | false => rfl
  | true => rw [allB_get e hi] at h; cases h
theorem allB_iff {n : Nat} {p : Nat → Bool} : allB n p = true ↔ ∀ i, i < n → p i = true := ⟨fun h i hi => allB_get h hi, allB_true⟩

/-- is a key within, of one place -/
def inAt (low high key : List Int) (i : Nat) : Bool := decide (nth low i ≤ nth key i) && decide (nth key i < nth high i)
def wtn (low high key : List Int) : Bool := decide (low.length = key.length) && (decide (high.length = key.length) && allB key.length (inAt low high key))

theorem wtn_true {low high key : List Int} (h1 : low.length = key.length) (h2 : high.length = key.length) (h : ∀ i, i < key.length → inAt low high key i = true) : wtn low high key = true := by
  unfold wtn; rw [decide_eq_true h1, decide_eq_true h2, allB_true h]; rfl
theorem wtn_len {low high key : List Int} (h : ¬ (low.length = key.length ∧ high.length = key.length)) : wtn low high key = false := by
  unfold wtn
  by_cases h1 : low.length = key.length
  · rw [decide_eq_false (p := high.length = key.length) (fun e => h ⟨h1, e⟩)]; simp
  · rw [decide_eq_false h1]; rfl
theorem wtn_at {low high key : List Int} {i : Nat} (hi : i < key.length) (h : inAt low high key i = false) : wtn low high key = false := by
  unfold wtn; rw [allB_false hi h]; simp
theorem wtn_iff {low high key : List Int} : wtn low high key = true ↔ low.length = key.length ∧ high.length = key.length ∧ ∀ i, i < key.length → nth low i ≤ nth key i ∧ nth key i < nth high i := by
  unfold wtn
  rw [Bool.and_eq_true, Bool.and_eq_true, decide_eq_true_eq, decide_eq_true_eq, allB_iff]
  simp only [inAt, Bool.and_eq_true, decide_eq_true_eq]

/-- is it a box, of one place -/
def bxAt (ds : List Dm) (low high : List Int) (i : Nat) : Bool := decide (0 ≤ nth low i) && (decide (nth low i ≤ nth high i) && decide (nth high i ≤ (dn ds i).sz))
def bx (ds : List Dm) (low high : List Int) : Bool := decide (low.length = ds.length) && (decide (high.length = ds.length) && allB ds.length (bxAt ds low high))
theorem bx_true {ds : List Dm} {low high : List Int} (h1 : low.length = ds.length) (h2 : high.length = ds.length) (h : ∀ i, i < ds.length → bxAt ds low high i = true) : bx ds low high = true := by
  unfold bx; rw [decide_eq_true h1, decide_eq_true h2, allB_true h]; rfl
theorem bx_len {ds : List Dm} {low high : List Int} (h : ¬ (low.length = ds.length ∧ high.length = ds.length)) : bx ds low high = false := by
  unfold bx
  by_cases h1 : low.length = ds.length
  · rw [decide_eq_false (p := high.length = ds.length) (fun e => h ⟨h1, e⟩)]; simp
  · rw [decide_eq_false h1]; rfl
theorem bx_at {ds : List Dm} {low high : List Int} {i : Nat} (hi : i < ds.length) (h : bxAt ds low high i = false) : bx ds low high = false := by
  unfold bx; rw [allB_false hi h]; simp

/-- what two boxes have in common -/
def maxI (a b : Int) : Int := if a < b then b else a
def minI (a b : Int) : Int := if b < a then b else a
def mLo (low fr : List Int) : List Int := (List.range low.length).map fun i => maxI (nth low i) (nth fr i)
def mHi (high un : List Int) : List Int := (List.range high.length).map fun i => minI (nth high i) (nth un i)
def mtAt (low high fr un : List Int) (i : Nat) : Bool := decide (maxI (nth low i) (nth fr i) < minI (nth high i) (nth un i))
def mt (low high fr un : List Int) : Bool := decide (high.length = low.length ∧ fr.length = low.length ∧ un.length = low.length) && allB low.length (mtAt low high fr un)
theorem mt_true {low high fr un : List Int} (h1 : high.length = low.length ∧ fr.length = low.length ∧ un.length = low.length) (h : ∀ i, i < low.length → mtAt low high fr un i = true) : mt low high fr un = true := by
  unfold mt; rw [decide_eq_true h1, allB_true h]; rfl
theorem mt_len {low high fr un : List Int} (h : ¬ (high.length = low.length ∧ fr.length = low.length ∧ un.length = low.length)) : mt low high fr un = false := by
  unfold mt; rw [decide_eq_false h]; rfl
theorem mt_at {low high fr un : List Int} {i : Nat} (hi : i < low.length) (h : mtAt low high fr un i = false) : mt low high fr un = false := by
  unfold mt; rw [allB_false hi h]; simp
theorem mLo_len (low fr : List Int) : (mLo low fr).length = low.length := by simp [mLo]
theorem mHi_len (high un : List Int) : (mHi high un).length = high.length := by simp [mHi]
theorem mLo_nth (low fr : List Int) {i : Nat} (hi : i < low.length) : nth (mLo low fr) i = maxI (nth low i) (nth fr i) := by simp [mLo, nth, hi]
theorem mHi_nth (high un : List Int) {i : Nat} (hi : i < high.length) : nth (mHi high un) i = minI (nth high i) (nth un i) := by simp [mHi, nth, hi]
/-- what Meet hands out -/
def mtL (low high fr un : List Int) : List Int := if mt low high fr un = true then mLo low fr else []
def mtH (low high fr un : List Int) : List Int := if mt low high fr un = true then mHi high un else []

/-- the first places of one list, the others of another one -/
def mix (k : Nat) (A B : List Int) : List Int := A.take k ++ B.drop k
theorem mix_zero (A B : List Int) : mix 0 A B = B := by simp [mix]
theorem mix_all {k : Nat} {A B : List Int} (h : A.length = k) (h2 : B.length = k) : mix k A B = A := by
  simp [mix, List.take_of_length_le (by omega : A.length ≤ k), List.drop_of_length_le (by omega : B.length ≤ k)]
theorem mix_len {k : Nat} {A B : List Int} (h : A.length = B.length) : (mix k A B).length = B.length := by simp [mix]; omega
theorem nth_ext {A B : List Int} (h : A.length = B.length) (h2 : ∀ i, i < B.length → nth A i = nth B i) : A = B := by
  apply List.ext_getElem h
  intro i h3 h4
  have := h2 i h4
  simpa [nth, h3, h4] using this
theorem mix_nth {k : Nat} {A B : List Int} (h : A.length = B.length) {i : Nat} (hi : i < B.length) : nth (mix k A B) i = if i < k then nth A i else nth B i := by
  unfold mix nth
  simp only [List.getD_eq_getElem?_getD]
  by_cases e : i < k
  · rw [if_pos e, List.getElem?_append_left (by simp; omega)]
    simp [e]
  · rw [if_neg e, List.getElem?_append_right (by simp; omega)]
    simp only [List.length_take, List.getElem?_drop]
    rw [show k + (i - min k A.length) = i by omega]
theorem set_len (l : List Int) (i : Nat) (v : Int) : (l.set i v).length = l.length := by simp
theorem set_nth' {l : List Int} {i j : Nat} {v : Int} (hj : j < l.length) : nth (l.set i v) j = if i = j then v else nth l j := by
  unfold nth
  simp only [List.getD_eq_getElem?_getD]
  rw [List.getElem?_set]
  by_cases e : i = j
  · subst e; simp [hj]
  · simp [e]
theorem mix_set {k : Nat} {A B : List Int} (h : A.length = B.length) (hk : k < B.length) : (mix k A B).set k (nth A k) = mix (k + 1) A B := by
  refine nth_ext (by rw [set_len, mix_len h, mix_len h]) fun i hi => ?_
  rw [mix_len h] at hi
  rw [set_nth' (by rw [mix_len h]; exact hi), mix_nth h hi, mix_nth h hi]
  by_cases e : k = i
  · subst e; rw [if_pos rfl, if_pos (by omega)]
  · by_cases e2 : i < k
    · rw [if_neg e, if_pos e2, if_pos (by omega)]
    · rw [if_neg e, if_neg e2, if_neg (by omega)]
theorem vals_set' (l : List Int) (i : Nat) (v : Int) : (vals l).set i (.int .i64 v) = vals (l.set i v) := by simp [vals, List.map_set]
end Go.Proofs.YtgimknplckkiaaaDoor.dice

namespace Go.Proofs.YtgimknplckkiaaaDoor.dice
open Go.ChangeShapes Go.WideShapes Go.ChangeAt Go.RowKit Go.Deep
open Go.Proofs.YtgimknplckkiaaaDoor.dims
set_option linter.unusedVariables false
set_option maxRecDepth 100000

set_option maxHeartbeats 2000000 in
theorem allLong_any (p bb k : Nat) (A : Nat → Option Addr) (L C : Nat → Nat) (w : World) (hk : k ≤ 1000) (hc : ∀ i, i < k → w.cell? ⟨bb, i, none⟩ = some (.slice (A i) (L i) (C i))) :
    Calls Tryd.prog 63 #[.int .i64 p, .slice (some ⟨bb, 0, none⟩) k k] w fun e w' => e = .returned (.bool (allB k fun i => decide (L i = p))) ∧ w' = w := by
  have HC : Aside (∀ i, i < k → w.cell? ⟨bb, i, none⟩ = some (.slice (A i) (L i) (C i))) := hc
  clear hc
  go_enter Tryd.func63, Tryd.ntmps63
  go_wp2_with fail
  go_loopg [6, 9] k (fun g1 s vi wr => ∃ (j : Nat), vi = .int .i64 j ∧ j ≤ k ∧ k - j ≤ g1 ∧ wr = w ∧ Aside (∀ i, i < j → L i = p))
  case atStart => exact ⟨0, rfl, Nat.zero_le _, Nat.le_refl _, rfl, fun i hi => by omega⟩
  case round =>
    obtain ⟨j, rfl, hj, hg1, rfl, SK⟩ := hrel
    by_cases hlt : j < k
    · have hltz : (j : Int) < (k : Int) := by omega
      have r0 := HC.out j hlt
      by_cases hL : L j = p
      · have hb : ((L j : Int) == (p : Int)) = true := by simp [hL]
        have S2 : Aside (∀ i, i < j + 1 → L i = p) := fun i hi => by
          by_cases e : i = j
          · subst e; exact hL
          · exact SK.out i (by omega)
        generalize L j = q at r0 hb
        clear hL
        go_wp2
        go_roundg (k - (j + 1))
        case measure => omega
        case rel => exact ⟨j + 1, by go_num, by omega, by omega, rfl, S2⟩
      · have hb : ((L j : Int) == (p : Int)) = false := by simp; omega
        have E : Hid (allB k (fun i => decide (L i = p)) = false) := allB_false hlt (decide_eq_false hL)
        generalize L j = q at r0 hb
        clear hL
        go_wp2
        go_ret
        exact ⟨ret_bool E.out.symm, rfl⟩
    · have hltz : ¬ (j : Int) < (k : Int) := by omega
      have E : Hid (allB k (fun i => decide (L i = p)) = true) := allB_true fun i hi => decide_eq_true (SK.out i (by omega))
      go_wp2
      go_ret
      exact ⟨ret_bool E.out.symm, rfl⟩

end Go.Proofs.YtgimknplckkiaaaDoor.dice

namespace Go.Proofs.YtgimknplckkiaaaDoor.dice
open Go.ChangeShapes Go.WideShapes Go.ChangeAt Go.RowKit Go.Deep
open Go.Proofs.YtgimknplckkiaaaDoor.dims
set_option linter.unusedVariables false
set_option maxRecDepth 100000

theorem allLong_val (p bb k : Nat) (A : Nat → Option Addr) (L C : Nat → Nat) (r : Bool) (w : World) (hk : k ≤ 1000) (hc : ∀ i, i < k → w.cell? ⟨bb, i, none⟩ = some (.slice (A i) (L i) (C i))) (hr : allB k (fun i => decide (L i = p)) = r) :
    Calls Tryd.prog 63 #[.int .i64 p, .slice (some ⟨bb, 0, none⟩) k k] w fun e w' => e = .returned (.bool r) ∧ w' = w := by
  rw [← hr]; exact allLong_any p bb k A L C w hk hc

theorem two_long (p bb : Nat) (a1 a2 : Option Addr) (n1 n2 c1 c2 : Nat) (r : Bool) (w : World) (h0 : w.cell? ⟨bb, 0, none⟩ = some (.slice a1 n1 c1)) (h1 : w.cell? ⟨bb, 1, none⟩ = some (.slice a2 n2 c2)) (hr : decide (n1 = p ∧ n2 = p) = r) :
    Calls Tryd.prog 63 #[.int .i64 p, .slice (some ⟨bb, 0, none⟩) 2 2] w fun e w' => e = .returned (.bool r) ∧ w' = w := by
  refine allLong_val p bb 2 (fun i => if i = 0 then a1 else a2) (fun i => if i = 0 then n1 else n2) (fun i => if i = 0 then c1 else c2) r w (by omega) ?_ ?_
  · intro i hi
    match i, hi with
    | 0, _ => simpa using h0
    | 1, _ => simpa using h1
  · rw [← hr]
    by_cases h : n1 = p ∧ n2 = p
    · rw [decide_eq_true h]
      refine allB_true fun i hi => ?_
      match i, hi with
      | 0, _ => simpa using h.1
      | 1, _ => simpa using h.2
    · rw [decide_eq_false h]
      by_cases e : n1 = p
      · exact allB_false (i := 1) (by omega) (by simp; exact fun q => h ⟨e, q⟩)
      · exact allB_false (i := 0) (by omega) (by simpa using e)

theorem three_long (p bb : Nat) (a1 a2 a3 : Option Addr) (n1 n2 n3 c1 c2 c3 : Nat) (r : Bool) (w : World) (h0 : w.cell? ⟨bb, 0, none⟩ = some (.slice a1 n1 c1)) (h1 : w.cell? ⟨bb, 1, none⟩ = some (.slice a2 n2 c2)) (h2 : w.cell? ⟨bb, 2, none⟩ = some (.slice a3 n3 c3)) (hr : decide (n1 = p ∧ n2 = p ∧ n3 = p) = r) :
    Calls Tryd.prog 63 #[.int .i64 p, .slice (some ⟨bb, 0, none⟩) 3 3] w fun e w' => e = .returned (.bool r) ∧ w' = w := by
  refine allLong_val p bb 3 (fun i => if i = 0 then a1 else if i = 1 then a2 else a3) (fun i => if i = 0 then n1 else if i = 1 then n2 else n3) (fun i => if i = 0 then c1 else if i = 1 then c2 else c3) r w (by omega) ?_ ?_
  · intro i hi
    match i, hi with
    | 0, _ => simpa using h0
    | 1, _ => simpa using h1
    | 2, _ => simpa using h2
  · rw [← hr]
    by_cases h : n1 = p ∧ n2 = p ∧ n3 = p
    · rw [decide_eq_true h]
      refine allB_true fun i hi => ?_
      match i, hi with
      | 0, _ => simpa using h.1
      | 1, _ => simpa using h.2.1
      | 2, _ => simpa using h.2.2
    · rw [decide_eq_false h]
      by_cases e : n1 = p
      · by_cases e2 : n2 = p
        · exact allB_false (i := 2) (by omega) (by simp; exact fun q => h ⟨e, e2, q⟩)
        · exact allB_false (i := 1) (by omega) (by simpa using e2)
      · exact allB_false (i := 0) (by omega) (by simpa using e)

set_option maxHeartbeats 4000000 in
theorem within_any (a1 a2 a3 : Option Addr) (n1 n2 n3 c1 c2 c3 : Nat) (lo up key : List Int) (w : World) (h1 : Ints w a1 lo) (e1 : lo.length = n1) (h2 : Ints w a2 up) (e2 : up.length = n2) (h3 : Ints w a3 key) (e3 : key.length = n3) (hm : n3 ≤ 9223372036854775807) :
    Calls Tryd.prog 52 #[.slice a1 n1 c1, .slice a2 n2 c2, .slice a3 n3 c3] w fun e w' => e = .returned (.bool (wtn lo up key)) ∧ Below w.heap.size w w' := by
  by_cases hl : n1 = n3 ∧ n2 = n3
  · obtain ⟨rfl, rfl⟩ : n3 = n1 ∧ n2 = n1 := ⟨hl.1.symm, by omega⟩
    have H1 : Aside (Ints w a1 lo ∧ lo.length = n2) := ⟨h1, e1⟩
    have H2 : Aside (Ints w a2 up ∧ up.length = n2) := ⟨h2, e2⟩
    have H3 : Aside (Ints w a3 key ∧ key.length = n2) := ⟨h3, e3⟩
    clear h1 h2 h3 e1 e2 e3 hl
    go_enter Tryd.func52, Tryd.ntmps52
    go_wp2_with fail
    refine (two_long n2 w.heap.size a1 a2 n2 n2 c1 c2 true _ (by simp [go_sem]) (by simp [go_sem]) (decide_eq_true ⟨rfl, rfl⟩)).mono ?_
    rintro e w1 ⟨rfl, rfl⟩
    have HB : Aside (Below w.heap.size w (w.alloc (.cells #[.slice a1 n2 c1, .slice a2 n2 c2] 24))) := (Below.refl _ _).alloc (Nat.le_refl _) _
    generalize w.alloc (.cells #[.slice a1 n2 c1, .slice a2 n2 c2] 24) = w1 at HB ⊢
    go_wp2_with fail
    go_loopg [7, 8, 18] n2 (fun g1 s t vi wr => ∃ (k : Nat), vi = .int .i64 k ∧ k ≤ n2 ∧ n2 - k ≤ g1 ∧ wr = w1 ∧ Aside (∀ i, i < k → inAt lo up key i = true))
    case atStart => exact ⟨0, rfl, Nat.zero_le _, Nat.le_refl _, rfl, fun i hi => by omega⟩
    case round =>
      obtain ⟨k, rfl, hk, hg1, rfl, SK⟩ := hrel
      by_cases hlt : k < n2
      · have hltz : (k : Int) < (n2 : Int) := by omega
        obtain ⟨b1, o1, ha1, hc1⟩ := (H1.out.1.keep HB.out).get (k := k) (by rw [H1.out.2]; exact hlt)
        obtain ⟨b2, o2, ha2, hc2⟩ := (H2.out.1.keep HB.out).get (k := k) (by rw [H2.out.2]; exact hlt)
        obtain ⟨b3, o3, ha3, hc3⟩ := (H3.out.1.keep HB.out).get (k := k) (by rw [H3.out.2]; exact hlt)
        subst ha1
        subst ha2
        subst ha3
        have r1 := hc1 k (by rw [H1.out.2]; exact hlt)
        have r2 := hc2 k (by rw [H2.out.2]; exact hlt)
        have r3 := hc3 k (by rw [H3.out.2]; exact hlt)
        have hkl : k < key.length := by rw [H3.out.2]; exact hlt
        clear hc1 hc2 hc3
        obtain ⟨x, hx⟩ : ∃ x, nth lo k = x := ⟨_, rfl⟩
        obtain ⟨y, hy⟩ : ∃ x, nth up k = x := ⟨_, rfl⟩
        obtain ⟨z, hz⟩ : ∃ x, nth key k = x := ⟨_, rfl⟩
        rw [hx] at r1
        rw [hy] at r2
        rw [hz] at r3
        have HX : Hid (inAt lo up key k = (decide (x ≤ z) && decide (z < y))) := by show _ = _; unfold inAt; rw [hx, hy, hz]
        clear hx hy hz
        by_cases g1 : z < x
        · have E : Hid (wtn lo up key = false) := wtn_at hkl (by rw [HX.out]; simp; omega)
          have d1 : decide (z < x) = true := decide_eq_true g1
          go_wp2
          go_ret
          exact ⟨ret_bool E.out.symm, HB.out⟩
        have d1 : decide (z < x) = false := decide_eq_false g1
        by_cases g2 : y ≤ z
        · have E : Hid (wtn lo up key = false) := wtn_at hkl (by rw [HX.out]; simp; omega)
          have d2 : decide (y ≤ z) = true := decide_eq_true g2
          go_wp2
          go_ret
          exact ⟨ret_bool E.out.symm, HB.out⟩
        have d2 : decide (y ≤ z) = false := decide_eq_false g2
        have S2 : Aside (∀ i, i < k + 1 → inAt lo up key i = true) := fun i hi => by
          by_cases e : i = k
          · subst e; rw [HX.out]; simp; omega
          · exact SK.out i (by omega)
        go_wp2
        go_roundg (n2 - (k + 1))
        case measure => omega
        case rel => exact ⟨k + 1, by go_num, by omega, by omega, rfl, S2⟩
      · have hltz : ¬ (k : Int) < (n2 : Int) := by omega
        have E : Hid (wtn lo up key = true) := wtn_true (by rw [H1.out.2, H3.out.2]) (by rw [H2.out.2, H3.out.2]) fun i hi => SK.out i (by have := H3.out.2; omega)
        go_wp2
        go_ret
        exact ⟨ret_bool E.out.symm, HB.out⟩
  · have E : Hid (wtn lo up key = false) := wtn_len (by rw [e1, e2, e3]; exact hl)
    clear h1 h2 h3 e1 e2 e3
    go_enter Tryd.func52, Tryd.ntmps52
    go_wp2_with fail
    refine (two_long n3 w.heap.size a1 a2 n1 n2 c1 c2 false _ (by simp [go_sem]) (by simp [go_sem]) (decide_eq_false hl)).mono ?_
    rintro e w1 ⟨rfl, rfl⟩
    go_wp2
    go_ret
    exact ⟨ret_bool E.out.symm, (Below.refl _ _).alloc (Nat.le_refl _) _⟩

set_option maxHeartbeats 4000000 in
theorem refWithin_any (a1 a2 a3 : Option Addr) (n1 n2 n3 c1 c2 c3 : Nat) (lo up key : List Int) (w : World) (h1 : Ints w a1 lo) (e1 : lo.length = n1) (h2 : Ints w a2 up) (e2 : up.length = n2) (h3 : Ints w a3 key) (e3 : key.length = n3) (hm : n1 ≤ 9223372036854775807) :
    Calls Tryd.prog 56 #[.slice a1 n1 c1, .slice a2 n2 c2, .slice a3 n3 c3] w fun e w' => e = .returned (.bool (wtn lo up key)) ∧ Below w.heap.size w w' := by
  by_cases hl : n1 = n2
  · subst hl
    have b12 : ((n1 : Int) == (n1 : Int)) = true := by simp
    by_cases hl2 : n1 = n3
    · subst hl2
      have H1 : Aside (Ints w a1 lo ∧ lo.length = n1) := ⟨h1, e1⟩
      have H2 : Aside (Ints w a2 up ∧ up.length = n1) := ⟨h2, e2⟩
      have H3 : Aside (Ints w a3 key ∧ key.length = n1) := ⟨h3, e3⟩
      clear h1 h2 h3 e1 e2 e3
      go_enter Tryd.func56, Tryd.ntmps56
      go_wp2_with fail
      go_loopg [7] n1 (fun g1 vi wr => ∃ (k : Nat), vi = .int .i64 k ∧ k ≤ n1 ∧ n1 - k ≤ g1 ∧ Aside (Below w.heap.size w wr ∧ ∀ i, i < k → inAt lo up key i = true))
      case atStart => exact ⟨0, rfl, Nat.zero_le _, Nat.le_refl _, Below.refl _ _, fun i hi => by omega⟩
      case round =>
        obtain ⟨k, rfl, hk, hg1, SK⟩ := hrel
        by_cases hlt : k < n1
        · have hltz : (k : Int) < (n1 : Int) := by omega
          obtain ⟨b1, o1, ha1, hc1⟩ := (H1.out.1.keep SK.out.1).get (k := k) (by rw [H1.out.2]; exact hlt)
          obtain ⟨b2, o2, ha2, hc2⟩ := (H2.out.1.keep SK.out.1).get (k := k) (by rw [H2.out.2]; exact hlt)
          obtain ⟨b3, o3, ha3, hc3⟩ := (H3.out.1.keep SK.out.1).get (k := k) (by rw [H3.out.2]; exact hlt)
          subst ha1
          subst ha2
          subst ha3
          have r1 := hc1 k (by rw [H1.out.2]; exact hlt)
          have r2 := hc2 k (by rw [H2.out.2]; exact hlt)
          have r3 := hc3 k (by rw [H3.out.2]; exact hlt)
          have hkl : k < key.length := by rw [H3.out.2]; exact hlt
          clear hc1 hc2 hc3
          obtain ⟨x, hx⟩ : ∃ x, nth lo k = x := ⟨_, rfl⟩
          obtain ⟨y, hy⟩ : ∃ x, nth up k = x := ⟨_, rfl⟩
          obtain ⟨z, hz⟩ : ∃ x, nth key k = x := ⟨_, rfl⟩
          rw [hx] at r1
          rw [hy] at r2
          rw [hz] at r3
          have HX : Hid (inAt lo up key k = (decide (x ≤ z) && decide (z < y))) := by show _ = _; unfold inAt; rw [hx, hy, hz]
          clear hx hy hz
          by_cases g1 : z < x
          · have E : Hid (wtn lo up key = false) := wtn_at hkl (by rw [HX.out]; simp; omega)
            have d1 : decide (z < x) = true := decide_eq_true g1
            go_wp2_with fail
            go_quiet (fail)
            go_wp2
            go_ret
            exact ⟨ret_bool E.out.symm, below_drewN SK.out.1 nq⟩
          have d1 : decide (z < x) = false := decide_eq_false g1
          by_cases g2 : y ≤ z
          · have E : Hid (wtn lo up key = false) := wtn_at hkl (by rw [HX.out]; simp; omega)
            have d2 : decide (y ≤ z) = true := decide_eq_true g2
            go_wp2_with fail
            go_quiet (fail)
            go_wp2
            go_ret
            exact ⟨ret_bool E.out.symm, below_drewN SK.out.1 nq⟩
          have d2 : decide (y ≤ z) = false := decide_eq_false g2
          have S2 : Aside (∀ i, i < k + 1 → inAt lo up key i = true) := fun i hi => by
            by_cases e : i = k
            · subst e; rw [HX.out]; simp; omega
            · exact SK.out.2 i (by omega)
          go_wp2_with fail
          go_quiet (fail)
          have SB : Aside _ := below_drewN SK.out.1 nq
          go_wp2
          go_roundg (n1 - (k + 1))
          case measure => omega
          case rel => exact ⟨k + 1, by go_num, by omega, by omega, SB.out, S2.out⟩
        · have hltz : ¬ (k : Int) < (n1 : Int) := by omega
          have E : Hid (wtn lo up key = true) := wtn_true (by rw [H1.out.2, H3.out.2]) (by rw [H2.out.2, H3.out.2]) fun i hi => SK.out.2 i (by have := H3.out.2; omega)
          go_wp2
          go_ret
          exact ⟨ret_bool E.out.symm, SK.out.1⟩
    · have b13 : ((n1 : Int) == (n3 : Int)) = false := by simp; omega
      have E : Hid (wtn lo up key = false) := wtn_len (by rw [e1, e2, e3]; exact fun h => hl2 h.1)
      clear h1 h2 h3 e1 e2 e3 hl2
      go_enter Tryd.func56, Tryd.ntmps56
      go_wp2
      go_ret
      exact ⟨ret_bool E.out.symm, Below.refl _ _⟩
  · have b12 : ((n1 : Int) == (n2 : Int)) = false := by simp; omega
    have E : Hid (wtn lo up key = false) := wtn_len (by rw [e1, e2, e3]; exact fun h => hl (h.1.trans h.2.symm))
    clear h1 h2 h3 e1 e2 e3 hl
    go_enter Tryd.func56, Tryd.ntmps56
    go_wp2
    go_ret
    exact ⟨ret_bool E.out.symm, Below.refl _ _⟩

theorem within_val (a1 a2 a3 : Option Addr) (n1 n2 n3 c1 c2 c3 : Nat) (lo up key : List Int) (r : Bool) (w : World) (h1 : Ints w a1 lo) (e1 : lo.length = n1) (h2 : Ints w a2 up) (e2 : up.length = n2) (h3 : Ints w a3 key) (e3 : key.length = n3) (hm : n3 ≤ 9223372036854775807) (hr : wtn lo up key = r) :
    Calls Tryd.prog 52 #[.slice a1 n1 c1, .slice a2 n2 c2, .slice a3 n3 c3] w fun e w' => e = .returned (.bool r) ∧ Below w.heap.size w w' := by
  rw [← hr]; exact within_any a1 a2 a3 n1 n2 n3 c1 c2 c3 lo up key w h1 e1 h2 e2 h3 e3 hm
theorem refWithin_val (a1 a2 a3 : Option Addr) (n1 n2 n3 c1 c2 c3 : Nat) (lo up key : List Int) (r : Bool) (w : World) (h1 : Ints w a1 lo) (e1 : lo.length = n1) (h2 : Ints w a2 up) (e2 : up.length = n2) (h3 : Ints w a3 key) (e3 : key.length = n3) (hm : n1 ≤ 9223372036854775807) (hr : wtn lo up key = r) :
    Calls Tryd.prog 56 #[.slice a1 n1 c1, .slice a2 n2 c2, .slice a3 n3 c3] w fun e w' => e = .returned (.bool r) ∧ Below w.heap.size w w' := by
  rw [← hr]; exact refWithin_any a1 a2 a3 n1 n2 n3 c1 c2 c3 lo up key w h1 e1 h2 e2 h3 e3 hm
end Go.Proofs.YtgimknplckkiaaaDoor.dice

namespace Go.Proofs.YtgimknplckkiaaaDoor.dice
open Go.ChangeShapes Go.WideShapes Go.ChangeAt Go.RowKit Go.Deep
open Go.Proofs.YtgimknplckkiaaaDoor.dims
set_option linter.unusedVariables false
set_option maxRecDepth 100000

theorem size_int : (Tryd.prog.info? 3).map (·.size) = some 1 := by kernel_rfl

theorem ints_news {W : World} {b off : Nat} {l : List Int} (h : ∀ i, i < l.length → W.cell? ⟨b, off + i, none⟩ = some (.int .i64 (nth l i))) : ∀ j u, (vals l)[j]? = some u → W.cell? ((⟨b, off, none⟩ : Addr).add j) = some u := by
  intro j u hj
  have hl : j < l.length := by
    have := (List.getElem?_eq_some_iff.1 hj).1
    rw [vals_len] at this; exact this
  rw [vals_get hl] at hj
  rw [addr_add, h j hl, ← hj]

set_option maxHeartbeats 4000000 in
theorem dsame_any (a : Option Addr) (n c : Nat) (l : List Int) (w : World) (hI : Ints w a l) (hn : l.length = n) (hm : n ≤ 100000) :
    Calls Tryd.prog 77 #[.slice a n c] w fun e w' => e = .returned (.slice (some ⟨w.heap.size, 0, none⟩) n n) ∧ w'.ownsRow w.heap.size 3 1 (.slice (some ⟨w.heap.size, 0, none⟩) n n) n (vals l) ∧ Below w.heap.size w w' := by
  have hmk := run_make_row' (P := Tryd.prog) 24 3 (.int .i64 0) 8 Tryd.underlying24 info_int rfl .i64 .i64 n (by omega) (by omega)
  have HI : Aside (Ints w a l ∧ l.length = n) := ⟨hI, hn⟩
  have HG : Aside ((w.alloc (.cells (madeCells #[.int .i64 0] n) 3)).heap[w.heap.size]? = some (.cells (List.replicate n (Value.int .i64 0)).toArray 3 (0, 0))) := by
    have := heap_alloc_new w (.cells (madeCells #[.int .i64 0] n) 3)
    show _ = _
    rw [this, ← toList_madeCells_one]
  have HB : Aside (Below w.heap.size w (w.alloc (.cells (madeCells #[.int .i64 0] n) 3))) := (Below.refl _ _).alloc (Nat.le_refl _) _
  have HP : Aside (0 < (vals l).length → ∃ ad, a = some ad ∧ ∀ j v, (vals l)[j]? = some v → (w.alloc (.cells (madeCells #[.int .i64 0] n) 3)).cell? (ad.add j) = some v) := by
    intro h0
    rw [vals_len] at h0
    obtain ⟨b, off, ha, hc⟩ := (HI.out.1.keep HB.out).get h0
    exact ⟨_, ha, ints_news hc⟩
  have q1 : Aside ((vals l).length = Nat.min n n) := by show _ = _; rw [vals_len, hn]; exact (Nat.min_self n).symm
  have q2 : Aside (0 + (vals l).length ≤ (List.replicate n (Value.int .i64 0)).length) := by show _ ≤ _; rw [vals_len, hn]; simp
  clear hI hn
  go_enter Tryd.func77, Tryd.ntmps77
  go_wp2_with (first | (refine wpList_copy_splice rfl (.tmp 7) (.tmp 8) 24 24 rfl 3 Tryd.underlying24 size_int (some ⟨w.heap.size, 0, none⟩) a n n n c rfl rfl w.heap.size 0 (List.replicate n (Value.int .i64 0)) 3 HG.out (vals l) q1.out (fun h => ⟨rfl, HP.out h⟩) q2.out (vals_one l) w.heap.size w HB.out (Nat.le_refl _) ?_) | go_in)
  · intro w2 hg2 hb2
    have S : Aside (w2.ownsRow w.heap.size 3 1 (.slice (some ⟨w.heap.size, 0, none⟩) n n) n (vals l) ∧ Below w.heap.size w w2) := by
      refine ⟨⟨by rw [vals_len, HI.out.2]; omega, .inr ⟨w.heap.size, n, _, rfl, Nat.le_refl _, hg2.out, Nat.le_refl _, by unfold maxLen; omega, ?_, ?_⟩⟩, hb2⟩
      · simp only [List.size_toArray]
        rw [length_splice _ _ _ (by rw [vals_len, HI.out.2]; simp)]; simp
      · simp only [splice, List.take_zero, List.nil_append, Nat.zero_add]
        rw [List.drop_of_length_le (by rw [vals_len, HI.out.2]; simp), List.append_nil, List.take_of_length_le (by rw [vals_len, HI.out.2]; omega)]
    clear hg2 hb2
    go_wp2
    go_ret
    exact ⟨rfl, S.out⟩

end Go.Proofs.YtgimknplckkiaaaDoor.dice
