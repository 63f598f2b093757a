/-
  The contracts of dims.In and of the chapter's In: is a key of members?
-/
import Derived.Test.YtkkgniigcfbakaaDimsSound
namespace Go.Proofs.Ytkkgniigcfbakaa.dims
open Go.ChangeShapes Go.WideShapes Go.ChangeAt Go.RowKit Go.Deep
set_option linter.unusedVariables false

def memB (ds : List Dm) (key : List Int) (i : Nat) : Bool := decide (0 ≤ nth key i) && decide (nth key i < (dn ds i).sz)
def inB (ds : List Dm) (key : List Int) : Bool := decide (ds.length = key.length) && (List.range ds.length).all (memB ds key)

theorem inB_true {ds : List Dm} {key : List Int} (h : ds.length = key.length) (h2 : ∀ i, i < ds.length → memB ds key i = true) : inB ds key = true := by
  unfold inB; rw [decide_eq_true h, Bool.true_and, List.all_eq_true]
  exact fun i hi => h2 i (List.mem_range.1 hi)
theorem inB_len {ds : List Dm} {key : List Int} (h : ¬ ds.length = key.length) : inB ds key = false := by
  unfold inB; rw [decide_eq_false h, Bool.false_and]
theorem inB_at {ds : List Dm} {key : List Int} {k : Nat} (hk : k < ds.length) (h2 : memB ds key k = false) : inB ds key = false := by
  cases e : inB ds key with
  | false => rfl
  | true =>
    unfold inB at e
    rw [Bool.and_eq_true, List.all_eq_true] at e
    have := e.2 k (List.mem_range.2 hk)
    rw [h2] at this; cases this

set_option maxHeartbeats 4000000 in
theorem in_any (a ak : Option Addr) (n cap nk ck : Nat) (ds : List Dm) (key : List Int) (w : World) (hI : DimsIn w a ds) (hn : ds.length = n) (hK : Ints w ak key) (hnk : key.length = nk) (hm : n ≤ 9223372036854775807) :
    Calls Try.prog 14 #[.slice a n cap, .slice ak nk ck] w fun e w' => e = .returned (.bool (inB ds key)) ∧ Below w.heap.size w w' := by
  have HN : Hid (ds.length = n) := hn
  have HI : Aside (DimsIn w a ds) := hI
  have HK : Aside (Ints w ak key ∧ key.length = nk) := ⟨hK, hnk⟩
  clear hn hI hK hnk
  by_cases hne : nk = n
  · subst hne
    go_enter Try.func14, Try.ntmps14
    go_wp2_with fail
    go_loopg [14] nk (fun g1 vi wr => ∃ (k : Nat), vi = .int .i64 k ∧ k ≤ nk ∧ nk - k ≤ g1 ∧ Aside (Below w.heap.size w wr ∧ ∀ i, i < k → memB ds key i = true))
    case atStart => exact ⟨0, rfl, Nat.zero_le _, Nat.le_refl _, Below.refl _ _, fun i hi => by omega⟩
    case round =>
      obtain ⟨k, rfl, hk, hg1, SK⟩ := hrel
      by_cases hlt : k < nk
      · have hltz : (k : Int) < (nk : Int) := by omega
        have hkl : k < ds.length := by rw [HN.out]; exact hlt
        have hkk : k < key.length := by rw [HK.out.2]; exact hlt
        obtain ⟨b, off, ha, hc⟩ := (HI.out.keep SK.out.1).get hkl
        subst ha
        obtain ⟨r0, r1, _, _⟩ := hc k hkl
        clear hc
        obtain ⟨b2, o2, ha2, hc2⟩ := (HK.out.1.keep SK.out.1).get hkk
        subst ha2
        have r2 := hc2 k hkk
        have hb2 := cell_lt r2
        clear hc2
        obtain ⟨x, hx⟩ : ∃ x, nth key k = x := ⟨_, rfl⟩
        obtain ⟨s, hs⟩ : ∃ s, (dn ds k).sz = s := ⟨_, rfl⟩
        rw [hx] at r2
        rw [hs] at r0
        have HX : Hid (memB ds key k = (decide (0 ≤ x) && decide (x < s))) := by show _ = _; unfold memB; rw [hx, hs]
        clear hx hs
        generalize (dn ds k).a = t2 at r1
        generalize (dn ds k).l.length = t3 at r1
        generalize (dn ds k).cap = t4 at r1
        have SW : Aside (Below w.heap.size w (wr.alloc (.cells #[.int .i64 s, .slice t2 t3 t4] 29))) := SK.out.1.alloc SK.out.1.size _
        by_cases g1 : x < 0
        · have E : Hid (inB ds key = false) := inB_at hkl (by rw [HX.out]; simp; omega)
          have d1 : decide (x < 0) = true := decide_eq_true g1
          go_wp2_with fail
          go_quiet (fail)
          go_wp2
          go_ret
          exact ⟨ret_bool E.out.symm, below_drewN SW.out nq⟩
        have d1 : decide (x < 0) = false := decide_eq_false g1
        by_cases g2 : s ≤ x
        · have E : Hid (inB ds key = false) := inB_at hkl (by rw [HX.out]; simp; omega)
          have d2 : decide (s ≤ x) = true := decide_eq_true g2
          go_wp2_with fail
          go_quiet (fail)
          go_wp2
          go_ret
          exact ⟨ret_bool E.out.symm, below_drewN SW.out nq⟩
        have d2 : decide (s ≤ x) = false := decide_eq_false g2
        have S2 : Aside (∀ i, i < k + 1 → memB ds key i = true) := fun i hi => by
          by_cases e : i = k
          · subst e; rw [HX.out]; simp; omega
          · exact SK.out.2 i (by omega)
        go_wp2_with fail
        go_quiet (fail)
        have SB : Aside _ := below_drewN SW.out nq
        go_wp2
        go_roundg (nk - (k + 1))
        case measure => omega
        case rel => exact ⟨k + 1, by go_num, by omega, by omega, SB.out, S2.out⟩
      · have hltz : ¬ (k : Int) < (nk : Int) := by omega
        have E : Hid (inB ds key = true) := inB_true (by rw [HN.out, HK.out.2]) fun i hi => SK.out.2 i (by have := HN.out; omega)
        go_wp2
        go_ret
        exact ⟨ret_bool E.out.symm, SK.out.1⟩
  · have hnz : ((nk : Int) == (n : Int)) = false := by
      have : ¬ (nk : Int) = (n : Int) := by omega
      simpa using this
    have E : Hid (inB ds key = false) := inB_len (by rw [HN.out, HK.out.2]; omega)
    go_enter Try.func14, Try.ntmps14
    go_wp2
    go_ret
    exact ⟨ret_bool E.out.symm, Below.refl _ _⟩

set_option maxHeartbeats 4000000 in
theorem refIn_any (a ak : Option Addr) (n cap nk ck : Nat) (ds : List Dm) (key : List Int) (w : World) (hI : DimsIn w a ds) (hn : ds.length = n) (hK : Ints w ak key) (hnk : key.length = nk) (hm : n ≤ 9223372036854775807) :
    Calls Try.prog 22 #[.slice a n cap, .slice ak nk ck] w fun e w' => e = .returned (.bool (inB ds key)) ∧ Below w.heap.size w w' := by
  have HN : Hid (ds.length = n) := hn
  have HI : Aside (DimsIn w a ds) := hI
  have HK : Aside (Ints w ak key ∧ key.length = nk) := ⟨hK, hnk⟩
  clear hn hI hK hnk
  go_enter Try.func22, Try.ntmps22
  go_wp2_with fail
  go_loopg [5] n (fun g1 vi wr => ∃ (k : Nat), vi = .int .i64 k ∧ k ≤ n ∧ k ≤ nk ∧ n - k ≤ g1 ∧ Aside (Below w.heap.size w wr ∧ ∀ i, i < k → memB ds key i = true))
  case atStart => exact ⟨0, rfl, Nat.zero_le _, Nat.zero_le _, Nat.le_refl _, Below.refl _ _, fun i hi => by omega⟩
  case round =>
    obtain ⟨k, rfl, hk, hkn, hg1, SK⟩ := hrel
    by_cases hlt : k < n
    · have hltz : (k : Int) < (n : Int) := by omega
      by_cases hlt2 : k < nk
      · have hltz2 : (k : Int) < (nk : Int) := by omega
        have hkl : k < ds.length := by rw [HN.out]; exact hlt
        have hkk : k < key.length := by rw [HK.out.2]; exact hlt2
        obtain ⟨b, off, ha, hc⟩ := (HI.out.keep SK.out.1).get hkl
        subst ha
        obtain ⟨r0, _, _, _⟩ := hc k hkl
        clear hc
        obtain ⟨b2, o2, ha2, hc2⟩ := (HK.out.1.keep SK.out.1).get hkk
        subst ha2
        have r2 := hc2 k hkk
        clear hc2
        obtain ⟨x, hx⟩ : ∃ x, nth key k = x := ⟨_, rfl⟩
        obtain ⟨s, hs⟩ : ∃ s, (dn ds k).sz = s := ⟨_, rfl⟩
        rw [hx] at r2
        rw [hs] at r0
        have HX : Hid (memB ds key k = (decide (0 ≤ x) && decide (x < s))) := by show _ = _; unfold memB; rw [hx, hs]
        clear hx hs
        by_cases g1 : x < 0
        · have E : Hid (inB ds key = false) := inB_at hkl (by rw [HX.out]; simp; omega)
          have d1 : decide (x < 0) = true := decide_eq_true g1
          go_wp2_with fail
          go_quiet (fail)
          go_wp2
          go_ret
          exact ⟨ret_bool E.out.symm, below_drewN SK.out.1 nq⟩
        have d1 : decide (x < 0) = false := decide_eq_false g1
        by_cases g2 : s ≤ x
        · have E : Hid (inB ds key = false) := inB_at hkl (by rw [HX.out]; simp; omega)
          have d2 : decide (s ≤ x) = true := decide_eq_true g2
          go_wp2_with fail
          go_quiet (fail)
          go_wp2
          go_ret
          exact ⟨ret_bool E.out.symm, below_drewN SK.out.1 nq⟩
        have d2 : decide (s ≤ x) = false := decide_eq_false g2
        have S2 : Aside (∀ i, i < k + 1 → memB ds key i = true) := fun i hi => by
          by_cases e : i = k
          · subst e; rw [HX.out]; simp; omega
          · exact SK.out.2 i (by omega)
        go_wp2_with fail
        go_quiet (fail)
        have SB : Aside _ := below_drewN SK.out.1 nq
        go_wp2
        go_roundg (n - (k + 1))
        case measure => omega
        case rel => exact ⟨k + 1, by go_num, by omega, by omega, by omega, SB.out, S2.out⟩
      · have hltz2 : ¬ (k : Int) < (nk : Int) := by omega
        have hnz : ((n : Int) == (nk : Int)) = false := by
          have : ¬ (n : Int) = (nk : Int) := by omega
          simpa using this
        have E : Hid (inB ds key = false) := inB_len (by rw [HN.out, HK.out.2]; omega)
        go_wp2
        go_ret
        exact ⟨ret_bool E.out.symm, SK.out.1⟩
    · have hltz : ¬ (k : Int) < (n : Int) := by omega
      by_cases hne : n = nk
      · have hnz : ((n : Int) == (nk : Int)) = true := by
          have : (n : Int) = (nk : Int) := by omega
          simpa using this
        have E : Hid (inB ds key = true) := inB_true (by rw [HN.out, HK.out.2]; exact hne) fun i hi => SK.out.2 i (by have := HN.out; omega)
        have HE : Hid (n = nk) := hne
        clear hne
        go_wp2
        go_ret
        exact ⟨ret_bool E.out.symm, SK.out.1⟩
      · have hnz : ((n : Int) == (nk : Int)) = false := by
          have : ¬ (n : Int) = (nk : Int) := by omega
          simpa using this
        have E : Hid (inB ds key = false) := inB_len (by rw [HN.out, HK.out.2]; exact hne)
        go_wp2
        go_ret
        exact ⟨ret_bool E.out.symm, SK.out.1⟩

theorem in_val (a ak : Option Addr) (n cap nk ck : Nat) (ds : List Dm) (key : List Int) (r : Bool) (w : World) (hI : DimsIn w a ds) (hn : ds.length = n) (hK : Ints w ak key) (hnk : key.length = nk) (hm : n ≤ 9223372036854775807) (hr : inB ds key = r) :
    Calls Try.prog 14 #[.slice a n cap, .slice ak nk ck] w fun e w' => e = .returned (.bool r) ∧ Below w.heap.size w w' := by
  rw [← hr]; exact in_any a ak n cap nk ck ds key w hI hn hK hnk hm
theorem refIn_val (a ak : Option Addr) (n cap nk ck : Nat) (ds : List Dm) (key : List Int) (r : Bool) (w : World) (hI : DimsIn w a ds) (hn : ds.length = n) (hK : Ints w ak key) (hnk : key.length = nk) (hm : n ≤ 9223372036854775807) (hr : inB ds key = r) :
    Calls Try.prog 22 #[.slice a n cap, .slice ak nk ck] w fun e w' => e = .returned (.bool r) ∧ Below w.heap.size w w' := by
  rw [← hr]; exact refIn_any a ak n cap nk ck ds key w hI hn hK hnk hm
end Go.Proofs.Ytkkgniigcfbakaa.dims
