/-
  The contracts of table.Sound and of the chapter's Sound: is it a table?
-/
import Derived.Test.YtfchpcmiipnbjaaDoorTableRefSame
import Derived.Test.YtfchpcmiipnbjaaDoorCellJ
namespace Go.Proofs.YtfchpcmiipnbjaaDoor.table
open Go.ChangeShapes Go.WideShapes Go.ChangeAt Go.RowKit Go.Deep
open Go.Proofs.YtfchpcmiipnbjaaDoor.dims (nth Ints cell_lt cmpL vals vals_len vals_get vals_one vals_app own_below own_mono own_out RowOut info_int ret_bool ret_int cmp_any refCmp_any)
open Go.Proofs.YtfchpcmiipnbjaaDoor.cell (C4 mrg all one zero In64)
set_option linter.unusedVariables false
set_option maxRecDepth 100000

def posK (l : List Int) : Bool := l.all fun v => decide (0 ≤ v)
theorem posK_of {l : List Int} (h : ∀ i, i < l.length → 0 ≤ nth l i) : posK l = true := by
  unfold posK
  rw [List.all_eq_true]
  intro d hd
  obtain ⟨i, hi, rfl⟩ := List.mem_iff_getElem.1 hd
  have := h i hi
  simpa [nth, hi] using this
theorem posK_not {l : List Int} {k : Nat} (hk : k < l.length) (h : nth l k < 0) : posK l = false := by
  cases e : posK l with
  | false => rfl
  | true =>
    have := (List.all_eq_true.1 e) (nth l k) (by simp [nth, hk])
    have := of_decide_eq_true this
    omega
theorem posK_at {l : List Int} (h : posK l = true) {k : Nat} (hk : k < l.length) : 0 ≤ nth l k := of_decide_eq_true ((List.all_eq_true.1 h) (nth l k) (by simp [nth, hk]))

def sndR (r : Rw) (p : Int) : Bool := decide ((r.k.length : Int) = p) && (posK r.k && (decide (r.c.n ≠ 0) && cell.sound r.c))
def okAt (rs : List Rw) (p : Int) (i : Nat) : Bool := sndR (rwn rs i) p && (decide (i = 0) || decide (cmpL (rwn rs (i - 1)).k (rwn rs i).k < 0))
def sndT (rs : List Rw) (p : Int) : Bool := (List.range rs.length).all (okAt rs p)
theorem sndT_of {rs : List Rw} {p : Int} (h : ∀ i, i < rs.length → okAt rs p i = true) : sndT rs p = true := by
  unfold sndT
  rw [List.all_eq_true]
  intro i hi
  exact h i (List.mem_range.1 hi)
theorem sndT_not {rs : List Rw} {p : Int} {k : Nat} (hk : k < rs.length) (h : okAt rs p k = false) : sndT rs p = false := by
  cases e : sndT rs p with
  | false => rfl
  | true =>
    have := (List.all_eq_true.1 e) k (List.mem_range.2 hk)
    rw [h] at this; cases this
theorem sndT_at {rs : List Rw} {p : Int} (h : sndT rs p = true) {k : Nat} (hk : k < rs.length) : okAt rs p k = true := (List.all_eq_true.1 h) k (List.mem_range.2 hk)

theorem below0_any (v : Int) (w : World) :
    Calls Tryd.prog 49 #[.int .i64 v] w fun e w' => e = .returned (.bool (decide (v < 0))) ∧ w' = w := by
  go_enter Tryd.func49, Tryd.ntmps49
  go_wp2
  go_ret
  exact ⟨rfl, rfl⟩

set_option maxHeartbeats 2000000 in
theorem indexF_any (a : Option Addr) (n cap : Nat) (l : List Int) (w : World) (hI : Ints w a l) (hn : l.length = n) (hm : n ≤ 9223372036854775807) :
    Calls Tryd.prog 66 #[.slice a n cap, .func (.func 49) #[] #[]] w fun e w' => ∃ r, e = .returned (.int .i64 r) ∧ decide (0 ≤ r) = !(posK l) ∧ Below w.heap.size w w' := by
  have HN : Hid (l.length = n) := hn
  have HI : Aside (Ints w a l) := hI
  clear hn hI
  go_enter Tryd.func66, Tryd.ntmps66
  go_wp2_with fail
  go_loopg [8] n (fun g1 vi wr => ∃ (k : Nat), vi = .int .i64 k ∧ k ≤ n ∧ n - k ≤ g1 ∧ Aside (Below w.heap.size w wr ∧ ∀ i, i < k → 0 ≤ nth l i))
  case atStart => exact ⟨0, rfl, Nat.zero_le _, Nat.le_refl _, Below.refl _ _, fun i hi => by omega⟩
  case round =>
    obtain ⟨k, rfl, hk, hg1, SK⟩ := hrel
    by_cases hlt : k < n
    · have hltz : (k : Int) < (n : Int) := by omega
      have hkl : k < l.length := by rw [HN.out]; exact hlt
      obtain ⟨b, off, ha, hc⟩ := (HI.out.keep SK.out.1).get hkl
      subst ha
      have r0 := hc k hkl
      clear hc
      obtain ⟨x, hx⟩ : ∃ x, nth l k = x := ⟨_, rfl⟩
      rw [hx] at r0
      by_cases hs : 0 ≤ x
      · have hd : decide (x < 0) = false := decide_eq_false (by omega)
        have S2 : Aside (∀ i, i < k + 1 → 0 ≤ nth l i) := fun i hi => by
          by_cases e : i = k
          · subst e; rw [hx]; exact hs
          · exact SK.out.2 i (by omega)
        clear hx
        go_wp2_with (go_at_call 49; refine (below0_any _ _).mono ?_; rintro e w1 ⟨rfl, rfl⟩)
        go_roundg (n - (k + 1))
        case measure => omega
        case rel => exact ⟨k + 1, by go_num, by omega, by omega, SK.out.1, S2.out⟩
      · have hd : decide (x < 0) = true := decide_eq_true (by omega)
        have E : Hid (posK l = false) := posK_not hkl (by rw [hx]; omega)
        clear hx
        go_wp2_with (go_at_call 49; refine (below0_any _ _).mono ?_; rintro e w1 ⟨rfl, rfl⟩)
        go_ret
        exact ⟨_, rfl, by rw [E.out]; simp, SK.out.1⟩
    · have hltz : ¬ (k : Int) < (n : Int) := by omega
      have E : Hid (posK l = true) := posK_of fun i hi => SK.out.2 i (by have := HN.out; omega)
      go_wp2
      go_ret
      exact ⟨_, rfl, by rw [E.out]; simp, SK.out.1⟩

theorem containsF_any (a : Option Addr) (n cap : Nat) (l : List Int) (s : Bool) (w : World) (hI : Ints w a l) (hn : l.length = n) (hm : n ≤ 9223372036854775807) (hs : posK l = s) :
    Calls Tryd.prog 48 #[.slice a n cap, .func (.func 49) #[] #[]] w fun e w' => e = .returned (.bool (!s)) ∧ Below w.heap.size w w' := by
  have hX := indexF_any a n cap l w hI hn hm
  rw [hs] at hX
  clear hI hs
  go_enter Tryd.func48, Tryd.ntmps48
  go_wp2_with fail
  refine hX.mono ?_
  rintro e w1 ⟨r, rfl, hr, hb⟩
  have HB : Aside _ := hb
  have HR : Hid _ := hr
  clear hb hr hX
  go_wp2
  go_ret
  exact ⟨ret_bool HR.out, HB.out⟩

set_option maxHeartbeats 2000000 in
theorem soundR_any (r : Rw) (p : Int) (w : World) (hK : KeyOk w r.a r.k.length r.cap r.k) :
    Calls Tryd.prog 32 #[.agg #[.slice r.a r.k.length r.cap, .int .i64 r.c.n, .int .i64 r.c.s, .int .i64 r.c.lo, .int .i64 r.c.hi], .int .i64 p] w fun e w' => e = .returned (.bool (sndR r p)) ∧ Below w.heap.size w w' := by
  have hbx : ∀ o, Below w.heap.size w (w.alloc o) := fun o => (Below.refl _ _).alloc (Nat.le_refl _) _
  have E0 : sndR r p = (decide ((r.k.length : Int) = p) && (posK r.k && (decide (r.c.n ≠ 0) && cell.sound r.c))) := rfl
  obtain ⟨s, hs⟩ : ∃ s, posK r.k = s := ⟨_, rfl⟩
  have hC := fun o => containsF_any r.a r.k.length r.cap r.k s (w.alloc o) (hK.keep (hbx o)).mem rfl (Nat.le_trans hK.lec hK.max) hs
  rw [hs] at E0
  obtain ⟨t, ht⟩ : ∃ t, cell.sound r.c = t := ⟨_, rfl⟩
  have hD := fun W => cell.sound_any r.c W
  rw [ht] at hD E0
  obtain ⟨nk, hnk⟩ : ∃ nk, r.k.length = nk := ⟨_, rfl⟩
  rw [hnk] at hC E0 ⊢
  have HB : Aside (∀ o, Below w.heap.size w (w.alloc o)) := hbx
  clear hK hs ht hnk hbx
  generalize sndR r p = z at E0 ⊢
  by_cases h1 : (nk : Int) = p
  · subst h1
    cases s with
    | false =>
      as_aux_lemma =>
        have E : Hid (z = false) := by show _ = _; rw [E0]; simp
        clear E0
        go_enter Tryd.func32, Tryd.ntmps32
        go_wp2_with (go_at_call 48; refine (hC _).mono ?_; rintro e w1 ⟨rfl, hb1⟩)
        go_ret
        exact ⟨ret_bool E.out.symm, (HB.out _).trans (hb1.mono (by simp))⟩
    | true =>
      by_cases h2 : r.c.n = 0
      · as_aux_lemma =>
          have E : Hid (z = false) := by show _ = _; rw [E0]; simp [h2]
          have h2b : (r.c.n == 0) = true := by simpa using h2
          clear E0
          go_enter Tryd.func32, Tryd.ntmps32
          go_wp2_with (go_at_call 48; refine (hC _).mono ?_; rintro e w1 ⟨rfl, hb1⟩; have c1 := hb1.cell (p := ⟨w.heap.size, 1, none⟩) (by simp); simp [go_sem] at c1)
          go_ret
          exact ⟨ret_bool E.out.symm, (HB.out _).trans (hb1.mono (by simp))⟩
      · as_aux_lemma =>
          have E : Hid (z = t) := by show _ = _; rw [E0]; simp [h2]
          have h2b : (r.c.n == 0) = false := by simpa using h2
          clear E0
          go_enter Tryd.func32, Tryd.ntmps32
          go_wp2_with (first | (go_at_call 48; refine (hC _).mono ?_; rintro e w1 ⟨rfl, hb1⟩; have c1 := hb1.cell (p := ⟨w.heap.size, 1, none⟩) (by simp); have c2 := hb1.cell (p := ⟨w.heap.size, 2, none⟩) (by simp); have c3 := hb1.cell (p := ⟨w.heap.size, 3, none⟩) (by simp); have c4 := hb1.cell (p := ⟨w.heap.size, 4, none⟩) (by simp); simp [go_sem] at c1 c2 c3 c4) | (go_at_call 50; refine (hD _).mono ?_; rintro e w2 ⟨rfl, hb2⟩))
          go_ret
          exact ⟨ret_bool (by rw [E.out]; simp [h2]), ((HB.out _).trans (hb1.mono (by simp))).trans (hb2.mono (by have := hb1.size; simp at this; omega))⟩
  · as_aux_lemma =>
      have E : Hid (z = false) := by show _ = _; rw [E0]; simp [h1]
      have h1b : ((nk : Int) == p) = false := by simpa using h1
      clear E0 hC
      go_enter Tryd.func32, Tryd.ntmps32
      go_wp2
      go_ret
      exact ⟨ret_bool E.out.symm, HB.out _⟩
end Go.Proofs.YtfchpcmiipnbjaaDoor.table
