/-
  Lists of dimensions in memory; the contract of dims.Sound.
-/
import Derived.Test.YthdknjndcahhoaaDoorDimsOne
namespace Go.Proofs.YthdknjndcahhoaaDoor.dims
open Go.ChangeShapes Go.WideShapes Go.ChangeAt Go.RowKit Go.Deep
set_option linter.unusedVariables false
set_option maxRecDepth 100000

/-- a dimension: its size, and where its divisors lie -/
structure Dm where
  sz : Int
  a : Option Addr
  cap : Nat
  l : List Int

def dn (ds : List Dm) (i : Nat) : Dm := ds.getD i ⟨0, none, 0, []⟩

/-- dimensions that can be read at an address -/
def DimsIn (w : World) (a : Option Addr) (ds : List Dm) : Prop :=
  ds = [] ∨ ∃ b off, a = some ⟨b, off, none⟩ ∧ ∀ i, i < ds.length → w.cell? ⟨b, off + i * 2, none⟩ = some (.int .i64 (dn ds i).sz) ∧ w.cell? ⟨b, off + i * 2 + 1, none⟩ = some (.slice (dn ds i).a (dn ds i).l.length (dn ds i).cap) ∧ Ints w (dn ds i).a (dn ds i).l ∧ (dn ds i).l.length ≤ 9223372036854775807

theorem DimsIn.keep {w w1 : World} {a : Option Addr} {ds : List Dm} (h : DimsIn w a ds) (hb : Below w.heap.size w w1) : DimsIn w1 a ds := by
  rcases h with h | ⟨b, off, ha, hc⟩
  · exact .inl h
  · refine .inr ⟨b, off, ha, fun i hi => ?_⟩
    obtain ⟨h1, h2, h3, h4⟩ := hc i hi
    exact ⟨(hb.cell (p := ⟨b, off + i * 2, none⟩) (cell_lt h1)).trans h1, (hb.cell (p := ⟨b, off + i * 2 + 1, none⟩) (cell_lt h2)).trans h2, h3.keep hb, h4⟩

theorem DimsIn.get {w : World} {a : Option Addr} {ds : List Dm} (h : DimsIn w a ds) {k : Nat} (hk : k < ds.length) : ∃ b off, a = some ⟨b, off, none⟩ ∧ ∀ i, i < ds.length → w.cell? ⟨b, off + i * 2, none⟩ = some (.int .i64 (dn ds i).sz) ∧ w.cell? ⟨b, off + i * 2 + 1, none⟩ = some (.slice (dn ds i).a (dn ds i).l.length (dn ds i).cap) ∧ Ints w (dn ds i).a (dn ds i).l ∧ (dn ds i).l.length ≤ 9223372036854775807 := by
  rcases h with rfl | h
  · simp at hk
  · exact h

def sndD (d : Dm) : Bool := sndB d.sz d.l
def sndL (ds : List Dm) : Bool := decide (1 ≤ ds.length) && (decide (ds.length ≤ 4) && ds.all sndD)

theorem all_of {ds : List Dm} (h : ∀ i, i < ds.length → sndD (dn ds i) = true) : ds.all sndD = true := by
  rw [List.all_eq_true]
  intro d hd
  obtain ⟨i, hi, rfl⟩ := List.mem_iff_getElem.1 hd
  have := h i hi
  simpa [dn, hi] using this
theorem all_not {ds : List Dm} {k : Nat} (hk : k < ds.length) (h : sndD (dn ds k) = false) : ds.all sndD = false := by
  cases e : ds.all sndD with
  | false => rfl
  | true =>
    have := (List.all_eq_true.1 e) (dn ds k) (by simp [dn, hk])
    rw [h] at this; cases this
theorem all_at {ds : List Dm} (h : ds.all sndD = true) {k : Nat} (hk : k < ds.length) : sndD (dn ds k) = true := (List.all_eq_true.1 h) (dn ds k) (by simp [dn, hk])

theorem closure_any (sz : Int) (a : Option Addr) (n cap : Nat) (l : List Int) (s : Bool) (w : World) (hI : Ints w a l) (hn : l.length = n) (hs : sndB sz l = s) :
    Calls Tryd.prog 55 #[.agg #[.int .i64 sz, .slice a n cap]] w fun e w' => e = .returned (.bool (!s)) ∧ Below w.heap.size w w' := by
  have hB0 : Below w.heap.size w (w.alloc (.cells #[.int .i64 sz, .slice a n cap] 40)) := by (repeat (first | with_reducible exact Below.refl _ _ | (with_reducible refine Below.drew ?_) | (with_reducible refine Below.alloc ?_ (by first | omega | (simp; done) | (simp; omega)) _) | (with_reducible refine Below.setCell ?_ (by first | exact Nat.le_refl _ | omega | (simp; done) | (simp; omega)) _)))
  have hS := sound_any sz a cap l _ (hI.keep hB0)
  rw [hn, hs] at hS
  have HB : Aside _ := hB0
  clear hI hn hs hB0
  go_enter Tryd.func55, Tryd.ntmps55
  go_wp2_with (go_at_call 56; refine hS.mono ?_; rintro e w1 ⟨rfl, hb1⟩)
  go_ret
  exact ⟨rfl, HB.out.trans (hb1.mono (by simp))⟩

set_option maxHeartbeats 2000000 in
theorem index_any (a : Option Addr) (n cap : Nat) (ds : List Dm) (w : World) (hI : DimsIn w a ds) (hn : ds.length = n) (hm : n ≤ 9223372036854775807) :
    Calls Tryd.prog 69 #[.slice a n cap, .func (.func 55) #[] #[]] w fun e w' => ∃ r, e = .returned (.int .i64 r) ∧ decide (0 ≤ r) = !(ds.all sndD) ∧ Below w.heap.size w w' := by
  have HN : Hid (ds.length = n) := hn
  have HI : Aside (DimsIn w a ds) := hI
  clear hn hI
  go_enter Tryd.func69, Tryd.ntmps69
  go_wp2_with fail
  go_loopg [8] n (fun g1 vi wr => ∃ (k : Nat), vi = .int .i64 k ∧ k ≤ n ∧ n - k ≤ g1 ∧ Aside (Below w.heap.size w wr ∧ ∀ i, i < k → sndD (dn ds i) = true))
  case atStart => exact ⟨0, rfl, Nat.zero_le _, Nat.le_refl _, Below.refl _ _, fun i hi => by omega⟩
  case round =>
    obtain ⟨k, rfl, hk, hg1, SK⟩ := hrel
    by_cases hlt : k < n
    · have hltz : (k : Int) < (n : Int) := by omega
      have hkl : k < ds.length := by rw [HN.out]; exact hlt
      obtain ⟨b, off, ha, hc⟩ := (HI.out.keep SK.out.1).get hkl
      subst ha
      obtain ⟨r0, r1, r2, r3⟩ := hc k hkl
      clear hc
      obtain ⟨s, hs⟩ : ∃ s, sndD (dn ds k) = s := ⟨_, rfl⟩
      have hC := closure_any (dn ds k).sz (dn ds k).a (dn ds k).l.length (dn ds k).cap (dn ds k).l s wr r2 rfl hs
      generalize (dn ds k).sz = t1 at r0 hC
      generalize (dn ds k).a = t2 at r1 hC
      generalize (dn ds k).l.length = t3 at r1 hC
      generalize (dn ds k).cap = t4 at r1 hC
      clear r2 r3
      cases s with
      | true =>
        have S2 : Aside (∀ i, i < k + 1 → sndD (dn ds i) = true) := fun i hi => by
          by_cases e : i = k
          · subst e; exact hs
          · exact SK.out.2 i (by omega)
        clear hs
        go_wp2_with (go_at_call 55; refine hC.mono ?_; rintro e w1 ⟨rfl, hb1⟩)
        have SB : Aside (Below w.heap.size w w1) := SK.out.1.trans (hb1.mono SK.out.1.size)
        go_wp2
        go_roundg (n - (k + 1))
        case measure => omega
        case rel => exact ⟨k + 1, by go_num, by omega, by omega, SB.out, S2.out⟩
      | false =>
        have E : Hid (ds.all sndD = false) := all_not hkl hs
        clear hs
        go_wp2_with (go_at_call 55; refine hC.mono ?_; rintro e w1 ⟨rfl, hb1⟩)
        go_ret
        exact ⟨_, rfl, by rw [E.out]; simp, SK.out.1.trans (hb1.mono SK.out.1.size)⟩
    · have hltz : ¬ (k : Int) < (n : Int) := by omega
      have E : Hid (ds.all sndD = true) := all_of fun i hi => SK.out.2 i (by have := HN.out; omega)
      go_wp2
      go_ret
      exact ⟨_, rfl, by rw [E.out]; simp, SK.out.1⟩

theorem contains_any (a : Option Addr) (n cap : Nat) (ds : List Dm) (s : Bool) (w : World) (hI : DimsIn w a ds) (hn : ds.length = n) (hm : n ≤ 9223372036854775807) (hs : ds.all sndD = s) :
    Calls Tryd.prog 54 #[.slice a n cap, .func (.func 55) #[] #[]] w fun e w' => e = .returned (.bool (!s)) ∧ Below w.heap.size w w' := by
  have hX := index_any a n cap ds w hI hn hm
  rw [hs] at hX
  clear hI hs
  go_enter Tryd.func54, Tryd.ntmps54
  go_wp2_with fail
  refine hX.mono ?_
  rintro e w1 ⟨r, rfl, hr, hb⟩
  have HB : Aside _ := hb
  have HR : Hid _ := hr
  clear hb hr hX
  go_wp2
  go_ret
  exact ⟨ret_bool HR.out, HB.out⟩

theorem soundL_any (a : Option Addr) (n cap : Nat) (ds : List Dm) (w : World) (hI : DimsIn w a ds) (hn : ds.length = n) (hm : n ≤ 9223372036854775807) :
    Calls Tryd.prog 37 #[.slice a n cap] w fun e w' => e = .returned (.bool (sndL ds)) ∧ Below w.heap.size w w' := by
  obtain ⟨s, hs⟩ : ∃ s, ds.all sndD = s := ⟨_, rfl⟩
  have hC := contains_any a n cap ds s w hI hn hm hs
  by_cases h1 : 1 ≤ n
  · by_cases h2 : n ≤ 4
    · have E : Hid (sndL ds = s) := by show _ = _; unfold sndL; rw [hn, hs]; simp [h1, h2]
      have h1z : (1 : Int) ≤ (n : Int) := by omega
      have h2z : (n : Int) ≤ 4 := by omega
      clear hI hs hn
      go_enter Tryd.func37, Tryd.ntmps37
      go_wp2_with (go_at_call 54; refine hC.mono ?_; rintro e w1 ⟨rfl, hb1⟩)
      go_ret
      exact ⟨ret_bool (by rw [E.out]; try simp), hb1⟩
    · have E : Hid (sndL ds = false) := by show _ = _; unfold sndL; rw [hn]; simp [h2]
      have h1z : (1 : Int) ≤ (n : Int) := by omega
      have h2z : ¬ (n : Int) ≤ 4 := by omega
      clear hI hs hn hC
      go_enter Tryd.func37, Tryd.ntmps37
      go_wp2
      go_ret
      exact ⟨ret_bool E.out.symm, Below.refl _ _⟩
  · have E : Hid (sndL ds = false) := by show _ = _; unfold sndL; rw [hn]; simp [h1]
    have h1z : ¬ (1 : Int) ≤ (n : Int) := by omega
    clear hI hs hn hC
    go_enter Tryd.func37, Tryd.ntmps37
    go_wp2
    go_ret
    exact ⟨ret_bool E.out.symm, Below.refl _ _⟩
end Go.Proofs.YthdknjndcahhoaaDoor.dims
