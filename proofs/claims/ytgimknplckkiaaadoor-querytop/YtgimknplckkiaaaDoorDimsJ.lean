/-
  Lists of numbers in memory; the contracts of the leaves: comparing two numbers, and how many levels there are.
  The contract of dims.sound: may a dimension be?
  Lists of dimensions in memory; the contract of dims.Sound.
  Rows that a call makes for itself: lists of numbers, as the walks carry them.
-/
import Derived.Test.YtgimknplckkiaaaDoorRows
import Derived.Test.YtgimknplckkiaaaDoorDimsMath
import Derived.WalkKit
import Derived.ProofKit
import Derived.OpenShut
import Derived.Below
import Derived.Outline
import Derived.WalkSpells
import Derived.WalkLawsBesides
import Derived.RegionTactic
import Derived.BigRegion
import Derived.BigQuiet
import Derived.Deep.LoopGhost
import Derived.Deep.DeepCutAuto
import Derived.Deep.RegionWith
import Derived.Deep.RegionHeld3
import Derived.Deep.OwnRows
import Derived.Deep.CutRange
import Derived.Laws.OwnMore
import Derived.Laws.AppendOwnNone
import Derived.OwnWalk
import Derived.Deep.AppendLies
import Derived.Deep.RegionHeldLaw
namespace Go.Proofs.YtgimknplckkiaaaDoor.dims
open Go.ChangeShapes Go.WideShapes Go.ChangeAt Go.RowKit Go.Deep
set_option linter.unusedVariables false
set_option maxRecDepth 100000

theorem ret_bool {a b : Bool} (h : a = b) : Ending.returned (.bool a) = .returned (.bool b) := by rw [h]
theorem ret_int {a b : Int} (h : a = b) : Ending.returned (.int .i64 a) = .returned (.int .i64 b) := by rw [h]

theorem cell_lt {W : World} {c o : Nat} {v : Value} (h : W.cell? ⟨c, o, none⟩ = some v) : c < W.heap.size := by
  by_cases hc : c < W.heap.size
  · exact hc
  · exfalso
    have : W.heap[c]? = none := Array.getElem?_eq_none (by omega)
    simp [World.cell?, this] at h

/-- a list of numbers that can be read at an address -/
def Ints (w : World) (a : Option Addr) (l : List Int) : Prop :=
  l = [] ∨ ∃ b off, a = some ⟨b, off, none⟩ ∧ ∀ i, i < l.length → w.cell? ⟨b, off + i, none⟩ = some (.int .i64 (nth l i))

theorem Ints.keep {w w1 : World} {a : Option Addr} {l : List Int} (h : Ints w a l) (hb : Below w.heap.size w w1) : Ints w1 a l := by
  rcases h with h | ⟨b, off, ha, hc⟩
  · exact .inl h
  · exact .inr ⟨b, off, ha, fun i hi => (hb.cell (p := ⟨b, off + i, none⟩) (cell_lt (hc i hi))).trans (hc i hi)⟩

theorem Ints.get {w : World} {a : Option Addr} {l : List Int} (h : Ints w a l) {k : Nat} (hk : k < l.length) : ∃ b off, a = some ⟨b, off, none⟩ ∧ ∀ i, i < l.length → w.cell? ⟨b, off + i, none⟩ = some (.int .i64 (nth l i)) := by
  rcases h with rfl | h
  · simp at hk
  · exact h

theorem isNaN_any (x : Int) (w : World) :
    Calls Tryd.prog 90 #[.int .i64 x] w fun e w' => e = .returned (.bool false) ∧ w' = w := by
  go_enter Tryd.func90, Tryd.ntmps90
  go_wp2
  go_ret
  exact ⟨by simp, rfl⟩

theorem compare_any (x y : Int) (w : World) :
    Calls Tryd.prog 84 #[.int .i64 x, .int .i64 y] w fun e w' => e = .returned (.int .i64 (cmpI x y)) ∧ w' = w := by
  unfold cmpI
  by_cases h1 : x < y
  · go_enter Tryd.func84, Tryd.ntmps84
    go_wp2_with (go_at_call 90; refine (isNaN_any _ _).mono ?_; rintro e w' ⟨rfl, rfl⟩)
    go_ret
    exact ⟨rfl, rfl⟩
  · by_cases h2 : y < x
    · go_enter Tryd.func84, Tryd.ntmps84
      go_wp2_with (go_at_call 90; refine (isNaN_any _ _).mono ?_; rintro e w' ⟨rfl, rfl⟩)
      go_ret
      exact ⟨rfl, rfl⟩
    · go_enter Tryd.func84, Tryd.ntmps84
      go_wp2_with (go_at_call 90; refine (isNaN_any _ _).mono ?_; rintro e w' ⟨rfl, rfl⟩)
      go_ret
      exact ⟨rfl, rfl⟩

theorem levels_wrap (sz : Int) (a : Option Addr) (n cap : Nat) (w : World) :
    Calls Tryd.prog 62 #[.agg #[.int .i64 sz, .slice a n cap]] w fun e w' => e = .returned (.int .i64 (wrap64 ((n : Int) + 2))) ∧ w' = w.alloc (.cells #[.int .i64 sz, .slice a n cap] 57) := by
  go_enter Tryd.func62, Tryd.ntmps62
  go_wp2
  go_ret
  exact ⟨rfl, rfl⟩

theorem refLevels_wrap (sz : Int) (a : Option Addr) (n cap : Nat) (w : World) :
    Calls Tryd.prog 36 #[.agg #[.int .i64 sz, .slice a n cap]] w fun e w' => e = .returned (.int .i64 (wrap64 ((n : Int) + 2))) ∧ w' = w.alloc (.cells #[.int .i64 sz, .slice a n cap] 57) := by
  go_enter Tryd.func36, Tryd.ntmps36
  go_wp2
  go_ret
  exact ⟨rfl, rfl⟩

theorem wrap_two {n : Nat} (hn : n ≤ 9223372036854775800) : wrap64 ((n : Int) + 2) = (n : Int) + 2 := by unfold wrap64; omega

theorem levels_any (sz : Int) (a : Option Addr) (n cap : Nat) (w : World) (hn : n ≤ 9223372036854775800) :
    Calls Tryd.prog 62 #[.agg #[.int .i64 sz, .slice a n cap]] w fun e w' => e = .returned (.int .i64 ((n : Int) + 2)) ∧ w' = w.alloc (.cells #[.int .i64 sz, .slice a n cap] 57) := by
  have := levels_wrap sz a n cap w
  rw [wrap_two hn] at this; exact this

theorem refLevels_any (sz : Int) (a : Option Addr) (n cap : Nat) (w : World) (hn : n ≤ 9223372036854775800) :
    Calls Tryd.prog 36 #[.agg #[.int .i64 sz, .slice a n cap]] w fun e w' => e = .returned (.int .i64 ((n : Int) + 2)) ∧ w' = w.alloc (.cells #[.int .i64 sz, .slice a n cap] 57) := by
  have := refLevels_wrap sz a n cap w
  rw [wrap_two hn] at this; exact this
end Go.Proofs.YtgimknplckkiaaaDoor.dims

namespace Go.Proofs.YtgimknplckkiaaaDoor.dims
open Go.ChangeShapes Go.WideShapes Go.ChangeAt Go.RowKit Go.Deep
set_option linter.unusedVariables false

theorem not_step_le {sz : Int} {l : List Int} {k : Nat} (hk : k < l.length) (h : ¬ StepOk l k) : sndB sz l = false := sndB_false fun s => h (s.2.2.2 k hk)

set_option maxHeartbeats 2000000 in
theorem sound_any (sz : Int) (a : Option Addr) (cap : Nat) (l : List Int) (w : World) (hI : Ints w a l) :
    Calls Tryd.prog 59 #[.agg #[.int .i64 sz, .slice a l.length cap]] w fun e w' => e = .returned (.bool (sndB sz l)) ∧ Below w.heap.size w w' := by
  obtain ⟨n, hnn⟩ : ∃ n, n = l.length := ⟨_, rfl⟩
  rw [← hnn]
  have HN : Hid (n = l.length) := hnn
  have HI : Aside (Ints w a l) := hI
  clear hnn hI
  by_cases h1 : sz < 1
  · have E : Hid (sndB sz l = false) := sndB_false fun s => by have := s.1; omega
    go_enter Tryd.func59, Tryd.ntmps59
    go_wp2
    go_ret
    refine ⟨ret_bool E.out.symm, ?_⟩
    (repeat (first | with_reducible exact Below.refl _ _ | (with_reducible refine Below.drew ?_) | (with_reducible refine Below.alloc ?_ (by first | omega | (simp; done) | (simp; omega)) _) | (with_reducible refine Below.setCell ?_ (by first | exact Nat.le_refl _ | omega | (simp; done) | (simp; omega)) _)))
  by_cases h2 : 10000 < sz
  · have E : Hid (sndB sz l = false) := sndB_false fun s => by have := s.2.1; omega
    go_enter Tryd.func59, Tryd.ntmps59
    go_wp2
    go_ret
    refine ⟨ret_bool E.out.symm, ?_⟩
    (repeat (first | with_reducible exact Below.refl _ _ | (with_reducible refine Below.drew ?_) | (with_reducible refine Below.alloc ?_ (by first | omega | (simp; done) | (simp; omega)) _) | (with_reducible refine Below.setCell ?_ (by first | exact Nat.le_refl _ | omega | (simp; done) | (simp; omega)) _)))
  by_cases h3 : (4 : Int) < (n : Int)
  · have E : Hid (sndB sz l = false) := sndB_false fun s => by have := s.2.2.1; have := HN.out; omega
    go_enter Tryd.func59, Tryd.ntmps59
    go_wp2
    go_ret
    refine ⟨ret_bool E.out.symm, ?_⟩
    (repeat (first | with_reducible exact Below.refl _ _ | (with_reducible refine Below.drew ?_) | (with_reducible refine Below.alloc ?_ (by first | omega | (simp; done) | (simp; omega)) _) | (with_reducible refine Below.setCell ?_ (by first | exact Nat.le_refl _ | omega | (simp; done) | (simp; omega)) _)))
  go_enter Tryd.func59, Tryd.ntmps59
  go_wp2_with fail
  go_loopg [3, 23] n (fun g1 va vi wr => ∃ (k : Nat), va = .int .i64 (prev l k) ∧ vi = .int .i64 k ∧ k ≤ n ∧ n - k ≤ g1 ∧ wr = w.alloc (.cells #[.int .i64 sz, .slice a n cap] 57) ∧ Aside (∀ i, i < k → StepOk l i))
  case atStart => exact ⟨0, rfl, rfl, Nat.zero_le _, Nat.le_refl _, rfl, fun i hi => by omega⟩
  case round =>
    obtain ⟨k, rfl, rfl, hk, hg1, rfl, SK⟩ := hrel
    by_cases hlt : k < n
    · have hltz : (k : Int) < (n : Int) := by omega
      have hkl : k < l.length := by rw [← HN.out]; exact hlt
      obtain ⟨b, off, ha, hc⟩ := HI.out.get hkl
      subst ha
      have hck := hc k hkl
      have hb : b < w.heap.size := cell_lt hck
      clear hc
      have hp : 1 ≤ prev l k := prev_pos SK.out
      obtain ⟨x, hx⟩ : ∃ x, nth l k = x := ⟨_, rfl⟩
      obtain ⟨p, hpp⟩ : ∃ x, prev l k = x := ⟨_, rfl⟩
      rw [hx] at hck
      rw [hpp] at hp ⊢
      have HX : Hid (nth l k = x ∧ prev l k = p) := ⟨hx, hpp⟩
      clear hx hpp
      by_cases g1 : x ≤ p
      · have E : Hid (sndB sz l = false) := not_step_le hkl fun s => by have := s.1; rw [HX.out.1, HX.out.2] at this; omega
        go_wp2
        go_ret
        refine ⟨ret_bool E.out.symm, ?_⟩
        (repeat (first | with_reducible exact Below.refl _ _ | (with_reducible refine Below.drew ?_) | (with_reducible refine Below.alloc ?_ (by first | omega | (simp; done) | (simp; omega)) _) | (with_reducible refine Below.setCell ?_ (by first | exact Nat.le_refl _ | omega | (simp; done) | (simp; omega)) _)))
      by_cases g2 : 10000 < x
      · have E : Hid (sndB sz l = false) := not_step_le hkl fun s => by have := s.2.1; rw [HX.out.1] at this; omega
        go_wp2
        go_ret
        refine ⟨ret_bool E.out.symm, ?_⟩
        (repeat (first | with_reducible exact Below.refl _ _ | (with_reducible refine Below.drew ?_) | (with_reducible refine Below.alloc ?_ (by first | omega | (simp; done) | (simp; omega)) _) | (with_reducible refine Below.setCell ?_ (by first | exact Nat.le_refl _ | omega | (simp; done) | (simp; omega)) _)))
      by_cases g3 : x % p = 0
      · have S2 : Aside (∀ i, i < k + 1 → StepOk l i) := fun i hi => by
          by_cases e : i = k
          · subst e; refine ⟨?_, ?_, ?_⟩ <;> (try rw [HX.out.1]) <;> (try rw [HX.out.2]) <;> omega
          · exact SK.out i (by omega)
        have HP : Hid (prev l (k + 1) = x) := HX.out.1
        go_wp2
        go_roundg (n - (k + 1))
        case measure => omega
        case rel => exact ⟨k + 1, by rw [HP.out], by go_num, by omega, by omega, rfl, S2⟩
      · have E : Hid (sndB sz l = false) := not_step_le hkl fun s => g3 (by have := s.2.2; rw [HX.out.1, HX.out.2] at this; exact this)
        go_wp2
        go_ret
        refine ⟨ret_bool E.out.symm, ?_⟩
        (repeat (first | with_reducible exact Below.refl _ _ | (with_reducible refine Below.drew ?_) | (with_reducible refine Below.alloc ?_ (by first | omega | (simp; done) | (simp; omega)) _) | (with_reducible refine Below.setCell ?_ (by first | exact Nat.le_refl _ | omega | (simp; done) | (simp; omega)) _)))
    · have hltz : ¬ (k : Int) < (n : Int) := by omega
      have E : Hid (sndB sz l = true) := sndB_true ⟨by omega, by omega, by have := HN.out; omega, fun i hi => SK.out i (by have := HN.out; omega)⟩
      go_wp2
      go_ret
      refine ⟨ret_bool E.out.symm, ?_⟩
      (repeat (first | with_reducible exact Below.refl _ _ | (with_reducible refine Below.drew ?_) | (with_reducible refine Below.alloc ?_ (by first | omega | (simp; done) | (simp; omega)) _) | (with_reducible refine Below.setCell ?_ (by first | exact Nat.le_refl _ | omega | (simp; done) | (simp; omega)) _)))
end Go.Proofs.YtgimknplckkiaaaDoor.dims

namespace Go.Proofs.YtgimknplckkiaaaDoor.dims
open Go.ChangeShapes Go.WideShapes Go.ChangeAt Go.RowKit Go.Deep
set_option linter.unusedVariables false

/-- a dimension: its size, and where its divisors lie -/
structure Dm where
  sz : Int
  a : Option Addr
  cap : Nat
  l : List Int

def dn (ds : List Dm) (i : Nat) : Dm := ds.getD i ⟨0, none, 0, []⟩

/-- dimensions that can be read at an address -/
def DimsIn (w : World) (a : Option Addr) (ds : List Dm) : Prop :=
  ds = [] ∨ ∃ b off, a = some ⟨b, off, none⟩ ∧ ∀ i, i < ds.length → w.cell? ⟨b, off + i * 2, none⟩ = some (.int .i64 (dn ds i).sz) ∧ w.cell? ⟨b, off + i * 2 + 1, none⟩ = some (.slice (dn ds i).a (dn ds i).l.length (dn ds i).cap) ∧ Ints w (dn ds i).a (dn ds i).l ∧ (dn ds i).l.length ≤ 9223372036854775807

theorem DimsIn.keep {w w1 : World} {a : Option Addr} {ds : List Dm} (h : DimsIn w a ds) (hb : Below w.heap.size w w1) : DimsIn w1 a ds := by
  rcases h with h | ⟨b, off, ha, hc⟩
  · exact .inl h
  · refine .inr ⟨b, off, ha, fun i hi => ?_⟩
    obtain ⟨h1, h2, h3, h4⟩ := hc i hi
    exact ⟨(hb.cell (p := ⟨b, off + i * 2, none⟩) (cell_lt h1)).trans h1, (hb.cell (p := ⟨b, off + i * 2 + 1, none⟩) (cell_lt h2)).trans h2, h3.keep hb, h4⟩

theorem DimsIn.get {w : World} {a : Option Addr} {ds : List Dm} (h : DimsIn w a ds) {k : Nat} (hk : k < ds.length) : ∃ b off, a = some ⟨b, off, none⟩ ∧ ∀ i, i < ds.length → w.cell? ⟨b, off + i * 2, none⟩ = some (.int .i64 (dn ds i).sz) ∧ w.cell? ⟨b, off + i * 2 + 1, none⟩ = some (.slice (dn ds i).a (dn ds i).l.length (dn ds i).cap) ∧ Ints w (dn ds i).a (dn ds i).l ∧ (dn ds i).l.length ≤ 9223372036854775807 := by
  rcases h with rfl | h
  · simp at hk
  · exact h

def sndD (d : Dm) : Bool := sndB d.sz d.l
def sndL (ds : List Dm) : Bool := decide (1 ≤ ds.length) && (decide (ds.length ≤ 4) && ds.all sndD)

theorem all_of {ds : List Dm} (h : ∀ i, i < ds.length → sndD (dn ds i) = true) : ds.all sndD = true := by
  rw [List.all_eq_true]
  intro d hd
  obtain ⟨i, hi, rfl⟩ := List.mem_iff_getElem.1 hd
  have := h i hi
  simpa [dn, hi] using this
theorem all_not {ds : List Dm} {k : Nat} (hk : k < ds.length) (h : sndD (dn ds k) = false) : ds.all sndD = false := by
  cases e : ds.all sndD with
  | false => rfl
  | true =>
    have := (List.all_eq_true.1 e) (dn ds k) (by simp [dn, hk])
    rw [h] at this; cases this
theorem all_at {ds : List Dm} (h : ds.all sndD = true) {k : Nat} (hk : k < ds.length) : sndD (dn ds k) = true := (List.all_eq_true.1 h) (dn ds k) (by simp [dn, hk])

theorem closure_any (sz : Int) (a : Option Addr) (n cap : Nat) (l : List Int) (s : Bool) (w : World) (hI : Ints w a l) (hn : l.length = n) (hs : sndB sz l = s) :
    Calls Tryd.prog 58 #[.agg #[.int .i64 sz, .slice a n cap]] w fun e w' => e = .returned (.bool (!s)) ∧ Below w.heap.size w w' := by
  have hB0 : Below w.heap.size w (w.alloc (.cells #[.int .i64 sz, .slice a n cap] 57)) := by (repeat (first | with_reducible exact Below.refl _ _ | (with_reducible refine Below.drew ?_) | (with_reducible refine Below.alloc ?_ (by first | omega | (simp; done) | (simp; omega)) _) | (with_reducible refine Below.setCell ?_ (by first | exact Nat.le_refl _ | omega | (simp; done) | (simp; omega)) _)))
  have hS := sound_any sz a cap l _ (hI.keep hB0)
  rw [hn, hs] at hS
  have HB : Aside _ := hB0
  clear hI hn hs hB0
  go_enter Tryd.func58, Tryd.ntmps58
  go_wp2_with (go_at_call 59; refine hS.mono ?_; rintro e w1 ⟨rfl, hb1⟩)
  go_ret
  exact ⟨rfl, HB.out.trans (hb1.mono (by simp))⟩

set_option maxHeartbeats 2000000 in
theorem index_any (a : Option Addr) (n cap : Nat) (ds : List Dm) (w : World) (hI : DimsIn w a ds) (hn : ds.length = n) (hm : n ≤ 9223372036854775807) :
    Calls Tryd.prog 79 #[.slice a n cap, .func (.func 58) #[] #[]] w fun e w' => ∃ r, e = .returned (.int .i64 r) ∧ decide (0 ≤ r) = !(ds.all sndD) ∧ Below w.heap.size w w' := by
  have HN : Hid (ds.length = n) := hn
  have HI : Aside (DimsIn w a ds) := hI
  clear hn hI
  go_enter Tryd.func79, Tryd.ntmps79
  go_wp2_with fail
  go_loopg [8] n (fun g1 vi wr => ∃ (k : Nat), vi = .int .i64 k ∧ k ≤ n ∧ n - k ≤ g1 ∧ Aside (Below w.heap.size w wr ∧ ∀ i, i < k → sndD (dn ds i) = true))
  case atStart => exact ⟨0, rfl, Nat.zero_le _, Nat.le_refl _, Below.refl _ _, fun i hi => by omega⟩
  case round =>
    obtain ⟨k, rfl, hk, hg1, SK⟩ := hrel
    by_cases hlt : k < n
    · have hltz : (k : Int) < (n : Int) := by omega
      have hkl : k < ds.length := by rw [HN.out]; exact hlt
      obtain ⟨b, off, ha, hc⟩ := (HI.out.keep SK.out.1).get hkl
      subst ha
      obtain ⟨r0, r1, r2, r3⟩ := hc k hkl
      clear hc
      obtain ⟨s, hs⟩ : ∃ s, sndD (dn ds k) = s := ⟨_, rfl⟩
      have hC := closure_any (dn ds k).sz (dn ds k).a (dn ds k).l.length (dn ds k).cap (dn ds k).l s wr r2 rfl hs
      generalize (dn ds k).sz = t1 at r0 hC
      generalize (dn ds k).a = t2 at r1 hC
      generalize (dn ds k).l.length = t3 at r1 hC
      generalize (dn ds k).cap = t4 at r1 hC
      clear r2 r3
      cases s with
      | true =>
        have S2 : Aside (∀ i, i < k + 1 → sndD (dn ds i) = true) := fun i hi => by
          by_cases e : i = k
          · subst e; exact hs
          · exact SK.out.2 i (by omega)
        clear hs
        go_wp2_with (go_at_call 58; refine hC.mono ?_; rintro e w1 ⟨rfl, hb1⟩)
        have SB : Aside (Below w.heap.size w w1) := SK.out.1.trans (hb1.mono SK.out.1.size)
        go_wp2
        go_roundg (n - (k + 1))
        case measure => omega
        case rel => exact ⟨k + 1, by go_num, by omega, by omega, SB.out, S2.out⟩
      | false =>
        have E : Hid (ds.all sndD = false) := all_not hkl hs
        clear hs
        go_wp2_with (go_at_call 58; refine hC.mono ?_; rintro e w1 ⟨rfl, hb1⟩)
        go_ret
        exact ⟨_, rfl, by rw [E.out]; simp, SK.out.1.trans (hb1.mono SK.out.1.size)⟩
    · have hltz : ¬ (k : Int) < (n : Int) := by omega
      have E : Hid (ds.all sndD = true) := all_of fun i hi => SK.out.2 i (by have := HN.out; omega)
      go_wp2
      go_ret
      exact ⟨_, rfl, by rw [E.out]; simp, SK.out.1⟩

theorem contains_any (a : Option Addr) (n cap : Nat) (ds : List Dm) (s : Bool) (w : World) (hI : DimsIn w a ds) (hn : ds.length = n) (hm : n ≤ 9223372036854775807) (hs : ds.all sndD = s) :
    Calls Tryd.prog 57 #[.slice a n cap, .func (.func 58) #[] #[]] w fun e w' => e = .returned (.bool (!s)) ∧ Below w.heap.size w w' := by
  have hX := index_any a n cap ds w hI hn hm
  rw [hs] at hX
  clear hI hs
  go_enter Tryd.func57, Tryd.ntmps57
  go_wp2_with fail
  refine hX.mono ?_
  rintro e w1 ⟨r, rfl, hr, hb⟩
  have HB : Aside _ := hb
  have HR : Hid _ := hr
  clear hb hr hX
  go_wp2
  go_ret
  exact ⟨ret_bool HR.out, HB.out⟩

theorem soundL_any (a : Option Addr) (n cap : Nat) (ds : List Dm) (w : World) (hI : DimsIn w a ds) (hn : ds.length = n) (hm : n ≤ 9223372036854775807) :
    Calls Tryd.prog 32 #[.slice a n cap] w fun e w' => e = .returned (.bool (sndL ds)) ∧ Below w.heap.size w w' := by
  obtain ⟨s, hs⟩ : ∃ s, ds.all sndD = s := ⟨_, rfl⟩
  have hC := contains_any a n cap ds s w hI hn hm hs
  by_cases h1 : 1 ≤ n
  · by_cases h2 : n ≤ 4
    · have E : Hid (sndL ds = s) := by show _ = _; unfold sndL; rw [hn, hs]; simp [h1, h2]
      have h1z : (1 : Int) ≤ (n : Int) := by omega
      have h2z : (n : Int) ≤ 4 := by omega
      clear hI hs hn
      go_enter Tryd.func32, Tryd.ntmps32
      go_wp2_with (go_at_call 57; refine hC.mono ?_; rintro e w1 ⟨rfl, hb1⟩)
      go_ret
      exact ⟨ret_bool (by rw [E.out]; try simp), hb1⟩
    · have E : Hid (sndL ds = false) := by show _ = _; unfold sndL; rw [hn]; simp [h2]
      have h1z : (1 : Int) ≤ (n : Int) := by omega
      have h2z : ¬ (n : Int) ≤ 4 := by omega
      clear hI hs hn hC
      go_enter Tryd.func32, Tryd.ntmps32
      go_wp2
      go_ret
      exact ⟨ret_bool E.out.symm, Below.refl _ _⟩
  · have E : Hid (sndL ds = false) := by show _ = _; unfold sndL; rw [hn]; simp [h1]
    have h1z : ¬ (1 : Int) ≤ (n : Int) := by omega
    clear hI hs hn hC
    go_enter Tryd.func32, Tryd.ntmps32
    go_wp2
    go_ret
    exact ⟨ret_bool E.out.symm, Below.refl _ _⟩
end Go.Proofs.YtgimknplckkiaaaDoor.dims

namespace Go.Proofs.YtgimknplckkiaaaDoor.dims
open Go.ChangeShapes Go.WideShapes Go.ChangeAt Go.RowKit Go.Deep
set_option linter.unusedVariables false

def vals (l : List Int) : List Value := l.map (Value.int .i64)
theorem vals_len (l : List Int) : (vals l).length = l.length := by simp [vals]
theorem vals_app (l m : List Int) : vals (l ++ m) = vals l ++ vals m := by simp [vals]
theorem vals_one (l : List Int) : ∀ u ∈ vals l, u.oneCell' = true := by
  intro u hu
  obtain ⟨x, _, rfl⟩ := List.mem_map.1 hu
  rfl
theorem vals_get {l : List Int} {j : Nat} (h : j < l.length) : (vals l)[j]? = some (.int .i64 (nth l j)) := by simp [vals, nth, h]

theorem info_int : (Tryd.prog.info? 3).map (fun i => (i.zero, i.size, i.bytes)) = some (some (.int .i64 0), 1, 8) := by kernel_rfl
theorem info_dim : (Tryd.prog.info? 57).map (fun i => (i.zero, i.size, i.bytes)) = some (some (.agg #[.int .i64 0, .slice none 0 0]), 2, 32) := by kernel_rfl

/-- a slice of numbers that a call hands out -/
def RowOut (W : World) (v : Value) (l : List Int) : Prop := ∃ a cap, v = .slice a l.length cap ∧ Ints W a l ∧ l.length ≤ cap

theorem RowOut.keep {W W' : World} {v : Value} {l : List Int} (h : RowOut W v l) (hb : Below W.heap.size W W') : RowOut W' v l := by
  obtain ⟨a, cap, e, hI, hc⟩ := h
  exact ⟨a, cap, e, hI.keep hb, hc⟩
theorem RowOut.nil (W : World) : RowOut W (.slice none 0 0) [] := ⟨none, 0, rfl, .inl rfl, Nat.le_refl _⟩

theorem own_below {w w' : World} {base : Nat} {e : TypeId} {size : Nat} {v : Value} {n : Nat} {xs : List Value} (h : w.ownsRow base e size v n xs) (hb : Below w.heap.size w w') : w'.ownsRow base e size v n xs := by
  have hl := h.lt
  refine ⟨h.1, ?_⟩
  rcases h.2 with h0 | ⟨g, cap, cur, hv, a, hg, r⟩
  · exact .inl h0
  · refine .inr ⟨g, cap, cur, hv, a, ?_, r⟩
    rw [hb.block g (hl g (by rw [hv]; rfl)).2]; exact hg
theorem own_mono {w : World} {base base' : Nat} {e : TypeId} {size : Nat} {v : Value} {n : Nat} {xs : List Value} (h : w.ownsRow base e size v n xs) (hb : base' ≤ base) : w.ownsRow base' e size v n xs := by
  refine ⟨h.1, ?_⟩
  rcases h.2 with h0 | ⟨g, cap, cur, hv, a, r⟩
  · exact .inl h0
  · exact .inr ⟨g, cap, cur, hv, Nat.le_trans hb a, r⟩

theorem own_out {w : World} {base : Nat} {v : Value} {n : Nat} {l : List Int} (h : w.ownsRow base 3 1 v n (vals l)) : RowOut w v l ∧ l.length = n := by
  have hl : l.length = n := by have := h.1; rw [vals_len] at this; omega
  refine ⟨?_, hl⟩
  rcases h.2 with ⟨hv, h0⟩ | ⟨g, cap, cur, hv, _, _, hc, _⟩
  · subst h0
    have : l = [] := List.eq_nil_of_length_eq_zero hl
    subst this
    exact ⟨none, 0, hv, .inl rfl, Nat.le_refl _⟩
  · subst hl
    refine ⟨_, cap, hv, .inr ⟨g, 0, rfl, fun i hi => ?_⟩, hc⟩
    rw [hv] at h
    have := World.ownsRow.cellAt h i (by omega)
    rw [vals_get hi] at this
    simpa using this

/-- the same, with a bound of the room that it has -/
def RowCap (W : World) (v : Value) (l : List Int) : Prop := ∃ a cap, v = .slice a l.length cap ∧ Ints W a l ∧ l.length ≤ cap ∧ cap ≤ 9223372036854775807
theorem RowCap.out {W : World} {v : Value} {l : List Int} (h : RowCap W v l) : RowOut W v l := by
  obtain ⟨a, cap, e, hI, hc, -⟩ := h
  exact ⟨a, cap, e, hI, hc⟩
theorem RowCap.keep {W W' : World} {v : Value} {l : List Int} (h : RowCap W v l) (hb : Below W.heap.size W W') : RowCap W' v l := by
  obtain ⟨a, cap, e, hI, hc⟩ := h
  exact ⟨a, cap, e, hI.keep hb, hc⟩
theorem own_cap {w : World} {base : Nat} {v : Value} {n : Nat} {l : List Int} (h : w.ownsRow base 3 1 v n (vals l)) : RowCap w v l := by
  obtain ⟨⟨a, cap, e, hI, hc⟩, hl⟩ := own_out h
  refine ⟨a, cap, e, hI, hc, ?_⟩
  rcases h.2 with ⟨h3, h4⟩ | ⟨g3, cap3, cur3, hv3, _, _, hc3, hm3, _⟩
  · rw [h3] at e
    simp only [Value.slice.injEq] at e
    omega
  · rw [hv3] at e
    simp only [Value.slice.injEq] at e
    have : maxLen ≤ 9223372036854775807 := by unfold maxLen; omega
    omega

/-- rows of two kinds of elements are not one -/
theorem own_apart {w : World} {b1 b2 : Nat} {e1 e2 : TypeId} {s1 s2 : Nat} {v1 v2 : Value} {n1 n2 : Nat} {x1 x2 : List Value} (h1 : w.ownsRow b1 e1 s1 v1 n1 x1) (h2 : w.ownsRow b2 e2 s2 v2 n2 x2) (hne : e1 ≠ e2) : v1.ownBlock = none ∨ v1.ownBlock ≠ v2.ownBlock := by
  rcases h1.2 with ⟨h0, _⟩ | ⟨g, cap, cur, hv, _, hg, _⟩
  · left; rw [h0]; rfl
  · right
    rcases h2.2 with ⟨h0, _⟩ | ⟨g', cap', cur', hv', _, hg', _⟩
    · rw [hv, h0]; simp [Value.ownBlock]
    · rw [hv, hv']
      simp only [Value.ownBlock, ne_eq, Option.some.injEq]
      intro e
      subst e
      rw [hg] at hg'
      simp only [Option.some.injEq, Obj.cells.injEq] at hg'
      exact hne hg'.2.1
end Go.Proofs.YtgimknplckkiaaaDoor.dims
