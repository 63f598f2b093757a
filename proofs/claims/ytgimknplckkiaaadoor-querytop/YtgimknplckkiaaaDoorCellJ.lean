/-
  Contracts of package cell's leaves (Of, held.empty, held.ordered) and of the chapter's own Of.
  The contract of pile.take: what the pile's four cells hold behind it.
  The contracts of cell.Merge, of the chapter's Merge, and of cell.Sound and the chapter's Sound.
  The contracts of cell.Sound and of the chapter's Sound.
-/
import Derived.Test.YtgimknplckkiaaaDoorRows
import Derived.WalkKit
import Derived.ProofKit
import Derived.OpenShut
import Derived.Below
import Derived.Outline
import Derived.WalkSpells
import Derived.WalkLawsBesides
import Derived.RegionTactic
import Derived.BigRegion
import Derived.Test.YtgimknplckkiaaaDoorCellMath
import Derived.Deep.QuietTactic
import Derived.BigQuiet
import Derived.Deep.RegionWith
namespace Go.Proofs.YtgimknplckkiaaaDoor.cell
open Go.ChangeShapes Go.WideShapes Go.ChangeAt Go.RowKit
set_option linter.unusedVariables false
set_option maxRecDepth 100000

theorem of_any (v : Int) (w : World) :
    Calls Tryd.prog 82 #[.int .i64 v] w fun e w' => e = .returned (.agg #[.int .i64 1, .int .i64 v, .int .i64 v, .int .i64 v]) ∧ w' = w.alloc (.cells #[.int .i64 1, .int .i64 v, .int .i64 v, .int .i64 v] 61) := by
  go_enter Tryd.func82, Tryd.ntmps82
  go_wp2
  exact bodyPost_ret (v := .agg #[.int .i64 1, .int .i64 v, .int .i64 v, .int .i64 v]) (by simp [results, Tryd.results82, go_sem]) rfl ⟨rfl, rfl⟩

theorem refOf_any (v : Int) (w : World) :
    Calls Tryd.prog 40 #[.int .i64 v] w fun e w' => e = .returned (.agg #[.int .i64 1, .int .i64 v, .int .i64 v, .int .i64 v]) ∧ w' = w.alloc (.cells #[.int .i64 1, .int .i64 v, .int .i64 v, .int .i64 v] 61) := by
  go_enter Tryd.func40, Tryd.ntmps40
  go_wp2
  exact bodyPost_ret (v := .agg #[.int .i64 1, .int .i64 v, .int .i64 v, .int .i64 v]) (by simp [results, Tryd.results40, go_sem]) rfl ⟨rfl, rfl⟩

theorem empty_any (n s a b : Int) (w : World) :
    Calls Tryd.prog 92 #[.agg #[.int .i64 n, .int .i64 s, .int .i64 a, .int .i64 b]] w fun e w' => e = .returned (.bool (n == 0)) ∧ w' = w.alloc (.cells #[.int .i64 n, .int .i64 s, .int .i64 a, .int .i64 b] 110) := by
  go_enter Tryd.func92, Tryd.ntmps92
  go_wp2
  go_ret
  exact ⟨rfl, rfl⟩

theorem ordered_any (n s a b : Int) (w : World) :
    Calls Tryd.prog 83 #[.agg #[.int .i64 n, .int .i64 s, .int .i64 a, .int .i64 b]] w fun e w' => e = .returned (.bool (decide (a ≤ b))) ∧ w' = w.alloc (.cells #[.int .i64 n, .int .i64 s, .int .i64 a, .int .i64 b] 110) := by
  go_enter Tryd.func83, Tryd.ntmps83
  go_wp2
  go_ret
  exact ⟨rfl, rfl⟩
end Go.Proofs.YtgimknplckkiaaaDoor.cell

namespace Go.Proofs.YtgimknplckkiaaaDoor.cell
open Go.ChangeShapes Go.WideShapes Go.ChangeAt Go.RowKit
set_option linter.unusedVariables false

/-- four numbers stand in a block of their own, and may be written -/
def Has (w : World) (b : Nat) (n s lo hi : Int) : Prop :=
  w.cell? ⟨b, 0, none⟩ = some (.int .i64 n) ∧ w.cell? ⟨b, 1, none⟩ = some (.int .i64 s) ∧ w.cell? ⟨b, 2, none⟩ = some (.int .i64 lo) ∧ w.cell? ⟨b, 3, none⟩ = some (.int .i64 hi) ∧
  w.frozen? ⟨b, 0, none⟩ = false ∧ w.frozen? ⟨b, 1, none⟩ = false ∧ w.frozen? ⟨b, 2, none⟩ = false ∧ w.frozen? ⟨b, 3, none⟩ = false

theorem take_first (b : Nat) (n s lo hi n' s' lo' hi' : Int) (w : World) (hb : b < w.heap.size) (h : Has w b n s lo hi) (hn : (n == 0) = true) :
    Calls Tryd.prog 86 #[.pointer (some ⟨b, 0, none⟩), .agg #[.int .i64 n', .int .i64 s', .int .i64 lo', .int .i64 hi']] w fun e w' => e = .returned (.tuple #[]) ∧ Below b w w' ∧ Has w' b n' s' lo' hi' := by
  obtain ⟨c0, c1, c2, c3, f0, f1, f2, f3⟩ := h
  have hb1 : b < w.heap.size + 1 := by omega
  have hb2 : b < w.heap.size + 1 + 1 := by omega
  have hb3 : b < w.heap.size + 1 + 1 + 1 := by omega
  go_enter Tryd.func86, Tryd.ntmps86
  go_wp2
  go_end0
  refine ⟨rfl, ?_, ?_⟩
  · (repeat (first | with_reducible exact Below.refl _ _ | (with_reducible refine Below.drew ?_) | (with_reducible refine Below.alloc ?_ (by first | omega | (simp; done) | (simp; omega)) _) | (with_reducible refine Below.setCell ?_ (by first | exact Nat.le_refl _ | omega | (simp; done) | (simp; omega)) _)))
  · unfold Has; simp [go_sem, *]

theorem take_none (b : Nat) (n s lo hi n' s' lo' hi' : Int) (w : World) (hb : b < w.heap.size) (h : Has w b n s lo hi) (hn : (n == 0) = false) (hn' : (n' == 0) = true) :
    Calls Tryd.prog 86 #[.pointer (some ⟨b, 0, none⟩), .agg #[.int .i64 n', .int .i64 s', .int .i64 lo', .int .i64 hi']] w fun e w' => e = .returned (.tuple #[]) ∧ Below b w w' ∧ Has w' b n s lo hi := by
  obtain ⟨c0, c1, c2, c3, f0, f1, f2, f3⟩ := h
  have hb1 : b < w.heap.size + 1 := by omega
  have hb2 : b < w.heap.size + 1 + 1 := by omega
  have hb3 : b < w.heap.size + 1 + 1 + 1 := by omega
  go_enter Tryd.func86, Tryd.ntmps86
  go_wp2
  go_end0
  refine ⟨rfl, ?_, ?_⟩
  · (repeat (first | with_reducible exact Below.refl _ _ | (with_reducible refine Below.drew ?_) | (with_reducible refine Below.alloc ?_ (by first | omega | (simp; done) | (simp; omega)) _) | (with_reducible refine Below.setCell ?_ (by first | exact Nat.le_refl _ | omega | (simp; done) | (simp; omega)) _)))
  · unfold Has; simp [go_sem, *]

set_option maxHeartbeats 1000000 in
theorem take_both (b : Nat) (n s lo hi n' s' lo' hi' : Int) (w : World) (hb : b < w.heap.size) (h : Has w b n s lo hi) (hn : (n == 0) = false) (hn' : (n' == 0) = false) :
    Calls Tryd.prog 86 #[.pointer (some ⟨b, 0, none⟩), .agg #[.int .i64 n', .int .i64 s', .int .i64 lo', .int .i64 hi']] w fun e w' => e = .returned (.tuple #[]) ∧ Below b w w' ∧ Has w' b (wrap64 (n + n')) (wrap64 (s + s')) (min lo lo') (max hi hi') := by
  obtain ⟨c0, c1, c2, c3, f0, f1, f2, f3⟩ := h
  have hb1 : b < w.heap.size + 1 := by omega
  have hb2 : b < w.heap.size + 1 + 1 := by omega
  have hb3 : b < w.heap.size + 1 + 1 + 1 := by omega
  by_cases hlo : lo' < lo <;> by_cases hhi : hi < hi'
  all_goals
    go_enter Tryd.func86, Tryd.ntmps86
    go_wp2
    go_region
    go_wp2
    go_region
    go_wp2
    go_region
    go_wp2
    go_region
    go_wp2
    go_end0
    refine ⟨rfl, ?_, ?_⟩
    · (repeat (first | with_reducible exact Below.refl _ _ | (with_reducible refine Below.drew ?_) | (with_reducible refine Below.alloc ?_ (by first | omega | (simp; done) | (simp; omega)) _) | (with_reducible refine Below.setCell ?_ (by first | exact Nat.le_refl _ | omega | (simp; done) | (simp; omega)) _)))
    · clear hb2 hb3
      unfold Has
      simp [go_sem, *]
      omega
end Go.Proofs.YtgimknplckkiaaaDoor.cell

namespace Go.Proofs.YtgimknplckkiaaaDoor.cell
open Go.ChangeShapes Go.WideShapes Go.ChangeAt Go.RowKit
set_option linter.unusedVariables false

abbrev val (c : C4) : Value := .agg #[.int .i64 c.n, .int .i64 c.s, .int .i64 c.lo, .int .i64 c.hi]

theorem beq_iff (a b : Int) : (a == b) = decide (a = b) := by by_cases h : a = b <;> simp [h]

theorem take_any (b : Nat) (c d : C4) (w : World) (hb : b < w.heap.size) (h : Has w b c.n c.s c.lo c.hi) :
    Calls Tryd.prog 86 #[.pointer (some ⟨b, 0, none⟩), .agg #[.int .i64 d.n, .int .i64 d.s, .int .i64 d.lo, .int .i64 d.hi]] w fun e w' => e = .returned (.tuple #[]) ∧ Below b w w' ∧ Has w' b (mrg c d).n (mrg c d).s (mrg c d).lo (mrg c d).hi := by
  unfold mrg
  by_cases hn : c.n = 0
  · rw [if_pos hn]
    exact take_first b c.n c.s c.lo c.hi d.n d.s d.lo d.hi w hb h (by simpa using hn)
  · rw [if_neg hn]
    by_cases hn' : d.n = 0
    · rw [if_pos hn']
      exact take_none b c.n c.s c.lo c.hi d.n d.s d.lo d.hi w hb h (by simpa using hn) (by simpa using hn')
    · rw [if_neg hn']
      exact take_both b c.n c.s c.lo c.hi d.n d.s d.lo d.hi w hb h (by simpa using hn) (by simpa using hn')

theorem keep4 {W w1 : World} {B b : Nat} {n s lo hi : Int} (hb : Below B W w1) (h : b < B) (hh : Has W b n s lo hi) : Has w1 b n s lo hi := by
  obtain ⟨c0, c1, c2, c3, f0, f1, f2, f3⟩ := hh
  exact ⟨(hb.cell h).trans c0, (hb.cell h).trans c1, (hb.cell h).trans c2, (hb.cell h).trans c3, (hb.frozen h).trans f0, (hb.frozen h).trans f1, (hb.frozen h).trans f2, (hb.frozen h).trans f3⟩

theorem merge_any (c d : C4) (w : World) :
    Calls Tryd.prog 74 #[.agg #[.int .i64 c.n, .int .i64 c.s, .int .i64 c.lo, .int .i64 c.hi], .agg #[.int .i64 d.n, .int .i64 d.s, .int .i64 d.lo, .int .i64 d.hi]] w fun e w' => e = .returned (val (mrg c d)) ∧ Below w.heap.size w w' := by
  go_enter Tryd.func74, Tryd.ntmps74
  go_wp2_with fail
  refine (take_any _ c d _ ?_ ?_).mono ?_
  · simp
  · unfold Has; simp [go_sem]
  rintro e w1 ⟨rfl, hb, h⟩
  obtain ⟨c0, c1, c2, c3, f0, f1, f2, f3⟩ := h
  have hr : Has w1 (w.heap.size + 1 + 1) 0 0 0 0 := keep4 hb (by omega) (by unfold Has; simp [go_sem])
  obtain ⟨r0, r1, r2, r3, g0, g1, g2, g3⟩ := hr
  have hB : Below w.heap.size w w1 := by
    refine Below.trans ?_ (hb.mono (by omega))
    (repeat (first | with_reducible exact Below.refl _ _ | (with_reducible refine Below.drew ?_) | (with_reducible refine Below.alloc ?_ (by first | omega | (simp; done) | (simp; omega)) _) | (with_reducible refine Below.setCell ?_ (by first | exact Nat.le_refl _ | omega | (simp; done) | (simp; omega)) _)))
  clear hb
  go_wp2
  refine bodyPost_ret (v := val (mrg c d)) (by simp [results, Tryd.results74, go_sem, *]) rfl ⟨rfl, ?_⟩
  refine Below.trans hB ?_
  (repeat (first | with_reducible exact Below.refl _ _ | (with_reducible refine Below.drew ?_) | (with_reducible refine Below.alloc ?_ (by first | omega | (simp; done) | (simp; omega)) _) | (with_reducible refine Below.setCell ?_ (by first | exact Nat.le_refl _ | omega | (simp; done) | (simp; omega)) _)))

theorem refMerge_any (c d : C4) (w : World) :
    Calls Tryd.prog 68 #[.agg #[.int .i64 c.n, .int .i64 c.s, .int .i64 c.lo, .int .i64 c.hi], .agg #[.int .i64 d.n, .int .i64 d.s, .int .i64 d.lo, .int .i64 d.hi]] w fun e w' => e = .returned (val (mrg c d)) ∧ Below w.heap.size w w' := by
  unfold mrg
  by_cases hn : c.n = 0
  · rw [if_pos hn]
    have hn1 : (c.n == 0) = true := by simpa using hn
    clear hn
    go_enter Tryd.func68, Tryd.ntmps68
    go_wp2
    refine bodyPost_ret (v := val d) (by simp [results, Tryd.results68, go_sem]) rfl ⟨rfl, ?_⟩
    (repeat (first | with_reducible exact Below.refl _ _ | (with_reducible refine Below.drew ?_) | (with_reducible refine Below.alloc ?_ (by first | omega | (simp; done) | (simp; omega)) _) | (with_reducible refine Below.setCell ?_ (by first | exact Nat.le_refl _ | omega | (simp; done) | (simp; omega)) _)))
  rw [if_neg hn]
  have hn1 : (c.n == 0) = false := by simpa using hn
  clear hn
  by_cases hn : d.n = 0
  · rw [if_pos hn]
    have hn2 : (d.n == 0) = true := by simpa using hn
    clear hn
    go_enter Tryd.func68, Tryd.ntmps68
    go_wp2
    refine bodyPost_ret (v := val c) (by simp [results, Tryd.results68, go_sem]) rfl ⟨rfl, ?_⟩
    (repeat (first | with_reducible exact Below.refl _ _ | (with_reducible refine Below.drew ?_) | (with_reducible refine Below.alloc ?_ (by first | omega | (simp; done) | (simp; omega)) _) | (with_reducible refine Below.setCell ?_ (by first | exact Nat.le_refl _ | omega | (simp; done) | (simp; omega)) _)))
  rw [if_neg hn]
  have hn2 : (d.n == 0) = false := by simpa using hn
  clear hn
  by_cases hlo : d.lo < c.lo <;> by_cases hhi : c.hi < d.hi
  all_goals
    go_enter Tryd.func68, Tryd.ntmps68
    go_wp2
    refine bodyPost_ret (v := val ⟨wrap64 (c.n + d.n), wrap64 (c.s + d.s), min c.lo d.lo, max c.hi d.hi⟩) (by simp [results, Tryd.results68, go_sem]; omega) rfl ⟨rfl, ?_⟩
    (repeat (first | with_reducible exact Below.refl _ _ | (with_reducible refine Below.drew ?_) | (with_reducible refine Below.alloc ?_ (by first | omega | (simp; done) | (simp; omega)) _) | (with_reducible refine Below.setCell ?_ (by first | exact Nat.le_refl _ | omega | (simp; done) | (simp; omega)) _)))
end Go.Proofs.YtgimknplckkiaaaDoor.cell

namespace Go.Proofs.YtgimknplckkiaaaDoor.cell
open Go.ChangeShapes Go.WideShapes Go.ChangeAt Go.RowKit
set_option linter.unusedVariables false

theorem ret_bool {a b : Bool} (h : a = b) : Ending.returned (.bool a) = .returned (.bool b) := by rw [h]

theorem sound_none (c : C4) (w : World) (hn1 : (c.n == 0) = true) (E : Hid (sound c = decide (c.s = 0 ∧ c.lo = 0 ∧ c.hi = 0))) :
    Calls Tryd.prog 71 #[.agg #[.int .i64 c.n, .int .i64 c.s, .int .i64 c.lo, .int .i64 c.hi]] w fun e w' => e = .returned (.bool (sound c)) ∧ Below w.heap.size w w' := by
  go_enter Tryd.func71, Tryd.ntmps71
  go_wp2
  all_goals
    go_ret
    refine ⟨ret_bool ?_, ?_⟩
    · rw [E.out]; simp [*]
    · (repeat (first | with_reducible exact Below.refl _ _ | (with_reducible refine Below.drew ?_) | (with_reducible refine Below.alloc ?_ (by first | omega | (simp; done) | (simp; omega)) _) | (with_reducible refine Below.setCell ?_ (by first | exact Nat.le_refl _ | omega | (simp; done) | (simp; omega)) _)))

set_option maxHeartbeats 1000000 in
theorem sound_one (c : C4) (w : World) (hn1 : (c.n == 0) = false) (hm1 : (c.n == 1) = true) (hm : c.n = 1) (E : Hid (sound c = decide (c.lo = c.s ∧ c.hi = c.s))) :
    Calls Tryd.prog 71 #[.agg #[.int .i64 c.n, .int .i64 c.s, .int .i64 c.lo, .int .i64 c.hi]] w fun e w' => e = .returned (.bool (sound c)) ∧ Below w.heap.size w w' := by
  by_cases h2 : c.lo = c.s
  · by_cases h3 : c.hi = c.s
    all_goals
      go_enter Tryd.func71, Tryd.ntmps71
      go_wp2_with fail
      go_region_with (go_at_call 82; refine (of_any _ _).mono ?_; rintro e w' ⟨rfl, rfl⟩)
      all_goals
        go_wp2
        go_ret
        refine ⟨ret_bool ?_, ?_⟩
        · rw [E.out]; simp [*]
        · (repeat (first | with_reducible exact Below.refl _ _ | (with_reducible refine Below.drew ?_) | (with_reducible refine Below.alloc ?_ (by first | omega | (simp; done) | (simp; omega)) _) | (with_reducible refine Below.setCell ?_ (by first | exact Nat.le_refl _ | omega | (simp; done) | (simp; omega)) _)))
  · go_enter Tryd.func71, Tryd.ntmps71
    go_wp2_with fail
    go_region_with (go_at_call 82; refine (of_any _ _).mono ?_; rintro e w' ⟨rfl, rfl⟩)
    all_goals
      go_wp2
      go_ret
      refine ⟨ret_bool ?_, ?_⟩
      · rw [E.out]; simp [*]
      · (repeat (first | with_reducible exact Below.refl _ _ | (with_reducible refine Below.drew ?_) | (with_reducible refine Below.alloc ?_ (by first | omega | (simp; done) | (simp; omega)) _) | (with_reducible refine Below.setCell ?_ (by first | exact Nat.le_refl _ | omega | (simp; done) | (simp; omega)) _)))

theorem sound_more (c : C4) (w : World) (hn1 : (c.n == 0) = false) (hm1 : (c.n == 1) = false) (E : Hid (sound c = decide (0 < c.n ∧ c.lo ≤ c.hi))) :
    Calls Tryd.prog 71 #[.agg #[.int .i64 c.n, .int .i64 c.s, .int .i64 c.lo, .int .i64 c.hi]] w fun e w' => e = .returned (.bool (sound c)) ∧ Below w.heap.size w w' := by
  by_cases h : 0 < c.n
  · have E2 : Hid (sound c = decide (c.lo ≤ c.hi)) := by show sound c = _; rw [E.out]; simp [h]
    go_enter Tryd.func71, Tryd.ntmps71
    go_wp2
    go_ret
    refine ⟨ret_bool E2.out.symm, ?_⟩
    (repeat (first | with_reducible exact Below.refl _ _ | (with_reducible refine Below.drew ?_) | (with_reducible refine Below.alloc ?_ (by first | omega | (simp; done) | (simp; omega)) _) | (with_reducible refine Below.setCell ?_ (by first | exact Nat.le_refl _ | omega | (simp; done) | (simp; omega)) _)))
  · have E2 : Hid (sound c = false) := by show sound c = _; rw [E.out]; simp [h]
    go_enter Tryd.func71, Tryd.ntmps71
    go_wp2
    go_ret
    refine ⟨ret_bool E2.out.symm, ?_⟩
    (repeat (first | with_reducible exact Below.refl _ _ | (with_reducible refine Below.drew ?_) | (with_reducible refine Below.alloc ?_ (by first | omega | (simp; done) | (simp; omega)) _) | (with_reducible refine Below.setCell ?_ (by first | exact Nat.le_refl _ | omega | (simp; done) | (simp; omega)) _)))

theorem sound_any (c : C4) (w : World) :
    Calls Tryd.prog 71 #[.agg #[.int .i64 c.n, .int .i64 c.s, .int .i64 c.lo, .int .i64 c.hi]] w fun e w' => e = .returned (.bool (sound c)) ∧ Below w.heap.size w w' := by
  by_cases hn : c.n = 0
  · exact sound_none c w (by simpa using hn) (by show sound c = _; unfold sound; rw [if_pos hn])
  by_cases hm : c.n = 1
  · exact sound_one c w (by simpa using hn) (by simpa using hm) hm (by show sound c = _; unfold sound; rw [if_neg hn, if_pos hm])
  · exact sound_more c w (by simpa using hn) (by simpa using hm) (by show sound c = _; unfold sound; rw [if_neg hn, if_neg hm])

theorem sound_alt (c : C4) : sound c = if c.n ≤ 0 then decide (c.n = 0 ∧ c.s = 0 ∧ c.lo = 0 ∧ c.hi = 0) else decide (c.lo ≤ c.hi ∧ (1 < c.n ∨ c.s = c.lo ∧ c.lo = c.hi)) := by
  unfold sound
  by_cases h0 : c.n = 0
  · simp [h0]
  · by_cases h1 : c.n = 1
    · rw [if_neg h0, if_pos h1, if_neg (by omega)]; congr 1; rw [eq_iff_iff]; omega
    · rw [if_neg h0, if_neg h1]
      by_cases h2 : c.n ≤ 0
      · rw [if_pos h2]; congr 1; rw [eq_iff_iff]; omega
      · rw [if_neg h2]; congr 1; rw [eq_iff_iff]; omega

theorem refSound_any (c : C4) (w : World) :
    Calls Tryd.prog 53 #[.agg #[.int .i64 c.n, .int .i64 c.s, .int .i64 c.lo, .int .i64 c.hi]] w fun e w' => e = .returned (.bool (sound c)) ∧ Below w.heap.size w w' := by
  by_cases h : c.n ≤ 0
  · have E : Hid (sound c = decide (c.n = 0 ∧ c.s = 0 ∧ c.lo = 0 ∧ c.hi = 0)) := by show sound c = _; rw [sound_alt, if_pos h]
    go_enter Tryd.func53, Tryd.ntmps53
    go_wp2
    all_goals
      go_ret
      refine ⟨ret_bool ?_, ?_⟩
      · rw [E.out]; simp [*]
      · (repeat (first | with_reducible exact Below.refl _ _ | (with_reducible refine Below.drew ?_) | (with_reducible refine Below.alloc ?_ (by first | omega | (simp; done) | (simp; omega)) _) | (with_reducible refine Below.setCell ?_ (by first | exact Nat.le_refl _ | omega | (simp; done) | (simp; omega)) _)))
  have E0 : sound c = decide (c.lo ≤ c.hi ∧ (1 < c.n ∨ c.s = c.lo ∧ c.lo = c.hi)) := by rw [sound_alt, if_neg h]
  by_cases h1 : c.lo ≤ c.hi
  · by_cases h2 : 1 < c.n
    · have E : Hid (sound c = true) := by show sound c = _; rw [E0]; simp [h1, h2]
      clear E0
      go_enter Tryd.func53, Tryd.ntmps53
      go_wp2
      go_ret
      refine ⟨ret_bool E.out.symm, ?_⟩
      (repeat (first | with_reducible exact Below.refl _ _ | (with_reducible refine Below.drew ?_) | (with_reducible refine Below.alloc ?_ (by first | omega | (simp; done) | (simp; omega)) _) | (with_reducible refine Below.setCell ?_ (by first | exact Nat.le_refl _ | omega | (simp; done) | (simp; omega)) _)))
    · by_cases h3 : c.s = c.lo
      · have E : Hid (sound c = (c.lo == c.hi)) := by show sound c = _; rw [E0, beq_iff]; simp [h1, h2, h3]
        clear E0
        go_enter Tryd.func53, Tryd.ntmps53
        go_wp2
        go_ret
        refine ⟨ret_bool E.out.symm, ?_⟩
        (repeat (first | with_reducible exact Below.refl _ _ | (with_reducible refine Below.drew ?_) | (with_reducible refine Below.alloc ?_ (by first | omega | (simp; done) | (simp; omega)) _) | (with_reducible refine Below.setCell ?_ (by first | exact Nat.le_refl _ | omega | (simp; done) | (simp; omega)) _)))
      · have E : Hid (sound c = false) := by show sound c = _; rw [E0]; simp [h1, h2, h3]
        clear E0
        go_enter Tryd.func53, Tryd.ntmps53
        go_wp2
        go_ret
        refine ⟨ret_bool E.out.symm, ?_⟩
        (repeat (first | with_reducible exact Below.refl _ _ | (with_reducible refine Below.drew ?_) | (with_reducible refine Below.alloc ?_ (by first | omega | (simp; done) | (simp; omega)) _) | (with_reducible refine Below.setCell ?_ (by first | exact Nat.le_refl _ | omega | (simp; done) | (simp; omega)) _)))
  · have E : Hid (sound c = false) := by show sound c = _; rw [E0]; simp [h1]
    clear E0
    go_enter Tryd.func53, Tryd.ntmps53
    go_wp2
    go_ret
    refine ⟨ret_bool E.out.symm, ?_⟩
    (repeat (first | with_reducible exact Below.refl _ _ | (with_reducible refine Below.drew ?_) | (with_reducible refine Below.alloc ?_ (by first | omega | (simp; done) | (simp; omega)) _) | (with_reducible refine Below.setCell ?_ (by first | exact Nat.le_refl _ | omega | (simp; done) | (simp; omega)) _)))
end Go.Proofs.YtgimknplckkiaaaDoor.cell
