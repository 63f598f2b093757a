/-
  The contracts of cell.Merge, of the chapter's Merge, and of cell.Sound and the chapter's Sound.
-/
import Derived.Test.YthdknjndcahhoaaDoorCellTake
import Derived.Test.YthdknjndcahhoaaDoorCellMath
import Derived.Deep.QuietTactic
import Derived.BigQuiet
import Derived.Deep.RegionWith
namespace Go.Proofs.YthdknjndcahhoaaDoor.cell
open Go.ChangeShapes Go.WideShapes Go.ChangeAt Go.RowKit
set_option linter.unusedVariables false
set_option maxRecDepth 100000

abbrev val (c : C4) : Value := .agg #[.int .i64 c.n, .int .i64 c.s, .int .i64 c.lo, .int .i64 c.hi]

theorem beq_iff (a b : Int) : (a == b) = decide (a = b) := by by_cases h : a = b <;> simp [h]

theorem take_any (b : Nat) (c d : C4) (w : World) (hb : b < w.heap.size) (h : Has w b c.n c.s c.lo c.hi) :
    Calls Tryd.prog 63 #[.pointer (some ⟨b, 0, none⟩), .agg #[.int .i64 d.n, .int .i64 d.s, .int .i64 d.lo, .int .i64 d.hi]] w fun e w' => e = .returned (.tuple #[]) ∧ Below b w w' ∧ Has w' b (mrg c d).n (mrg c d).s (mrg c d).lo (mrg c d).hi := by
  unfold mrg
  by_cases hn : c.n = 0
  · rw [if_pos hn]
    exact take_first b c.n c.s c.lo c.hi d.n d.s d.lo d.hi w hb h (by simpa using hn)
  · rw [if_neg hn]
    by_cases hn' : d.n = 0
    · rw [if_pos hn']
      exact take_none b c.n c.s c.lo c.hi d.n d.s d.lo d.hi w hb h (by simpa using hn) (by simpa using hn')
    · rw [if_neg hn']
      exact take_both b c.n c.s c.lo c.hi d.n d.s d.lo d.hi w hb h (by simpa using hn) (by simpa using hn')

theorem keep4 {W w1 : World} {B b : Nat} {n s lo hi : Int} (hb : Below B W w1) (h : b < B) (hh : Has W b n s lo hi) : Has w1 b n s lo hi := by
  obtain ⟨c0, c1, c2, c3, f0, f1, f2, f3⟩ := hh
  exact ⟨(hb.cell h).trans c0, (hb.cell h).trans c1, (hb.cell h).trans c2, (hb.cell h).trans c3, (hb.frozen h).trans f0, (hb.frozen h).trans f1, (hb.frozen h).trans f2, (hb.frozen h).trans f3⟩

theorem merge_any (c d : C4) (w : World) :
    Calls Tryd.prog 46 #[.agg #[.int .i64 c.n, .int .i64 c.s, .int .i64 c.lo, .int .i64 c.hi], .agg #[.int .i64 d.n, .int .i64 d.s, .int .i64 d.lo, .int .i64 d.hi]] w fun e w' => e = .returned (val (mrg c d)) ∧ Below w.heap.size w w' := by
  go_enter Tryd.func46, Tryd.ntmps46
  go_wp2_with fail
  refine (take_any _ c d _ ?_ ?_).mono ?_
  · simp
  · unfold Has; simp [go_sem]
  rintro e w1 ⟨rfl, hb, h⟩
  obtain ⟨c0, c1, c2, c3, f0, f1, f2, f3⟩ := h
  have hr : Has w1 (w.heap.size + 1 + 1) 0 0 0 0 := keep4 hb (by omega) (by unfold Has; simp [go_sem])
  obtain ⟨r0, r1, r2, r3, g0, g1, g2, g3⟩ := hr
  have hB : Below w.heap.size w w1 := by
    refine Below.trans ?_ (hb.mono (by omega))
    (repeat (first | with_reducible exact Below.refl _ _ | (with_reducible refine Below.drew ?_) | (with_reducible refine Below.alloc ?_ (by first | omega | (simp; done) | (simp; omega)) _) | (with_reducible refine Below.setCell ?_ (by first | exact Nat.le_refl _ | omega | (simp; done) | (simp; omega)) _)))
  clear hb
  go_wp2
  refine bodyPost_ret (v := val (mrg c d)) (by simp [results, Tryd.results46, go_sem, *]) rfl ⟨rfl, ?_⟩
  refine Below.trans hB ?_
  (repeat (first | with_reducible exact Below.refl _ _ | (with_reducible refine Below.drew ?_) | (with_reducible refine Below.alloc ?_ (by first | omega | (simp; done) | (simp; omega)) _) | (with_reducible refine Below.setCell ?_ (by first | exact Nat.le_refl _ | omega | (simp; done) | (simp; omega)) _)))

theorem refMerge_any (c d : C4) (w : World) :
    Calls Tryd.prog 44 #[.agg #[.int .i64 c.n, .int .i64 c.s, .int .i64 c.lo, .int .i64 c.hi], .agg #[.int .i64 d.n, .int .i64 d.s, .int .i64 d.lo, .int .i64 d.hi]] w fun e w' => e = .returned (val (mrg c d)) ∧ Below w.heap.size w w' := by
  unfold mrg
  by_cases hn : c.n = 0
  · rw [if_pos hn]
    have hn1 : (c.n == 0) = true := by simpa using hn
    clear hn
    go_enter Tryd.func44, Tryd.ntmps44
    go_wp2
    refine bodyPost_ret (v := val d) (by simp [results, Tryd.results44, go_sem]) rfl ⟨rfl, ?_⟩
    (repeat (first | with_reducible exact Below.refl _ _ | (with_reducible refine Below.drew ?_) | (with_reducible refine Below.alloc ?_ (by first | omega | (simp; done) | (simp; omega)) _) | (with_reducible refine Below.setCell ?_ (by first | exact Nat.le_refl _ | omega | (simp; done) | (simp; omega)) _)))
  rw [if_neg hn]
  have hn1 : (c.n == 0) = false := by simpa using hn
  clear hn
  by_cases hn : d.n = 0
  · rw [if_pos hn]
    have hn2 : (d.n == 0) = true := by simpa using hn
    clear hn
    go_enter Tryd.func44, Tryd.ntmps44
    go_wp2
    refine bodyPost_ret (v := val c) (by simp [results, Tryd.results44, go_sem]) rfl ⟨rfl, ?_⟩
    (repeat (first | with_reducible exact Below.refl _ _ | (with_reducible refine Below.drew ?_) | (with_reducible refine Below.alloc ?_ (by first | omega | (simp; done) | (simp; omega)) _) | (with_reducible refine Below.setCell ?_ (by first | exact Nat.le_refl _ | omega | (simp; done) | (simp; omega)) _)))
  rw [if_neg hn]
  have hn2 : (d.n == 0) = false := by simpa using hn
  clear hn
  by_cases hlo : d.lo < c.lo <;> by_cases hhi : c.hi < d.hi
  all_goals
    go_enter Tryd.func44, Tryd.ntmps44
    go_wp2
    refine bodyPost_ret (v := val ⟨wrap64 (c.n + d.n), wrap64 (c.s + d.s), min c.lo d.lo, max c.hi d.hi⟩) (by simp [results, Tryd.results44, go_sem]; omega) rfl ⟨rfl, ?_⟩
    (repeat (first | with_reducible exact Below.refl _ _ | (with_reducible refine Below.drew ?_) | (with_reducible refine Below.alloc ?_ (by first | omega | (simp; done) | (simp; omega)) _) | (with_reducible refine Below.setCell ?_ (by first | exact Nat.le_refl _ | omega | (simp; done) | (simp; omega)) _)))
end Go.Proofs.YthdknjndcahhoaaDoor.cell
