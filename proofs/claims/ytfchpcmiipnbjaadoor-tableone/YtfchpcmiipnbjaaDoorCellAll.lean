/-
  The contracts of cell.All and of the chapter's All: loops over a list of numbers that is read and left alone.
-/
import Derived.Test.YtfchpcmiipnbjaaDoorCellJ
import Derived.Deep.LoopGhost
import Derived.Deep.DeepCutAuto
namespace Go.Proofs.YtfchpcmiipnbjaaDoor.cell
open Go.ChangeShapes Go.WideShapes Go.ChangeAt Go.RowKit
set_option linter.unusedVariables false
set_option maxRecDepth 100000

/-- a list of numbers that can be read at an address -/
def Ints (w : World) (a : Option Addr) (xs : List Int) : Prop :=
  xs = [] ∨ ∃ b off, a = some ⟨b, off, none⟩ ∧ ∀ i, i < xs.length → w.cell? ⟨b, off + i, none⟩ = some (.int .i64 (xs.getD i 0))

theorem Ints.keep {w w1 : World} {a : Option Addr} {xs : List Int} (h : Ints w a xs) (hb : Below w.heap.size w w1) : Ints w1 a xs := by
  rcases h with h | ⟨b, off, ha, hc⟩
  · exact .inl h
  · exact .inr ⟨b, off, ha, fun i hi => (hb.cell (block_lt_of_cell (hc i hi))).trans (hc i hi)⟩

theorem take_snoc (xs : List Int) (k : Nat) (h : k < xs.length) : xs.take (k + 1) = xs.take k ++ [xs.getD k 0] := by
  rw [List.take_succ_eq_append_getElem h]
  simp [h]

theorem all_step (xs : List Int) (k : Nat) (h : k < xs.length) : mrg (all (xs.take k)) (one (xs.getD k 0)) = all (xs.take (k + 1)) := by
  rw [take_snoc xs k h, all_snoc]

set_option maxHeartbeats 1000000 in
theorem refAll_some (b off cap n : Nat) (xs : List Int) (w : World) (hn : xs.length = n) (hm : n ≤ 9223372036854775806)
    (hc : ∀ i, i < n → w.cell? ⟨b, off + i, none⟩ = some (.int .i64 (xs.getD i 0))) :
    Calls Tryd.prog 27 #[.slice (some ⟨b, off, none⟩) n cap] w fun e w' => e = .returned (val (all xs)) ∧ Below w.heap.size w w' := by
  have HN : Hid (xs.length = n) := hn
  clear hn
  go_enter Tryd.func27, Tryd.ntmps27
  go_wp2
  go_loopg [4] n (fun gk i wr => ∃ k : Nat, k + gk = n ∧ i = .int .i64 k ∧ Has wr (w.heap.size + 1) (all (xs.take k)).n (all (xs.take k)).s (all (xs.take k)).lo (all (xs.take k)).hi ∧ Has wr w.heap.size 0 0 0 0 ∧ Below w.heap.size w wr ∧ w.heap.size + 2 ≤ wr.heap.size)
  case atStart =>
    refine ⟨0, by omega, rfl, ?_, ?_, ?_, by simp⟩
    · unfold Has; simp [go_sem, all, allOn, zero]
    · unfold Has; simp [go_sem]
    · (repeat (first | with_reducible exact Below.refl _ _ | (with_reducible refine Below.drew ?_) | (with_reducible refine Below.alloc ?_ (by first | omega | (simp; done) | (simp; omega)) _) | (with_reducible refine Below.setCell ?_ (by first | exact Nat.le_refl _ | omega | (simp; done) | (simp; omega)) _)))
  case round =>
    obtain ⟨k, hk, rfl, hp, hr, hB, hz⟩ := hrel
    by_cases hlt : k < n
    · have hck : wr.cell? ⟨b, off + k, none⟩ = some (.int .i64 (xs.getD k 0)) := (hB.cell (block_lt_of_cell (hc k hlt))).trans (hc k hlt)
      have hlt2 : (k : Int) < (n : Int) := by omega
      obtain ⟨p0, p1, p2, p3, q0, q1, q2, q3⟩ := hp
      have HK : Hid (k + gk = n) := hk
      clear hc hk
      have hzz : w.heap.size + 1 < wr.heap.size := by omega
      have hzy : w.heap.size < wr.heap.size := by omega
      go_wp2_with fail
      go_region_with (first | (go_at_call 35; refine (refOf_any _ _).mono ?_; rintro e w1 ⟨rfl, rfl⟩) | (go_at_call 44; refine (refMerge_any (all (xs.take k)) ⟨1, xs[k]?.getD 0, xs[k]?.getD 0, xs[k]?.getD 0⟩ _).mono ?_; rintro e w1 ⟨rfl, hb1⟩; have hk1 : Has w1 (w.heap.size + 1) (all (xs.take k)).n (all (xs.take k)).s (all (xs.take k)).lo (all (xs.take k)).hi := keep4 hb1 (by simp; omega) (by unfold Has; simp [go_sem, *]); obtain ⟨s0, s1, s2, s3, t0, t1, t2, t3⟩ := hk1))
      all_goals
        have hB1 : Below w.heap.size wr w1 := by
          refine Below.trans ?_ (hb1.mono (by simp; omega))
          (repeat (first | with_reducible exact Below.refl _ _ | (with_reducible refine Below.drew ?_) | (with_reducible refine Below.alloc ?_ (by first | omega | (simp; done) | (simp; omega)) _) | (with_reducible refine Below.setCell ?_ (by first | exact Nat.le_refl _ | omega | (simp; done) | (simp; omega)) _)))
        have hr1 : Has w1 w.heap.size 0 0 0 0 := keep4 hb1 (by simp; omega) (by obtain ⟨r0, r1, r2, r3, g0, g1, g2, g3⟩ := hr; unfold Has; simp [go_sem, *])
        have hsz1 : w.heap.size + 2 ≤ w1.heap.size := by have := hb1.size; simp at this; omega
        have HR : Hid (Below w.heap.size wr w1 ∧ Has w1 w.heap.size 0 0 0 0 ∧ w.heap.size + 2 ≤ w1.heap.size) := ⟨hB1, hr1, hsz1⟩
        clear hB1 hr1 hb1
        go_wp2
        go_roundg (gk - 1)
        case measure => have := HK.out; omega
        case rel =>
          obtain ⟨hB1, hr1, hsz1⟩ := HR.out
          refine ⟨k + 1, by have := HK.out; omega, by go_num, ?_, ?_, ?_, ?_⟩
          · rw [← all_step xs k (by have := HN.out; omega)]
            unfold Has
            simp [go_sem, one, *]
          · obtain ⟨r0, r1, r2, r3, g0, g1, g2, g3⟩ := hr1
            unfold Has
            simp [go_sem, *]
          · refine Below.trans hB (Below.trans hB1 ?_)
            (repeat (first | with_reducible exact Below.refl _ _ | (with_reducible refine Below.drew ?_) | (with_reducible refine Below.alloc ?_ (by first | omega | (simp; done) | (simp; omega)) _) | (with_reducible refine Below.setCell ?_ (by first | exact Nat.le_refl _ | omega | (simp; done) | (simp; omega)) _)))
          · simp; omega
    · have hk2 : k = n := by omega
      have E : Hid (xs.take k = xs) := by show xs.take k = xs; rw [List.take_of_length_le (by have := HN.out; omega)]
      subst hk2
      obtain ⟨p0, p1, p2, p3, q0, q1, q2, q3⟩ := hp
      obtain ⟨r0, r1, r2, r3, g0, g1, g2, g3⟩ := hr
      have hz1 : w.heap.size < wr.heap.size := by omega
      go_wp2
      refine bodyPost_ret (v := val (all (xs.take k))) (by simp [results, Tryd.results27, go_sem, *]) rfl ⟨by rw [E.out], ?_⟩
      refine Below.trans hB ?_
      (repeat (first | with_reducible exact Below.refl _ _ | (with_reducible refine Below.drew ?_) | (with_reducible refine Below.alloc ?_ (by first | omega | (simp; done) | (simp; omega)) _) | (with_reducible refine Below.setCell ?_ (by first | exact Nat.le_refl _ | omega | (simp; done) | (simp; omega)) _)))

set_option maxHeartbeats 1000000 in
theorem refAll_none (a : Option Addr) (cap : Nat) (w : World) :
    Calls Tryd.prog 27 #[.slice a 0 cap] w fun e w' => e = .returned (val (all [])) ∧ Below w.heap.size w w' := by
  go_enter Tryd.func27, Tryd.ntmps27
  go_wp2
  go_loopg [4] 0 (fun gk i wr => i = .int .i64 0 ∧ Has wr (w.heap.size + 1) 0 0 0 0 ∧ Has wr w.heap.size 0 0 0 0 ∧ Below w.heap.size w wr ∧ w.heap.size + 2 ≤ wr.heap.size)
  case atStart =>
    refine ⟨rfl, ?_, ?_, ?_, by simp⟩
    · unfold Has; simp [go_sem]
    · unfold Has; simp [go_sem]
    · (repeat (first | with_reducible exact Below.refl _ _ | (with_reducible refine Below.drew ?_) | (with_reducible refine Below.alloc ?_ (by first | omega | (simp; done) | (simp; omega)) _) | (with_reducible refine Below.setCell ?_ (by first | exact Nat.le_refl _ | omega | (simp; done) | (simp; omega)) _)))
  case round =>
    obtain ⟨rfl, hp, hr, hB, hz⟩ := hrel
    obtain ⟨p0, p1, p2, p3, q0, q1, q2, q3⟩ := hp
    obtain ⟨r0, r1, r2, r3, g0, g1, g2, g3⟩ := hr
    have hz1 : w.heap.size < wr.heap.size := by omega
    go_wp2
    refine bodyPost_ret (v := val zero) (by simp [results, Tryd.results27, go_sem, zero, *]) rfl ⟨rfl, ?_⟩
    refine Below.trans hB ?_
    (repeat (first | with_reducible exact Below.refl _ _ | (with_reducible refine Below.drew ?_) | (with_reducible refine Below.alloc ?_ (by first | omega | (simp; done) | (simp; omega)) _) | (with_reducible refine Below.setCell ?_ (by first | exact Nat.le_refl _ | omega | (simp; done) | (simp; omega)) _)))

theorem refAll_any (a : Option Addr) (n cap : Nat) (xs : List Int) (w : World) (h : Ints w a xs) (hn : xs.length = n) (hm : n ≤ 9223372036854775806) :
    Calls Tryd.prog 27 #[.slice a n cap] w fun e w' => e = .returned (val (all xs)) ∧ Below w.heap.size w w' := by
  rcases h with rfl | ⟨b, off, rfl, hc⟩
  · simp at hn; subst hn; exact refAll_none a cap w
  · exact refAll_some b off cap n xs w hn hm (by rw [← hn]; exact hc)
end Go.Proofs.YtfchpcmiipnbjaaDoor.cell
