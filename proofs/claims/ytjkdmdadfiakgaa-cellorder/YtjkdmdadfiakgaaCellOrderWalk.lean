/-
  The walk of the statement CellOrder.
-/
import Derived.Test.YtjkdmdadfiakgaaCellRow
import Derived.Deep.DeepCutAuto
namespace Go.Proofs.Ytjkdmdadfiakgaa.cell
open Go.ChangeShapes Go.WideShapes Go.ChangeAt Go.RowKit
set_option linter.unusedVariables false

/-- a front, and what is behind it -/
theorem Ints.front {w : World} {a : Option Addr} {xs : List Int} (n : Nat) (h : Ints w a xs) : Ints w a (xs.take n) := by
  rcases h with rfl | ⟨b, off, ha, hc⟩
  · exact .inl (by simp)
  · refine .inr ⟨b, off, ha, fun i hi => ?_⟩
    have hi1 : i < n := by simp at hi; omega
    have hi2 : i < xs.length := by simp at hi; omega
    rw [hc i hi2]
    simp [hi1]
theorem Ints.back {w : World} {a : Option Addr} {xs : List Int} (n : Nat) (h : Ints w a xs) : Ints w (Option.map (fun x => x.add n) a) (xs.drop n) := by
  rcases h with rfl | ⟨b, off, rfl, hc⟩
  · exact .inl (by simp)
  · refine .inr ⟨b, off + n, by by_cases e : n = 0 <;> simp [Addr.add, e], fun i hi => ?_⟩
    have hi2 : n + i < xs.length := by simp at hi; omega
    rw [show off + n + i = off + (n + i) by omega, hc _ hi2]
    simp

set_option maxHeartbeats 1000000 in
theorem order_walk (a : Option Addr) (len cap : Nat) (zs : List Int) (k : Int) (w : World) (h : IsRow w a len cap zs) (wk : (Lit.int .i64 k).wf = true) :
    Calls Try.prog 7 #[.slice a len cap, .int .i64 k] w fun e w' => e = .returned (.bool true) ∧ Below w.heap.size w w' := by
  obtain ⟨hi, hlen, hmax, hin⟩ := h.ints
  unfold maxLen at hmax
  have HI := hi
  by_cases hbig : 1000 < len
  · have hbig2 : (1000 : Int) < (len : Int) := by omega
    clear hi HI hlen hin h hmax
    go_enter Try.func7, Try.ntmps7
    go_wp2_with (go_at_call 12; refine (known_any _).mono ?_; rintro e w1 ⟨rfl, hb1⟩)
    go_ret
    exact ⟨rfl, hb1⟩
  · have hbig2 : ¬ (1000 : Int) < (len : Int) := by omega
    have hkk := in64_of_wf wk
    unfold In64 at hkk
    have HI : Hid (Ints w a (zs.take len) ∧ (zs.take len).length = len ∧ ∀ v ∈ zs.take len, In64 v) := ⟨hi, hlen, hin⟩
    have hcap : len ≤ cap := by rcases h with ⟨_, rfl, rfl, _⟩ | ⟨_, _, hl, _⟩ <;> omega
    clear hi hlen hin h wk hbig
    go_enter Try.func7, Try.ntmps7
    go_upto_region 3 with (go_at_call 12; refine (known_any _).mono ?_; rintro e w1 ⟨rfl, hb1⟩)
    go_cut [5] (fun s wc => ∃ n : Nat, n ≤ len ∧ s = .int .i64 n ∧ Below w.heap.size w wc)
    case first =>
      rcases (by omega : 0 < k ∨ k < 0 ∨ k = 0) with hk | hk | rfl
      · have hm1 := Int.emod_lt_of_pos k (show (0 : Int) < (len : Int) + 1 by omega)
        have hm0 := Int.emod_nonneg k (show (len : Int) + 1 ≠ 0 by omega)
        go_wp2
        go_meet
        case rel => exact ⟨(k % ((len : Int) + 1)).toNat, by omega, by rw [Int.toNat_of_nonneg hm0], hb1⟩
      · go_wp2
        go_meet
        case rel => exact ⟨0, by omega, rfl, hb1⟩
      · go_wp2
        all_goals
          go_meet
          case rel => exact ⟨0, by omega, rfl, hb1⟩
    case rest =>
      obtain ⟨n, hn, rfl, hB⟩ := hcut
      have h0 : (0 : Int) ≤ (n : Int) := by omega
      have h1 : (n : Int) ≤ (len : Int) := by omega
      have h2 : (n : Int) ≤ (cap : Int) := by omega
      go_wp2_with fail
      refine (all_any a n cap ((zs.take len).take n) _ ((HI.out.1.keep hB).front n) (by have := HI.out.2.1; simp at this ⊢; omega) (by omega)).mono ?_
      rintro e w2 ⟨rfl, hb2⟩
      have hB2 : Below w.heap.size w w2 := hB.trans (hb2.mono hB.size)
      clear hb2
      have hz2 := hB2.size
      go_wp2_with fail
      all_goals
        refine (all_any _ (len - n) _ ((zs.take len).drop n) _ ?_ (by have := HI.out.2.1; simp at this ⊢; omega) (by omega)).mono ?_
        · have hI := HI.out.1.keep hB2
          have hJ : Ints (w2.alloc (.cells #[.int .i64 (all ((zs.take len).take n)).n, .int .i64 (all ((zs.take len).take n)).s, .int .i64 (all ((zs.take len).take n)).lo, .int .i64 (all ((zs.take len).take n)).hi] 23)) a (zs.take len) := hI.keep ((Below.refl _ _).alloc (Nat.le_refl _) _)
          first | exact hJ.back n | exact .inl (by have := HI.out.2.1; simp at this ⊢; omega)
        rintro e w3 ⟨rfl, hb3⟩
        have hX : Has w3 w2.heap.size (all ((zs.take len).take n)).n (all ((zs.take len).take n)).s (all ((zs.take len).take n)).lo (all ((zs.take len).take n)).hi := keep4 hb3 (by simp) (by unfold Has; simp [go_sem])
        have hB3 : Below w.heap.size w w3 := by
          refine hB2.trans (Below.trans ?_ (hb3.mono (by simp; omega)))
          (repeat (first | with_reducible exact Below.refl _ _ | (with_reducible refine Below.drew ?_) | (with_reducible refine Below.alloc ?_ (by first | omega | (simp; done) | (simp; omega)) _) | (with_reducible refine Below.setCell ?_ (by first | exact Nat.le_refl _ | omega | (simp; done) | (simp; omega)) _)))
        have hz3 : w2.heap.size < w3.heap.size := by have := hb3.size; simp at this; omega
        clear hb3
        obtain ⟨x0, x1, x2, x3, _⟩ := hX
        go_wp2_with fail
        have hM := merge_any (all ((zs.take len).take n)) (all ((zs.take len).drop n)) (w3.alloc (.cells #[.int .i64 (all ((zs.take len).drop n)).n, .int .i64 (all ((zs.take len).drop n)).s, .int .i64 (all ((zs.take len).drop n)).lo, .int .i64 (all ((zs.take len).drop n)).hi] 23))
        rw [mrg_all _ _ (fun v hv => HI.out.2.2 v (List.mem_of_mem_take hv)) (fun v hv => HI.out.2.2 v (List.mem_of_mem_drop hv)) (by have := HI.out.2.1; simp at this ⊢; omega), List.take_append_drop] at hM
        refine hM.mono ?_
        rintro e w4 ⟨rfl, hb4⟩
        clear hM
        have hX : Has w4 w2.heap.size (all ((zs.take len).take n)).n (all ((zs.take len).take n)).s (all ((zs.take len).take n)).lo (all ((zs.take len).take n)).hi := keep4 hb4 (by simp; omega) (by unfold Has; simp [go_sem, *])
        have hY : Has w4 w3.heap.size (all ((zs.take len).drop n)).n (all ((zs.take len).drop n)).s (all ((zs.take len).drop n)).lo (all ((zs.take len).drop n)).hi := keep4 hb4 (by simp) (by unfold Has; simp [go_sem])
        have hB4 : Below w.heap.size w w4 := by
          refine hB3.trans (Below.trans ?_ (hb4.mono (by simp; omega)))
          (repeat (first | with_reducible exact Below.refl _ _ | (with_reducible refine Below.drew ?_) | (with_reducible refine Below.alloc ?_ (by first | omega | (simp; done) | (simp; omega)) _) | (with_reducible refine Below.setCell ?_ (by first | exact Nat.le_refl _ | omega | (simp; done) | (simp; omega)) _)))
        have hz4 : w3.heap.size < w4.heap.size := by have := hb4.size; simp at this; omega
        have HX : Hid (Has w4 w2.heap.size (all ((zs.take len).take n)).n (all ((zs.take len).take n)).s (all ((zs.take len).take n)).lo (all ((zs.take len).take n)).hi ∧ Has w4 w3.heap.size (all ((zs.take len).drop n)).n (all ((zs.take len).drop n)).s (all ((zs.take len).drop n)).lo (all ((zs.take len).drop n)).hi) := ⟨hX, hY⟩
        clear hb4 hX hY x0 x1 x2 x3
        go_wp2_with fail
        refine (all_any a len _ (zs.take len) _ (HI.out.1.keep hB4) HI.out.2.1 (by omega)).mono ?_
        rintro e w5 ⟨rfl, hb5⟩
        obtain ⟨x0, x1, x2, x3, _⟩ := keep4 hb5 (by omega) HX.out.1
        obtain ⟨y0, y1, y2, y3, _⟩ := keep4 hb5 (by omega) HX.out.2
        have hB5 : Below w.heap.size w w5 := hB4.trans (hb5.mono hB4.size)
        clear hb5
        go_wp2_with fail
        have hM := merge_any (all ((zs.take len).drop n)) (all ((zs.take len).take n)) w5
        rw [mrg_comm _ _ (all_zero _ (fun v hv => HI.out.2.2 v (List.mem_of_mem_drop hv)) (by have := HI.out.2.1; simp at this ⊢; omega)) (all_zero _ (fun v hv => HI.out.2.2 v (List.mem_of_mem_take hv)) (by have := HI.out.2.1; simp at this ⊢; omega)),
          mrg_all _ _ (fun v hv => HI.out.2.2 v (List.mem_of_mem_take hv)) (fun v hv => HI.out.2.2 v (List.mem_of_mem_drop hv)) (by have := HI.out.2.1; simp at this ⊢; omega), List.take_append_drop] at hM
        refine hM.mono ?_
        rintro e w6 ⟨rfl, hb6⟩
        clear hM
        have hB6 : Below w.heap.size w w6 := hB5.trans (hb6.mono hB5.size)
        go_wp2_with fail
        refine (all_any a len _ (zs.take len) _ (HI.out.1.keep hB6) HI.out.2.1 (by omega)).mono ?_
        rintro e w7 ⟨rfl, hb7⟩
        have hB7 : Below w.heap.size w w7 := hB6.trans (hb7.mono hB6.size)
        go_wp2
        go_ret
        exact ⟨rfl, hB7⟩
end Go.Proofs.Ytjkdmdadfiakgaa.cell
