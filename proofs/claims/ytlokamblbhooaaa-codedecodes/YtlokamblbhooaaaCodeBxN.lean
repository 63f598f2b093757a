/-
  The chapter's reader: nodes.
-/
import Derived.Test.YtlokamblbhooaaaCodeBxK
import Derived.Test.YtlokamblbhooaaaCodeReadAll
namespace Go.Proofs.Ytlokamblbhooaaa.code
open Go.ChangeShapes Go.WideShapes Go.ChangeAt Go.RowKit Go.Deep
open Go.Proofs.Ytlokamblbhooaaa.dims (nth Ints cell_lt vals vals_len vals_get vals_one vals_app own_below own_mono own_out own_apart RowOut ret_bool ret_int)
set_option linter.unusedVariables false
set_option maxRecDepth 100000
set_option linter.unusedSimpArgs false

theorem rdGet_lt4 {k : Nat} (s : Rd) (h4 : k ≤ 4) : (rdGet k s).1 < 4294967296 := by
  unfold rdGet
  split
  · simp
  · have h2 := valB_lt (s.1.take k)
    have h3 : 256 ^ (s.1.take k).length ≤ 256 ^ 4 := Nat.pow_le_pow_right (by omega) (by rw [List.length_take]; omega)
    have h5 : (256 : Nat) ^ 4 = 4294967296 := by decide
    simp only; omega
theorem rdTimes_step {α : Type} {p : Rd → α × Rd} {n j : Nat} {s0 sk : Rd} {xs : List α} (h : rdTimes p n s0 = (xs ++ (rdTimes p (j + 1) sk).1, (rdTimes p (j + 1) sk).2)) :
    rdTimes p n s0 = ((xs ++ [(p sk).1]) ++ (rdTimes p j (p sk).2).1, (rdTimes p j (p sk).2).2) := by
  rw [h]
  simp [rdTimes]
theorem rdTimes_end {α : Type} {p : Rd → α × Rd} {n : Nat} {s0 sk : Rd} {xs : List α} (h : rdTimes p n s0 = (xs ++ (rdTimes p 0 sk).1, (rdTimes p 0 sk).2)) : rdTimes p n s0 = (xs, sk) := by
  rw [h]
  simp [rdTimes]

set_option maxHeartbeats 8000000 in
theorem nodes_rd (R B : Nat) (w : World) (s : Rd) (hB : B ≤ w.heap.size) (hR : BxL R w s) (hl : s.1.length ≤ 60000) :
    Calls Try.prog 69 #[.pointer (some ⟨R, 0, none⟩)] w fun e w' => ∃ v, e = .returned v ∧ NsOwn B w' v (rdNodes s).1 ∧ Wb R w w' (rdNodes s).2 := by
  obtain ⟨i0, hi, hz0, hz1, hz2⟩ := info_parts info_int2
  have hRlt := hR.lt
  have hM := many_any R 1 1 w s hR (by omega) (by omega) (by omega) (by omega) hl
  have h2 := rdMany_len 1 1 s
  have h3 := rdMany_le 1 1 s
  unfold rdNodes
  generalize rdMany 1 1 s = g at hM h2 h3 ⊢
  obtain ⟨n, s1⟩ := g
  simp only at hM h2 h3 ⊢
  have hn6 : n ≤ 60000 := by omega
  have H : Aside (B ≤ w.heap.size ∧ s1.1.length ≤ 60000) := ⟨hB, by omega⟩
  clear hB hR h2 h3 hl
  go_enter Try.func69, Try.ntmps69
  go_wp2_with (go_at_call 71; refine hM.mono ?_; rintro e w1 ⟨rfl, hW1⟩; refine Hid.out ?_)
  refine hid ?_
  have HW1 : Aside (Wb R w w1 s1) := hW1
  clear hM hW1
  go_wp2_with fail
  go_loopg [3, 5] n (fun g1 vv vi wr => ∃ (k : Nat), vi = .int .i64 k ∧ k ≤ n ∧ n - k ≤ g1 ∧ Aside (∃ (xs : List Int) (sk : Rd), xs.length = k ∧ wr.ownsRow w.heap.size 3 1 vv k (vals xs) ∧ (∀ x ∈ xs, I64 x) ∧ Wb R w wr sk ∧ sk.1.length ≤ 60000 ∧ rdTimes (rdInt 1) n s1 = (xs ++ (rdTimes (rdInt 1) (n - k) sk).1, (rdTimes (rdInt 1) (n - k) sk).2)))
  case atStart => exact ⟨0, rfl, Nat.zero_le _, Nat.le_refl _, [], s1, rfl, World.ownsRow_nil _ _ _ _, by simp, HW1.out, H.out.2, by simp⟩
  case round =>
    obtain ⟨k, rfl, hk, hgk, SK⟩ := hrel
    by_cases hlt : k < n
    · have hltz : (k : Int) < (n : Int) := by omega
      obtain ⟨xs, sk, hx1, hx2, hx3, hx4, hx5, hx6⟩ := SK.out
      obtain ⟨j, hj⟩ : ∃ j, n - k = j + 1 := ⟨n - k - 1, by omega⟩
      rw [hj] at hx6
      have hG := get_any R 1 wr sk hx4.rdr (by omega) (by omega)
      have hm4 := rdGet_lt4 sk (k := 1) (by omega)
      have hlen := rdGet_len 1 sk
      have hx7 := rdTimes_step hx6
      unfold rdInt at hx7
      obtain ⟨m, hm⟩ : ∃ m, (rdGet 1 sk).1 = m := ⟨_, rfl⟩
      obtain ⟨s2, hs2⟩ : ∃ s2, (rdGet 1 sk).2 = s2 := ⟨_, rfl⟩
      rw [hm, hs2] at hx7 hG
      rw [hm] at hm4
      rw [hs2] at hlen
      have hmw : wrap64 (m : Int) = (m : Int) := by unfold wrap64; omega
      have HS : Aside (xs.length = k ∧ wr.ownsRow w.heap.size 3 1 u3 k (vals xs) ∧ (∀ x ∈ xs, I64 x) ∧ Wb R w wr sk ∧ s2.1.length ≤ 60000 ∧ rdTimes (rdInt 1) n s1 = ((xs ++ [(m : Int)]) ++ (rdTimes (rdInt 1) j s2).1, (rdTimes (rdInt 1) j s2).2)) := ⟨hx1, hx2, hx3, hx4, by omega, hx7⟩
      have HJ : Hid (n - k = j + 1) := hj
      clear SK hx1 hx2 hx3 hx4 hx5 hx6 hx7 hj hlen hm hs2
      go_wp2_with (go_at_call 68; refine hG.mono ?_; rintro e w2 ⟨rfl, hW2⟩; refine Hid.out ?_)
      refine hid ?_
      have hWW : Aside (Wb R w w2 s2) := HS.out.2.2.2.1.trans hW2
      have hbz : w.heap.size ≤ w2.heap.size := hWW.out.grown.size
      have hown2 : w2.ownsRow w.heap.size 3 1 u3 k (vals xs) := own_far HS.out.2.1 hW2.grown (HS.out.2.2.2.1.rdr.far (by decide))
      clear hW2 hG
      go_wp2_with (at_builtin; refine wpList_append_lies _ rfl _ _ 23 rfl w.heap.size 3 i0 _ 1 8 Try.underlying23 hi hz0 hz1 hz2 rfl (by decide) _ k _ rfl (hown2.alloc _) ⟨w2.heap.size, 0, none⟩ 1 1 [Value.int .i64 m] rfl rfl (cell_one_new _ _ _) (by intro u hu; simp at hu; first | (rcases hu with rfl | rfl <;> rfl) | (subst hu; rfl)) (by omega) (by unfold maxLen; omega) (by omega) (by simp; omega) (w2.heap.size + 1) (by simp) ?_; intro g c3 w3 hown3 hgrow hat hglt)
      have S3 : Aside (∃ (xs : List Int) (sk : Rd), xs.length = k + 1 ∧ w3.ownsRow w.heap.size 3 1 (.slice (some ⟨g, 0, none⟩) (k + 1) c3) (k + 1) (vals xs) ∧ (∀ x ∈ xs, I64 x) ∧ Wb R w w3 sk ∧ sk.1.length ≤ 60000 ∧ rdTimes (rdInt 1) n s1 = (xs ++ (rdTimes (rdInt 1) (n - (k + 1)) sk).1, (rdTimes (rdInt 1) (n - (k + 1)) sk).2)) := by
        obtain ⟨a1, a2, a3, a4, a5, a6⟩ := HS.out
        refine ⟨xs ++ [(m : Int)], s2, by simp [a1], ?_, fun x hx => ?_, (hWW.out.below (by (repeat (first | with_reducible exact Below.refl _ _ | (with_reducible refine Below.drew ?_) | (with_reducible refine Below.alloc ?_ (by first | omega | (simp; done) | (simp; omega)) _) | (with_reducible refine Below.setCell ?_ (by first | exact Nat.le_refl _ | omega | (simp; done) | (simp; omega)) _)))) hRlt).row hgrow (fun q hq => (hown2.lt q hq).1) hRlt, a5, ?_⟩
        · have e1 : vals (xs ++ [(m : Int)]) = vals xs ++ [Value.int .i64 m] := by simp [vals]
          rw [e1]; exact hown3
        · rcases List.mem_append.1 hx with hx | hx
          · exact a3 x hx
          · simp only [List.mem_singleton] at hx
            subst hx
            unfold I64; omega
        · rw [show n - (k + 1) = j by have := HJ.out; omega]
          exact a6
      clear hown3 hgrow hat hglt hown2
      go_wp2
      go_roundg (n - (k + 1))
      case measure => omega
      case rel => exact ⟨k + 1, by go_num, by omega, by omega, S3⟩
    · have hltz : ¬ (k : Int) < (n : Int) := by omega
      have S3 : Aside (∃ (xs : List Int) (sk : Rd), xs.length = k ∧ wr.ownsRow w.heap.size 3 1 u3 k (vals xs) ∧ (∀ x ∈ xs, I64 x) ∧ Wb R w wr sk ∧ rdTimes (rdInt 1) n s1 = (xs, sk)) := by
        obtain ⟨xs, sk, a1, a2, a3, a4, a5, a6⟩ := SK.out
        refine ⟨xs, sk, a1, a2, a3, a4, ?_⟩
        rw [show n - k = 0 by omega] at a6
        exact rdTimes_end a6
      clear SK
      go_wp2
      go_ret
      obtain ⟨xs, sk, a1, a2, a3, a4, a5⟩ := S3.out
      rw [a5]
      rw [← a1] at a2
      exact ⟨_, rfl, ⟨own_mono a2 H.out.1, a3⟩, a4⟩
end Go.Proofs.Ytlokamblbhooaaa.code
