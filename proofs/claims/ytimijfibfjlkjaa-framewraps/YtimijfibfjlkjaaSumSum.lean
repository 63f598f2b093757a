/-
  The contracts of Sum and of the chapter's own Sum.
-/
import Derived.Test.YtimijfibfjlkjaaSumEach
namespace Go.Proofs.Ytimijfibfjlkjaa.sum
open Go.ChangeShapes Go.WideShapes Go.ChangeAt Go.RowKit Go.Deep
open Go.Proofs.Ytimijfibfjlkjaa.bytes
set_option linter.unusedVariables false
set_option maxRecDepth 100000

set_option maxHeartbeats 4000000 in
theorem sum_any (n c : Nat) (a : Option Addr) (ls : List Lr) (w : World) (hL : ListsIn w a ls) (hn : ls.length = n) (hm : n ≤ 9223372036854775807) (hl : ∀ x ∈ ls, x.l.length ≤ 9223372036854775807) :
    Calls Try.prog 25 #[.slice a n c] w fun e w' => e = .returned (.int .u32 (sumB (flat ls) : Nat)) ∧ Below w.heap.size w w' := by
  have hb := (Below.refl w.heap.size w).alloc (Nat.le_refl _) (.cells #[.int .u32 1, .int .u32 0] 61)
  have hS : ES w w.heap.size (w.alloc (.cells #[.int .u32 1, .int .u32 0] 61)) (1, 0) :=
    ⟨hb, by unfold Has2; simp [go_sem], by simp, start_low⟩
  have hC := each_any w.heap.size n c a ls w _ (1, 0) hL hn hm hl (Nat.le_refl _) hS
  have HT : Aside (sumB (flat ls) = (run (1, 0) (flat ls)).2 * 65536 + (run (1, 0) (flat ls)).1) := rfl
  obtain ⟨t, ht⟩ : ∃ t, run (1, 0) (flat ls) = t := ⟨_, rfl⟩
  rw [ht] at hC HT
  clear hS hb hL hn hm hl ht
  go_enter Try.func25, Try.ntmps25
  go_wp2_with (go_at_call 29; refine hC.mono ?_; rintro e w1 ⟨rfl, hE⟩; refine Hid.out ?_)
  refine hid ?_
  obtain ⟨c0, c1, f0, f1⟩ := hE.box
  have hw := whole_any t.1 t.2 w1 hE.low.1 hE.low.2
  have HE : Aside (Below w.heap.size w w1) := hE.bel
  have hlt := hE.lt
  clear hC hE
  go_wp2_with (go_at_call 31; refine hw.mono ?_; rintro e w2 ⟨rfl, hb2⟩)
  go_ret
  exact ⟨ret_u32 (by rw [HT.out]; omega), HE.out.trans (hb2.mono HE.out.size)⟩

set_option maxHeartbeats 4000000 in
theorem refSum_any (n c : Nat) (a : Option Addr) (ls : List Lr) (w : World) (hL : ListsIn w a ls) (hn : ls.length = n) (hm : n ≤ 9223372036854775807) (hl : ∀ x ∈ ls, x.l.length ≤ 9223372036854775807) :
    Calls Try.prog 23 #[.slice a n c] w fun e w' => e = .returned (.int .u32 (sumB (flat ls) : Nat)) ∧ Below w.heap.size w w' := by
  have HH : Aside (ListsIn w a ls ∧ ls.length = n ∧ (∀ x ∈ ls, x.l.length ≤ 9223372036854775807)) := ⟨hL, hn, hl⟩
  clear hL hn hl
  go_enter Try.func23, Try.ntmps23
  go_wp2_with fail
  go_loopg [3, 4, 5, 6] n (fun g1 va vb vi vk wr => ∃ (k x y : Nat), vi = .int .i64 k ∧ va = .int .u32 x ∧ vb = .int .u32 y ∧ k ≤ n ∧ n - k ≤ g1 ∧ Aside (wr = w ∧ run (1, 0) (flat (ls.take k)) = (x, y)))
  case atStart => exact ⟨0, 1, 0, rfl, rfl, rfl, Nat.zero_le _, Nat.le_refl _, rfl, rfl⟩
  case round =>
    obtain ⟨k, x, y, rfl, rfl, rfl, hk, hg1, SK⟩ := hrel
    by_cases hlt : k < n
    · have hltz : (k : Int) < (n : Int) := by omega
      have hkl : k < ls.length := by rw [HH.out.2.1]; exact hlt
      obtain ⟨b, off, ha, hc⟩ := HH.out.1.get hkl
      subst ha
      have R0 : Aside (∃ la lc l, w.cell? ⟨b, off + k, none⟩ = some (.slice la l.length lc) ∧ ByIn w la l ∧ l.length ≤ 9223372036854775807 ∧ run (1, 0) (flat (ls.take (k + 1))) = run (x, y) l ∧ Low (x, y)) := by
        refine ⟨_, _, (ln ls k).l, (hc k hkl).1, (hc k hkl).2, HH.out.2.2 _ (by rw [ln_eq hkl]; exact List.getElem_mem _), ?_, ?_⟩
        · rw [flat_take hkl, run_append, SK.out.2]
        · rw [← SK.out.2]; exact run_low _ start_low
      clear hc
      have HW : Aside (wr = w) := SK.out.1
      clear SK
      obtain ⟨la, lc, l, R⟩ := R0.out
      clear R0
      obtain ⟨m, hmm⟩ : ∃ m, l.length = m := ⟨_, rfl⟩
      have hml : m ≤ 9223372036854775807 := by rw [← hmm]; exact R.2.2.1
      have R1 : Aside (ByIn w la l ∧ l.length = m ∧ w.cell? ⟨b, off + k, none⟩ = some (.slice la m lc)) := ⟨R.2.1, hmm, by rw [← hmm]; exact R.1⟩
      have HF : Aside (run (1, 0) (flat (ls.take (k + 1))) = run (x, y) l ∧ Low (x, y)) := R.2.2.2
      clear R hmm
      generalize hW1 : wr = W1 at HW
      go_wp2_with fail
      go_loopg [3, 4, 6] m (fun g2 va vb vj wr => ∃ (j x2 y2 : Nat), vj = .int .i64 j ∧ va = .int .u32 x2 ∧ vb = .int .u32 y2 ∧ j ≤ m ∧ m - j ≤ g2 ∧ Aside (wr = w ∧ run (x, y) (l.take j) = (x2, y2)))
      case atStart => exact ⟨0, x, y, rfl, rfl, rfl, Nat.zero_le _, Nat.le_refl _, HW.out, rfl⟩
      case round =>
        clear HW
        obtain ⟨j, x2, y2, rfl, rfl, rfl, hj, hg2, SJ⟩ := hrel
        have hww := SJ.out.1
        subst hww
        have r2 := R1.out.2.2
        by_cases hlt2 : j < m
        · have hltz2 : (j : Int) < (m : Int) := by omega
          have hjl : j < l.length := by rw [R1.out.2.1]; exact hlt2
          obtain ⟨b3, off3, ha3, hc3⟩ := R1.out.1.get (by omega)
          subst ha3
          have r3 := hc3 j hjl
          clear hc3
          have HT : Aside (run (x, y) (l.take (j + 1)) = one (x2, y2) (l.getD j 0) ∧ Low (x2, y2)) := by
            refine ⟨?_, ?_⟩
            · rw [take_byte hjl, run_append, SJ.out.2]; rfl
            · rw [← SJ.out.2]; exact run_low _ HF.out.2
          unfold bth at r3
          obtain ⟨z, hz⟩ : ∃ z : UInt8, l.getD j 0 = z := ⟨_, rfl⟩
          rw [hz] at r3 HT
          clear hz SJ
          have h1 : x2 < 65521 := HT.out.2.1
          have h2 : y2 < 65521 := HT.out.2.2
          obtain ⟨q, hq⟩ : ∃ q, z.toNat = q := ⟨_, rfl⟩
          have hq2 : q < 256 := by rw [← hq]; exact z.toNat_lt
          have HT2 : Aside (run (x, y) (l.take (j + 1)) = ((x2 + q) % 65521, (y2 + (x2 + q) % 65521) % 65521)) := by show _ = _; rw [HT.out.1, ← hq]; rfl
          rw [hq] at r3
          clear HT hq
          obtain ⟨u, hu⟩ : ∃ u, (x2 + q) % 65521 = u := ⟨_, rfl⟩
          have hu2 : u < 65521 := by omega
          rw [hu] at HT2
          obtain ⟨v, hv⟩ : ∃ v, (y2 + u) % 65521 = v := ⟨_, rfl⟩
          have hv2 : v < 65521 := by omega
          rw [hv] at HT2
          have e1 : ((x2 : Int) + (q : Int)) % 65521 = (u : Int) := by omega
          have e2 : ((y2 : Int) + (u : Int)) % 65521 = (v : Int) := by omega
          clear hu hv
          go_wp2
          go_roundg (m - (j + 1))
          case measure => omega
          case rel => exact ⟨j + 1, u, v, by go_num, by first | rfl | rw [e1], by first | rfl | rw [e2], by omega, by omega, rfl, HT2.out⟩
        · have hltz2 : ¬ (j : Int) < (m : Int) := by omega
          have S3 : Aside (run (1, 0) (flat (ls.take (k + 1))) = (x2, y2)) := by
            have h := SJ.out.2
            rw [List.take_of_length_le (by rw [R1.out.2.1]; omega)] at h
            show _ = _
            rw [HF.out.1]; exact h
          clear SJ
          go_wp2
          go_roundg (n - (k + 1))
          case measure => omega
          case rel => exact ⟨k + 1, x2, y2, by go_num, rfl, rfl, by omega, by omega, rfl, S3.out⟩
    · have hltz : ¬ (k : Int) < (n : Int) := by omega
      have S3 : Aside (run (1, 0) (flat ls) = (x, y)) := by
        have h := SK.out.2
        rwa [List.take_of_length_le (by rw [HH.out.2.1]; omega)] at h
      have hlow : Low (x, y) := by rw [← S3.out]; exact run_low _ start_low
      have h1 : x < 65521 := hlow.1
      have h2 : y < 65521 := hlow.2
      have hww := SK.out.1
      subst hww
      clear SK hlow
      go_wp2
      go_ret
      exact ⟨ret_u32 (by show _ = ((tell (run (1, 0) (flat ls)) : Nat) : Int); rw [S3.out]; unfold tell; simp only; omega), Below.refl _ _⟩
end Go.Proofs.Ytimijfibfjlkjaa.sum
