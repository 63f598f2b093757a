/-
  The statements' own functions: same, heavy, rows; the chapter's example holds.
-/
import Derived.Test.YtimijfibfjlkjaaByteGrow
import Derived.Test.YtimijfibfjlkjaaFrameMath
namespace Go.Proofs.Ytimijfibfjlkjaa.frame
open Go.ChangeShapes Go.WideShapes Go.ChangeAt Go.RowKit Go.Deep
open Go.Proofs.Ytimijfibfjlkjaa.bytes
set_option linter.unusedVariables false
set_option maxRecDepth 100000
set_option linter.unusedSimpArgs false

theorem take_same {xs ys : List (List UInt8)} {k : Nat} (hx : k < xs.length) (hy : k < ys.length) (h : xs.take k = ys.take k) (e : xs[k] = ys[k]) : xs.take (k + 1) = ys.take (k + 1) := by
  rw [List.take_succ_eq_append_getElem hx, List.take_succ_eq_append_getElem hy, h, e]
set_option maxHeartbeats 4000000 in
theorem lawSame_any (n m c d : Nat) (a b : Option Addr) (xs ys : List Lr) (w : World) (hx : ListsIn w a xs) (hy : ListsIn w b ys) (hn : xs.length = n) (hm : ys.length = m) (hn2 : n ≤ 9223372036854775807) (hm2 : m ≤ 9223372036854775807) :
    Calls Try.prog 14 #[.slice a n c, .slice b m d] w fun e w' => e = .returned (.bool (decide (xs.map (·.l) = ys.map (·.l)))) ∧ Below w.heap.size w w' := by
  have H : Aside (ListsIn w a xs ∧ ListsIn w b ys ∧ xs.length = n ∧ ys.length = m) := ⟨hx, hy, hn, hm⟩
  clear hx hy hn hm
  by_cases hnm : n = m
  · subst hnm
    go_enter Try.func14, Try.ntmps14
    go_wp2_with fail
    go_loopg [5] n (fun g1 vi wr => ∃ (k : Nat), vi = .int .i64 k ∧ k ≤ n ∧ n - k ≤ g1 ∧ Aside (Below w.heap.size w wr ∧ (xs.map (·.l)).take k = (ys.map (·.l)).take k))
    case atStart => exact ⟨0, rfl, Nat.zero_le _, Nat.le_refl _, Below.refl _ _, rfl⟩
    case round =>
      obtain ⟨k, rfl, hk, hg1, SK⟩ := hrel
      by_cases hlt : k < n
      · have hltz : (k : Int) < (n : Int) := by omega
        have hkx : k < xs.length := by rw [H.out.2.2.1]; exact hlt
        have hky : k < ys.length := by rw [H.out.2.2.2]; exact hlt
        obtain ⟨bx, ox, ha, hcx⟩ := (H.out.1.keep SK.out.1).get hkx
        obtain ⟨by', oy, hb, hcy⟩ := (H.out.2.1.keep SK.out.1).get hky
        subst ha hb
        obtain ⟨r0, r1⟩ := hcx k hkx
        obtain ⟨s0, s1⟩ := hcy k hky
        clear hcx hcy
        have HD : Aside ((ln xs k).l = (ln ys k).l → (xs.map (·.l)).take (k + 1) = (ys.map (·.l)).take (k + 1)) := fun e => by
          refine take_same (by simpa using hkx) (by simpa using hky) SK.out.2 ?_
          rw [ln_eq hkx, ln_eq hky] at e
          simpa using e
        have HE : Aside (¬ (ln xs k).l = (ln ys k).l → ¬ xs.map (·.l) = ys.map (·.l)) := fun h e => h (by
          rw [ln_eq hkx, ln_eq hky]
          have := congrArg (fun l => l[k]?) e
          simpa [hkx, hky] using this)
        have e1 := str_of r1 _ (ln xs k).cap rfl
        have e2 := str_of s1 _ (ln ys k).cap rfl
        generalize (ln xs k).l = l1 at r0 r1 e1 HD HE
        generalize (ln ys k).l = l2 at s0 s1 e2 HD HE
        generalize (ln xs k).cap = c1 at r0 e1
        generalize (ln ys k).cap = c2 at s0 e2
        generalize (ln xs k).a = a1 at r0 r1 e1
        generalize (ln ys k).a = a2 at s0 s1 e2
        have e1q := fun q => str_of (show ByIn (wr.drewN q) a1 l1 from r1) _ c1 rfl
        have e2q := fun q => str_of (show ByIn (wr.drewN q) a2 l2 from s1) _ c2 rfl
        clear r1 s1 e1 e2
        by_cases hl : l1 = l2
        · subst hl
          have S2 : Aside (∀ q, Below w.heap.size w (wr.drewN q) ∧ (xs.map (·.l)).take (k + 1) = (ys.map (·.l)).take (k + 1)) := fun q => ⟨⟨SK.out.1.os, SK.out.1.tape, SK.out.1.output, SK.out.1.size, SK.out.1.block⟩, HD.out rfl⟩
          clear SK HD HE
          go_upto_region 6 with fail
          go_quiet (fail)
          have S3 : Aside (_ ∧ _) := S2.out nq
          clear S2
          generalize wr.drewN nq = w2 at S3 ⊢
          go_wp2
          go_roundg (n - (k + 1))
          case measure => omega
          case rel => exact ⟨k + 1, by go_num, by omega, by omega, S3.out⟩
        · have hbe : (l1 == l2) = false := by simpa using hl
          have S2 : Aside (∀ q, Below w.heap.size w (wr.drewN q) ∧ decide (xs.map (·.l) = ys.map (·.l)) = false) := fun q => ⟨⟨SK.out.1.os, SK.out.1.tape, SK.out.1.output, SK.out.1.size, SK.out.1.block⟩, decide_eq_false (HE.out hl)⟩
          clear SK HD HE
          go_upto_region 6 with fail
          go_quiet (fail)
          have S3 : Aside (_ ∧ _) := S2.out nq
          clear S2
          generalize wr.drewN nq = w2 at S3 ⊢
          go_wp2
          go_ret
          exact ⟨ret_bool S3.out.2.symm, S3.out.1⟩
      · have hltz : ¬ (k : Int) < (n : Int) := by omega
        have hD : Aside (decide (xs.map (·.l) = ys.map (·.l)) = true ∧ Below w.heap.size w wr) := by
          refine ⟨decide_eq_true ?_, SK.out.1⟩
          have := SK.out.2
          rwa [List.take_of_length_le (by rw [List.length_map, H.out.2.2.1]; omega), List.take_of_length_le (by rw [List.length_map, H.out.2.2.2]; omega)] at this
        clear SK
        go_wp2
        go_ret
        exact ⟨ret_bool hD.out.1.symm, hD.out.2⟩
  · have hnz : ¬ (n : Int) = (m : Int) := by omega
    have hD : Aside (decide (xs.map (·.l) = ys.map (·.l)) = false) := by
      refine decide_eq_false fun e => hnm ?_
      have := congrArg List.length e
      rwa [List.length_map, List.length_map, H.out.2.2.1, H.out.2.2.2] at this
    clear H
    go_enter Try.func14, Try.ntmps14
    go_wp2
    go_ret
    exact ⟨ret_bool hD.out.symm, Below.refl _ _⟩

/-! ### how heavy lists are -/
def wt (ls : List Lr) : Nat := (ls.map fun x => x.l.length + 7).sum
theorem wt_take {ls : List Lr} {k : Nat} (h : k < ls.length) : wt (ls.take (k + 1)) = wt (ls.take k) + ((ln ls k).l.length + 7) := by
  unfold wt
  rw [List.take_succ_eq_append_getElem h, List.map_append, List.sum_append, ln_eq h]
  simp
theorem wt_le (ls : List Lr) (k : Nat) : wt (ls.take k) ≤ wt ls := by
  have e : wt ls = wt (ls.take k) + wt (ls.drop k) := by unfold wt; rw [← List.sum_append, ← List.map_append, List.take_append_drop]
  omega
set_option maxHeartbeats 4000000 in
theorem heavy_any (n c : Nat) (a : Option Addr) (ls : List Lr) (w : World) (hL : ListsIn w a ls) (hn : ls.length = n) (hn2 : n ≤ 9223372036854775807) (hw : wt ls ≤ 1000000000000) :
    Calls Try.prog 15 #[.slice a n c] w fun e w' => e = .returned (.bool (decide (3000 < wt ls))) ∧ w = w' := by
  have H : Aside (ListsIn w a ls ∧ ls.length = n ∧ wt ls ≤ 1000000000000) := ⟨hL, hn, hw⟩
  clear hL hn hw
  go_enter Try.func15, Try.ntmps15
  go_wp2_with fail
  go_loopg [3, 4] n (fun g1 vn vi wr => ∃ (k s : Nat), vi = .int .i64 k ∧ vn = .int .i64 s ∧ k ≤ n ∧ n - k ≤ g1 ∧ Aside (s = wt (ls.take k)) ∧ wr = w)
  case atStart => exact ⟨0, 0, rfl, rfl, Nat.zero_le _, Nat.le_refl _, rfl, rfl⟩
  case round =>
    obtain ⟨k, s, rfl, rfl, hk, hg1, HS, rfl⟩ := hrel
    have hs : s ≤ 1000000000000 := by rw [HS.out]; exact Nat.le_trans (wt_le ls k) H.out.2.2
    by_cases hlt : k < n
    · have hltz : (k : Int) < (n : Int) := by omega
      have hkl : k < ls.length := by rw [H.out.2.1]; exact hlt
      obtain ⟨b, off, ha, hc⟩ := H.out.1.get hkl
      subst ha
      have r0 := (hc k hkl).1
      clear hc
      have HF : Aside (s + ((ln ls k).l.length + 7) = wt (ls.take (k + 1))) := by show _ = _; rw [wt_take hkl, HS.out]
      have hs2 : s + ((ln ls k).l.length + 7) ≤ 1000000000000 := by rw [HF.out]; exact Nat.le_trans (wt_le ls (k + 1)) H.out.2.2
      generalize (ln ls k).l.length = m at r0 HF hs2
      clear HS
      go_wp2
      go_roundg (n - (k + 1))
      case measure => omega
      case rel => exact ⟨k + 1, s + (m + 7), by go_num, by go_num, by omega, by omega, HF.out, rfl⟩
    · have hltz : ¬ (k : Int) < (n : Int) := by omega
      have HF : Aside (s = wt ls) := by
        have := HS.out
        rwa [List.take_of_length_le (by rw [H.out.2.1]; omega)] at this
      clear HS
      go_wp2
      go_ret
      refine ⟨ret_bool ?_, rfl⟩
      rw [← HF.out]
      by_cases h : 3000 < s
      · rw [decide_eq_true h, decide_eq_true (by omega)]
      · rw [decide_eq_false h, decide_eq_false (by omega)]
end Go.Proofs.Ytimijfibfjlkjaa.frame
