/-
  The contracts of slices.Grow of no spans and of slices.Concat of lists of spans.
-/
import Derived.Test.YtfhihkogdnbghaaSpanApp
import Derived.Test.YtfhihkogdnbghaaSpanLayGrow
namespace Go.Proofs.Ytfhihkogdnbghaa.spans
open Go.ChangeShapes Go.WideShapes Go.ChangeAt Go.RowKit Go.Deep
open Go.Proofs.Ytfhihkogdnbghaa.bytes (ret_bool hid nth addr_add cell_lt own_below own_mono)
set_option linter.unusedVariables false
set_option maxRecDepth 100000
set_option linter.unusedSimpArgs false

theorem growS_any (n : Nat) (w : World) (hn : n ≤ 1000000) :
    Calls Try.prog 57 #[.slice none 0 0, .int .i64 n] w fun e w' => ∃ v, e = .returned v ∧ So w.heap.size w' v [] ∧ Below w.heap.size w w' := by
  obtain ⟨i0, hi, hz0, hz1, hz2⟩ := info_parts info_span
  by_cases h0 : n = 0
  · subst h0
    have h := Any8.slices_Grow_room Try.laysGrow none 0 0 0 w (by omega) (by omega) (by omega) (by omega)
    change Calls Try.prog 57 _ _ _ at h
    refine h.mono ?_
    rintro e w' ⟨rfl, rfl⟩
    exact ⟨_, rfl, World.ownsRow_nil _ _ _ _, Below.refl _ _⟩
  · have h := Any8.slices_Grow_grow Try.laysGrow i0 _ hi hz0 (by omega) none 0 0 n [] w (by omega) (by omega) (by rw [hz2]; omega) (by omega) (by simp) (fun _ => rfl) (fun a ha => by cases ha)
    change Calls Try.prog 57 _ _ _ at h
    refine h.mono ?_
    rintro e w' ⟨rfl, rfl⟩
    refine ⟨_, rfl, ⟨rfl, .inr ⟨w.heap.size, _, _, rfl, Nat.le_refl _, heap_alloc_new _ _, Nat.zero_le _, grownCap_le_maxLen _ _ _ _ (by unfold maxLen; omega), ?_, by simp [flatS]⟩⟩, ?_⟩
    · rw [Array.size_append, Array.size_append, size_zeroCells, size_zeroCells]
      have hg := grownCap_ge w (0 + n) 0 38
      show (0 : Nat) + (0 + n - 0) * 2 + (grownCap w (0 + n) 0 38 - (0 + n)) * 2 = grownCap w (0 + n) 0 38 * 2
      omega
    · exact ((Below.refl _ _).drew).alloc (Nat.le_refl _) _

/-! ### a row of lists of spans -/
structure Ls where
  a : Option Addr
  cap : Nat
  l : List Sp
def lsn (ls : List Ls) (i : Nat) : Ls := ls.getD i ⟨none, 0, []⟩
theorem lsn_eq {ls : List Ls} {i : Nat} (h : i < ls.length) : lsn ls i = ls[i] := by simp [lsn, h]
def flatL (ls : List Ls) : List Sp := (ls.map (·.l)).flatten
theorem flatL_take {ls : List Ls} {k : Nat} (h : k < ls.length) : flatL (ls.take (k + 1)) = flatL (ls.take k) ++ (lsn ls k).l := by
  unfold flatL
  rw [List.take_succ_eq_append_getElem h, List.map_append, List.flatten_append, lsn_eq h]
  simp
theorem flatL_le (ls : List Ls) (k : Nat) : (flatL (ls.take k)).length ≤ (flatL ls).length := by
  have : flatL ls = flatL (ls.take k) ++ flatL (ls.drop k) := by
    unfold flatL
    rw [← List.flatten_append, ← List.map_append, List.take_append_drop]
  rw [this, List.length_append]; omega
def LsIn (w : World) (b : Nat) (ls : List Ls) : Prop := ∀ i, i < ls.length → w.cell? ⟨b, i, none⟩ = some (.slice (lsn ls i).a (lsn ls i).l.length (lsn ls i).cap) ∧ SpansIn w (lsn ls i).a (lsn ls i).l
theorem LsIn.keep {w w1 : World} {b : Nat} {ls : List Ls} (h : LsIn w b ls) (hb : Below w.heap.size w w1) : LsIn w1 b ls := fun i hi => by
  obtain ⟨h1, h2⟩ := h i hi
  exact ⟨(hb.cell (p := ⟨b, i, none⟩) (cell_lt h1)).trans h1, h2.keep hb⟩

set_option maxHeartbeats 4000000 in
theorem concat_any (b n c : Nat) (ls : List Ls) (w : World) (hL : LsIn w b ls) (hn : ls.length = n) (hm : n ≤ 100) (ht : (flatL ls).length ≤ 10000) :
    Calls Try.prog 48 #[.slice (some ⟨b, 0, none⟩) n c] w fun e w' => ∃ v, e = .returned v ∧ So w.heap.size w' v (flatL ls) ∧ Below w.heap.size w w' := by
  have HH : Aside (LsIn w b ls ∧ ls.length = n ∧ (flatL ls).length ≤ 10000) := ⟨hL, hn, ht⟩
  clear hL hn ht
  go_enter Try.func48, Try.ntmps48
  go_wp2_with fail
  go_loopg [3, 5, 11] n (fun g1 v s vi wr => ∃ (k m : Nat), v = .int .i64 (m : Int) ∧ vi = .int .i64 k ∧ k ≤ n ∧ n - k ≤ g1 ∧ m ≤ 10000 ∧ Aside (m = (flatL (ls.take k)).length) ∧ wr = w)
  case atStart => exact ⟨0, 0, rfl, rfl, by omega, by omega, by omega, rfl, rfl⟩
  case round =>
    obtain ⟨k, m, rfl, rfl, hk, hg1, hm2, HM, rfl⟩ := hrel
    by_cases hlt : k < n
    · have hltz : (k : Int) < (n : Int) := by omega
      have hkl : k < ls.length := by rw [HH.out.2.1]; exact hlt
      have r0 := (HH.out.1 k hkl).1
      have HF : Aside ((flatL (ls.take (k + 1))).length = m + (lsn ls k).l.length ∧ m + (lsn ls k).l.length ≤ 10000) := by
        have e : (flatL (ls.take (k + 1))).length = m + (lsn ls k).l.length := by rw [flatL_take hkl, List.length_append, HM.out]
        exact ⟨e, by rw [← e]; exact Nat.le_trans (flatL_le ls (k + 1)) HH.out.2.2⟩
      generalize (lsn ls k).l.length = q at r0 HF
      generalize (lsn ls k).cap = lc at r0
      generalize (lsn ls k).a = la at r0
      have hq : m + q ≤ 10000 := HF.out.2
      go_wp2
      go_roundg (n - (k + 1))
      case measure => omega
      case rel => exact ⟨k + 1, m + q, by go_num, by go_num, by omega, by omega, hq, HF.out.1.symm, rfl⟩
    · have hltz : ¬ (k : Int) < (n : Int) := by omega
      have hG := growS_any m wr (by omega)
      clear HM
      go_wp2_with (go_at_call 57; refine hG.mono ?_; rintro e w2 ⟨v2, rfl, hown2, hb2⟩; refine Hid.out ?_)
      refine hid ?_
      have S2 : Aside (So wr.heap.size w2 v2 [] ∧ Below wr.heap.size wr w2) := ⟨hown2, hb2⟩
      clear hown2 hb2 hG
      obtain ⟨W0, hW0⟩ : ∃ W0, wr = W0 := ⟨_, rfl⟩
      have HW : Hid (wr = W0) := hW0
      rw [hW0] at S2 HH
      clear hW0
      go_wp2_with fail
      go_loopg [6, 8, 27] n (fun g1 v s vi wr => ∃ (k : Nat), vi = .int .i64 k ∧ k ≤ n ∧ n - k ≤ g1 ∧ Aside (So W0.heap.size wr v (flatL (ls.take k)) ∧ Below W0.heap.size W0 wr))
      case atStart => exact ⟨0, rfl, by omega, by omega, S2.out⟩
      case round =>
        clear S2
        obtain ⟨k, rfl, hk, hg1, SK⟩ := hrel
        by_cases hlt : k < n
        · have hltz : (k : Int) < (n : Int) := by omega
          have hkl : k < ls.length := by rw [HH.out.2.1]; exact hlt
          obtain ⟨r0, r1⟩ := (HH.out.1.keep SK.out.2) k hkl
          have HT : Aside (flatL (ls.take (k + 1)) = flatL (ls.take k) ++ (lsn ls k).l ∧ (flatL (ls.take k)).length + (lsn ls k).l.length ≤ 10000) := by
            refine ⟨flatL_take hkl, ?_⟩
            rw [← List.length_append, ← flatL_take hkl]
            exact Nat.le_trans (flatL_le ls (k + 1)) HH.out.2.2
          generalize (lsn ls k).l = y at r0 r1 HT
          generalize (lsn ls k).cap = lc at r0
          generalize (lsn ls k).a = la at r0 r1
          generalize flatL (ls.take k) = done at SK HT
          have hown := SK.out.1
          have hsz := SK.out.2.size
          have R1 : Aside (SpansIn wr la y) := r1
          obtain ⟨q, hq⟩ : ∃ q, y.length = q := ⟨_, rfl⟩
          obtain ⟨dn, hdn⟩ : ∃ dn, done.length + q = dn := ⟨_, rfl⟩
          have HQ : Aside (y.length = q ∧ done.length + q = dn ∧ dn ≤ 100000000) := ⟨hq, hdn, by have := HT.out.2; omega⟩
          have HO : Aside (So W0.heap.size wr u6 done ∧ W0.heap.size ≤ wr.heap.size ∧ Below W0.heap.size W0 wr ∧ flatL (ls.take (k + 1)) = done ++ y) := ⟨hown, hsz, SK.out.2, HT.out.1⟩
          rw [hq] at r0
          clear SK HT hown hsz r1 hq hdn
          go_wp2_with (at_builtin; refine wpList_spans rfl (.tmp 31) (.tmp 32) rfl W0.heap.size _ done rfl HO.out.1 la q lc y rfl R1.out HQ.out.1 dn HQ.out.2.1 HQ.out.2.2 HO.out.2.1 ?_; intro a3 c3 w3 hown3 hg3; refine Hid.out ?_)
          refine hid ?_
          have S5 : Aside (So W0.heap.size w3 (.slice a3 dn c3) (flatL (ls.take (k + 1))) ∧ Below W0.heap.size W0 w3) := by
            rw [HO.out.2.2.2]
            exact ⟨hown3, HO.out.2.2.1.trans (own_bel HO.out.1 hg3 (Nat.le_refl _) HO.out.2.1)⟩
          clear hown3 hg3 HO
          go_wp2
          go_roundg (n - (k + 1))
          case measure => omega
          case rel => exact ⟨k + 1, by go_num, by omega, by omega, S5.out⟩
        · have hltz : ¬ (k : Int) < (n : Int) := by omega
          have S3 : Aside (So W0.heap.size wr u6 (flatL ls) ∧ Below W0.heap.size W0 wr) := by
            have h := SK.out
            rwa [List.take_of_length_le (by rw [HH.out.2.1]; omega)] at h
          clear SK
          go_wp2
          go_ret
          rw [HW.out]
          exact ⟨_, rfl, S3.out.1, S3.out.2⟩
end Go.Proofs.Ytfhihkogdnbghaa.spans
