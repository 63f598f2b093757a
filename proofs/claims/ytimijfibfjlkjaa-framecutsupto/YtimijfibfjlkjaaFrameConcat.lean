/-
  The contracts of slices.Grow of no bytes and of slices.Concat of lists of bytes.
-/
import Derived.Test.YtimijfibfjlkjaaByteGrow
import Derived.Test.YtimijfibfjlkjaaSumEach
import Derived.Test.YtimijfibfjlkjaaFrameLayGrow
namespace Go.Proofs.Ytimijfibfjlkjaa.frame
open Go.ChangeShapes Go.WideShapes Go.ChangeAt Go.RowKit Go.Deep
open Go.Proofs.Ytimijfibfjlkjaa.bytes
open Go.Proofs.Ytimijfibfjlkjaa.sum (flat flat_take)
set_option linter.unusedVariables false
set_option maxRecDepth 100000

theorem grow_any (n : Nat) (w : World) (hn : n ≤ 100000000) :
    Calls Try.prog 26 #[.slice none 0 0, .int .i64 n] w fun e w' => ∃ v, e = .returned v ∧ Bs w.heap.size w' v [] ∧ Below w.heap.size w w' := by
  obtain ⟨i0, hi, hz0, hz1, hz2⟩ := info_parts info_u8
  by_cases h0 : n = 0
  · subst h0
    have h := Any8.slices_Grow_room Try.laysGrow none 0 0 0 w (by omega) (by omega) (by omega) (by omega)
    change Calls Try.prog 26 _ _ _ at h
    refine h.mono ?_
    rintro e w' ⟨rfl, rfl⟩
    exact ⟨_, rfl, World.ownsRow_nil _ _ _ _, Below.refl _ _⟩
  · have h := Any8.slices_Grow_grow Try.laysGrow i0 _ hi hz0 (by omega) none 0 0 n [] w (by omega) (by omega) (by rw [hz2]; omega) (by omega) (by simp) (fun _ => rfl) (fun a ha => by cases ha)
    change Calls Try.prog 26 _ _ _ at h
    refine h.mono ?_
    rintro e w' ⟨rfl, rfl⟩
    refine ⟨_, rfl, ⟨rfl, .inr ⟨w.heap.size, _, _, rfl, Nat.le_refl _, heap_alloc_new _ _, Nat.zero_le _, grownCap_le_maxLen _ _ _ _ (by unfold maxLen; omega), ?_, by simp [Lib.byteCells]⟩⟩, ?_⟩
    · rw [Array.size_append, Array.size_append, size_zeroCells, size_zeroCells]
      have hg := grownCap_ge w (0 + n) 0 5
      show (0 : Nat) + (0 + n - 0) * 1 + (grownCap w (0 + n) 0 5 - (0 + n)) * 1 = grownCap w (0 + n) 0 5 * 1
      omega
    · exact ((Below.refl _ _).drew).alloc (Nat.le_refl _) _

theorem flat_len_le (ls : List Lr) (k : Nat) : (flat (ls.take k)).length ≤ (flat ls).length := by
  have : flat ls = flat (ls.take k) ++ flat (ls.drop k) := by
    unfold flat
    rw [← List.flatten_append, ← List.map_append, List.take_append_drop]
  rw [this, List.length_append]; omega

set_option maxHeartbeats 4000000 in
theorem concat_any (n c : Nat) (a : Option Addr) (ls : List Lr) (w : World) (hL : ListsIn w a ls) (hn : ls.length = n) (hm : n ≤ 1000000) (ht : (flat ls).length ≤ 100000000) :
    Calls Try.prog 19 #[.slice a n c] w fun e w' => ∃ v, e = .returned v ∧ Bs w.heap.size w' v (flat ls) ∧ Below w.heap.size w w' := by
  obtain ⟨i0, hi, hz0, hz1, hz2⟩ := info_parts info_u8
  have HH : Aside (ListsIn w a ls ∧ ls.length = n ∧ (flat ls).length ≤ 100000000) := ⟨hL, hn, ht⟩
  clear hL hn ht
  go_enter Try.func19, Try.ntmps19
  go_wp2_with fail
  go_loopg [3, 5, 11] n (fun g1 v s vi wr => ∃ (k m : Nat), v = .int .i64 (m : Int) ∧ vi = .int .i64 k ∧ k ≤ n ∧ n - k ≤ g1 ∧ m ≤ 100000000 ∧ Aside (m = (flat (ls.take k)).length) ∧ wr = w)
  case atStart => exact ⟨0, 0, rfl, rfl, by omega, by omega, by omega, rfl, rfl⟩
  case round =>
    obtain ⟨k, m, rfl, rfl, hk, hg1, hm2, HM, rfl⟩ := hrel
    by_cases hlt : k < n
    · have hltz : (k : Int) < (n : Int) := by omega
      have hkl : k < ls.length := by rw [HH.out.2.1]; exact hlt
      obtain ⟨b, off, ha, hc⟩ := HH.out.1.get hkl
      subst ha
      have r0 := (hc k hkl).1
      clear hc
      have HF : Aside ((flat (ls.take (k + 1))).length = m + (ln ls k).l.length ∧ m + (ln ls k).l.length ≤ 100000000) := by
        have e : (flat (ls.take (k + 1))).length = m + (ln ls k).l.length := by rw [flat_take hkl, List.length_append, HM.out]
        exact ⟨e, by rw [← e]; exact Nat.le_trans (flat_len_le ls (k + 1)) HH.out.2.2⟩
      generalize (ln ls k).l.length = q at r0 HF
      generalize (ln ls k).cap = lc at r0
      generalize (ln ls k).a = la at r0
      have hq : m + q ≤ 100000000 := HF.out.2
      go_wp2
      go_roundg (n - (k + 1))
      case measure => omega
      case rel => exact ⟨k + 1, m + q, by go_num, by go_num, by omega, by omega, hq, HF.out.1.symm, rfl⟩
    · have hltz : ¬ (k : Int) < (n : Int) := by omega
      have hG := grow_any m wr hm2
      clear HM
      go_wp2_with (go_at_call 26; refine hG.mono ?_; rintro e w2 ⟨v2, rfl, hown2, hb2⟩; refine Hid.out ?_)
      refine hid ?_
      have S2 : Aside (Bs wr.heap.size w2 v2 [] ∧ Below wr.heap.size wr w2) := ⟨hown2, hb2⟩
      clear hown2 hb2 hG
      obtain ⟨W0, hW0⟩ : ∃ W0, wr = W0 := ⟨_, rfl⟩
      have HW : Hid (wr = W0) := hW0
      rw [hW0] at S2 HH
      clear hW0
      go_wp2_with fail
      go_loopg [6, 8, 27] n (fun g1 v s vi wr => ∃ (k : Nat), vi = .int .i64 k ∧ k ≤ n ∧ n - k ≤ g1 ∧ Aside (Bs W0.heap.size wr v (flat (ls.take k)) ∧ Below W0.heap.size W0 wr))
      case atStart => exact ⟨0, rfl, by omega, by omega, S2.out⟩
      case round =>
        clear S2
        obtain ⟨k, rfl, hk, hg1, SK⟩ := hrel
        by_cases hlt : k < n
        · have hltz : (k : Int) < (n : Int) := by omega
          have hkl : k < ls.length := by rw [HH.out.2.1]; exact hlt
          obtain ⟨b, off, ha, hc⟩ := (HH.out.1.keep SK.out.2).get hkl
          subst ha
          obtain ⟨r0, r1⟩ := hc k hkl
          clear hc
          have HT : Aside (flat (ls.take (k + 1)) = flat (ls.take k) ++ (ln ls k).l ∧ (flat (ls.take k)).length + (ln ls k).l.length ≤ 100000000) := by
            refine ⟨flat_take hkl, ?_⟩
            rw [← List.length_append, ← flat_take hkl]
            exact Nat.le_trans (flat_len_le ls (k + 1)) HH.out.2.2
          generalize (ln ls k).l = q at r0 r1 HT
          generalize (ln ls k).cap = lc at r0
          generalize (ln ls k).a = la at r0 r1
          generalize flat (ls.take k) = done at SK HT
          have hown : wr.ownsRow W0.heap.size 5 1 u6 done.length (Lib.byteCells done) := SK.out.1
          have hsz := SK.out.2.size
          have hsum := HT.out.2
          obtain ⟨dn, hdn⟩ : ∃ dn, done.length = dn := ⟨_, rfl⟩
          have HD : Hid (done.length = dn) := hdn
          rw [hdn] at hown hsum
          clear hdn
          by_cases h0 : q.length = 0
          · have hq : q = [] := List.eq_nil_of_length_eq_zero h0
            subst hq
            have S3 : Aside (Bs W0.heap.size wr u6 (flat (ls.take (k + 1))) ∧ Below W0.heap.size W0 wr) := by
              rw [HT.out.1, List.append_nil]; exact SK.out
            clear SK HT h0 r1
            simp only [List.length_nil] at r0 hsum
            go_wp2_with (at_builtin; refine wpList_append_zero rfl (.tmp 31) (.tmp 32) 22 rfl W0.heap.size 5 i0 1 Try.underlying22 hi _ _ _ rfl hown _ _ rfl ?_)
            go_roundg (n - (k + 1))
            case measure => omega
            case rel => exact ⟨k + 1, by go_num, by omega, by omega, S3⟩
          · obtain ⟨b2, off2, ha2, hc2⟩ := r1.get (by omega)
            subst ha2
            have hnews : ∀ j u, (Lib.byteCells q)[j]? = some u → wr.cell? ((⟨b2, off2, none⟩ : Addr).add j) = some u := fun j u hj => by
              rw [addr_add]
              simp only [Lib.byteCells, List.getElem?_map, Option.map_eq_some_iff] at hj
              obtain ⟨y, hy, rfl⟩ := hj
              obtain ⟨hjl, e⟩ := List.getElem?_eq_some_iff.1 hy
              rw [hc2 j hjl]
              simp [bth, hjl, e]
            have hone := byteCells_one q
            obtain ⟨m, hmq⟩ : ∃ m, q.length = m := ⟨_, rfl⟩
            have hlen : (Lib.byteCells q).length = m * 1 := by rw [byteCells_len, hmq]; omega
            have HQ : Hid (q.length = m) := hmq
            rw [hmq] at r0 hsum h0
            have S3 : Aside (∀ g cap W1, W1.ownsRow W0.heap.size 5 1 (.slice (some ⟨g, 0, none⟩) (dn + m) cap) (dn + m) (Lib.byteCells done ++ Lib.byteCells q) → wr.grownBy W1 u6.ownBlock → (u6.ownBlock = some g ∨ g = wr.heap.size) → Bs W0.heap.size W1 (.slice (some ⟨g, 0, none⟩) (dn + m) cap) (flat (ls.take (k + 1))) ∧ Below W0.heap.size W0 W1) := fun g cap W1 ho hg hat => by
              obtain ⟨p1, p2⟩ := Bs.pushes HD.out hmq ho hg hat
              rw [HT.out.1]
              exact ⟨p1, SK.out.2.trans (p2.below SK.out.1 hsz)⟩
            clear SK HT r1 hc2 hmq
            go_wp2_with (at_builtin; refine wpList_append_lies _ rfl (.tmp 31) (.tmp 32) 22 rfl W0.heap.size 5 i0 _ 1 1 Try.underlying22 hi hz0 hz1 hz2 rfl (by decide) _ _ _ rfl hown ⟨b2, off2, none⟩ m _ (Lib.byteCells q) rfl hlen hnews hone (by omega) (by unfold maxLen; omega) (by omega) hsz _ rfl ?_; intro g cap3 w3 hown3 hg3 hat3 _; refine Hid.out ?_)
            refine hid ?_
            have S4 := S3.out g cap3 w3 hown3 hg3 hat3
            have S5 : Aside (_ ∧ _) := S4
            clear S4 hown3 hg3 hat3 S3 hown hnews hone hlen
            go_wp2
            go_roundg (n - (k + 1))
            case measure => omega
            case rel => exact ⟨k + 1, by go_num, by omega, by omega, S5.out⟩
        · have hltz : ¬ (k : Int) < (n : Int) := by omega
          have S3 : Aside (Bs W0.heap.size wr u6 (flat ls) ∧ Below W0.heap.size W0 wr) := by
            have h := SK.out
            rwa [List.take_of_length_le (by rw [HH.out.2.1]; omega)] at h
          clear SK
          go_wp2
          go_ret
          rw [HW.out]
          exact ⟨_, rfl, S3.out.1, S3.out.2⟩
end Go.Proofs.Ytimijfibfjlkjaa.frame
