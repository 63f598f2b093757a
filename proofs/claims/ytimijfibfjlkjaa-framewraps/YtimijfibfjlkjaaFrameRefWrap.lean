/-
  The chapter's own Wrap.
-/
import Derived.Test.YtimijfibfjlkjaaFrameRefPut
namespace Go.Proofs.Ytimijfibfjlkjaa.frame
open Go.ChangeShapes Go.WideShapes Go.ChangeAt Go.RowKit Go.Deep
open Go.Proofs.Ytimijfibfjlkjaa.bytes
open Go.Proofs.Ytimijfibfjlkjaa.code (putB putB_len putB_append valB valB_put valB_lt)
open Go.Proofs.Ytimijfibfjlkjaa.sum (sumB sum_u32 ref1)
set_option linter.unusedVariables false
set_option maxRecDepth 100000
set_option linter.unusedSimpArgs false

set_option maxHeartbeats 4000000 in
theorem refWrap_no (n c : Nat) (a : Option Addr) (w : World) (hn : 60000 < n) :
    Calls Try.prog 12 #[.slice a n c] w fun e w' => e = .returned (.tuple #[.slice none 0 0, .int .i64 3]) ∧ w' = w := by
  have hz : (60000 : Int) < (n : Int) := by omega
  go_enter Try.func12, Try.ntmps12
  go_wp2
  go_ret2
  exact ⟨rfl, rfl⟩
set_option maxHeartbeats 8000000 in
theorem refWrap_any (n c : Nat) (a : Option Addr) (l : List UInt8) (w : World) (h : Sl w a n c l) (hn : n ≤ 60000) :
    Calls Try.prog 12 #[.slice a n c] w fun e w' => ∃ v, e = .returned (.tuple #[v, .int .i64 0]) ∧ Bs w.heap.size w' v (wrapB l) ∧ Below w.heap.size w w' := by
  have hz : ¬ (60000 : Int) < (n : Int) := by omega
  obtain ⟨i0, hi, hz0, hz1, hz2⟩ := info_parts info_u8
  have hC := refPut_any w.heap.size 3 n (by omega) (by omega) (.slice none 0 0) [] w (Bs.none _ _) (Nat.le_refl _) (by simp)
  have hlen := h.at_.len
  have H : Aside (Sl w a n c l) := h
  clear h
  go_enter Try.func12, Try.ntmps12
  go_upto_region 5 with (go_at_call 22; refine hC.mono ?_; rintro e w1 ⟨v1, rfl, hown1, hgr1⟩; refine Hid.out ?_)
  refine hid ?_
  rw [List.nil_append] at hown1
  have hb1 : Below w.heap.size w w1 := hgr1.below (Bs.none _ _) (Nat.le_refl _)
  have hs1 := H.out.keep hb1
  obtain ⟨g1, c1, rfl, ho8⟩ := hown1.form1 (by rw [putB_len]; omega)
  rw [putB_len] at ho8
  have hown : w1.ownsRow w.heap.size 5 1 (.slice (some ⟨g1, 0, none⟩) (putB n 3).length c1) 3 (Lib.byteCells (putB n 3)) := by have := hown1; unfold Bs at this; rwa [show (putB n 3).length = 3 from putB_len _ _] at this ⊢
  rw [show (putB n 3).length = 3 from putB_len _ _] at hown ⊢
  have hsz := hb1.size
  have S1 : Aside (Bs w.heap.size w1 (.slice (some ⟨g1, 0, none⟩) 3 c1) (putB n 3) ∧ Below w.heap.size w w1 ∧ Sl w1 a n c l) := ⟨by have := hown1; rwa [show (putB n 3).length = 3 from putB_len _ _] at this, hb1, hs1⟩
  clear hown1 hgr1 hb1 hC ho8
  go_upto_region 5 with fail
  go_cut [4] from 13 (fun t wx => ∃ (g c2 : Nat), t = .slice (some ⟨g, 0, none⟩) (n + 3) c2 ∧ Aside (Bs w.heap.size wx (.slice (some ⟨g, 0, none⟩) (n + 3) c2) (headB l) ∧ Below w.heap.size w wx))
  case first =>
    by_cases h0 : n = 0
    · subst h0
      have hnil : l = [] := List.eq_nil_of_length_eq_zero hlen
      subst hnil
      have S2 : Aside (Bs w.heap.size w1 (.slice (some ⟨g1, 0, none⟩) (0 + 3) c1) (headB []) ∧ Below w.heap.size w w1) := ⟨by unfold headB; rw [List.append_nil]; exact S1.out.1, S1.out.2.1⟩
      go_wp2_with (at_builtin; refine wpList_append_zero rfl (.tmp 13) (.tmp 14) 22 rfl w.heap.size 5 i0 1 Try.underlying22 hi _ _ _ rfl hown _ _ rfl ?_)
      go_meet
      case rel => exact ⟨g1, c1, rfl, S2.out⟩
    · obtain ⟨b, off, ha, hnews⟩ := S1.out.2.2.news (by omega)
      subst ha
      have hcl : (Lib.byteCells l).length = n * 1 := by rw [byteCells_len, hlen]; omega
      have hone := byteCells_one l
      have S2 : Aside (∀ g c3 w2, w2.ownsRow w.heap.size 5 1 (.slice (some ⟨g, 0, none⟩) (3 + n) c3) (3 + n) (Lib.byteCells (putB n 3) ++ Lib.byteCells l) → w1.grownBy w2 (some g1) → ((some g1 : Option Nat) = some g ∨ g = w1.heap.size) → Bs w.heap.size w2 (.slice (some ⟨g, 0, none⟩) (n + 3) c3) (headB l) ∧ Below w.heap.size w w2) := fun g c3 w2 ho hg hat => by
        obtain ⟨p1, p2⟩ := Bs.pushes (v := .slice (some ⟨g1, 0, none⟩) 3 c1) (putB_len n 3) hlen ho hg hat
        refine ⟨?_, S1.out.2.1.trans (p2.below S1.out.1 hsz)⟩
        unfold headB
        rw [hlen, Nat.add_comm n 3]
        exact p1
      go_wp2_with (at_builtin; refine wpList_append_lies _ rfl (.tmp 13) (.tmp 14) 22 rfl w.heap.size 5 i0 _ 1 1 Try.underlying22 hi hz0 hz1 hz2 rfl (by decide) _ 3 _ rfl hown ⟨b, off, none⟩ n c (Lib.byteCells l) rfl hcl hnews hone (by omega) (by unfold maxLen; omega) (by omega) hsz _ rfl ?_; intro g c3 w2 hown3 hgr3 hat3 _; refine Hid.out ?_)
      refine hid ?_
      have S3 : Aside (_ ∧ _) := S2.out g c3 w2 hown3 hgr3 hat3
      clear hown3 hgr3 hat3 hnews hcl hone S2
      go_wp2
      go_meet
      case rel => exact ⟨g, c3, by rw [Nat.add_comm], S3.out⟩
  case rest =>
    obtain ⟨g, c2, rfl, S2⟩ := hcut
    clear S1 hown hs1 hi hz0 hz1 hz2
    have e3 : (headB l).length = n + 3 := by rw [headB_len, hlen]
    have h8 : Own8 w.heap.size wc g (n + 3) c2 (headB l) := by have := S2.out.1; unfold Bs at this; rwa [e3] at this
    have hS := ref1 (h8.sl (by omega))
    have hu := sum_u32 (headB l)
    have HW : Aside (wrapB l = headB l ++ putB (sumB (headB l)) 4) := rfl
    obtain ⟨u, hu2⟩ : ∃ u, sumB (headB l) = u := ⟨_, rfl⟩
    rw [hu2] at hS hu HW
    have hP : ∀ w3, Below wc.heap.size wc w3 → Calls Try.prog 22 #[.slice (some ⟨g, 0, none⟩) (n + 3) c2, .int .u32 u, .int .i64 4] w3 fun e w' => ∃ v', e = .returned v' ∧ Aside (Bs w.heap.size w' v' (wrapB l) ∧ Below w.heap.size w w') := fun w3 hb3 => by
      have hb := S2.out.1.keep hb3
      have hsz3 : w.heap.size ≤ w3.heap.size := Nat.le_trans S2.out.2.size hb3.size
      refine (refPut_any w.heap.size 4 u hu (by omega) _ _ w3 hb hsz3 (by omega)).mono ?_
      rintro e w' ⟨v', h1, h2, h3⟩
      exact ⟨v', h1, by rw [HW.out]; exact h2, (S2.out.2.trans (hb3.mono S2.out.2.size)).trans (h3.below hb hsz3)⟩
    clear S2 h8 hu2 HW H hlen e3
    go_wp2_with (first | (go_at_call 23; refine hS.mono ?_; rintro e w3 ⟨rfl, hb3⟩; have hP3 := hP w3 hb3) | (go_at_call 22; refine hP3.mono ?_; rintro e w4 ⟨v4, rfl, h4⟩))
    go_ret2
    exact ⟨_, rfl, h4.out.1, h4.out.2⟩
end Go.Proofs.Ytimijfibfjlkjaa.frame
