/-
 The contracts of slices.Grow of no bytes and of slices.Concat of lists of bytes.
 The contract of frame.Wrap.
-/
import Derived.Test.YtlcjllgfpfldlaaGreatFrameLayGrow
import Derived.Test.YtlcjllgfpfldlaaGreatWalZ07K
set_option maxHeartbeats 4000000
open Go.ChangeShapes Go.WideShapes Go.ChangeAt Go.RowKit Go.Deep
set_option linter.unusedVariables false
set_option maxRecDepth 100000
namespace Go.Proofs.YtlcjllgfpfldlaaGreat
namespace frame
open bytes
open sum (flat flat_take)
theorem grow_any (n : Nat) (w : World) (hn : n ≤ 100000000) :
  Calls Tryz.prog 116 #[.slice none 0 0, .int .i64 n] w fun e w' => ∃ v, e = .returned v ∧ Bs w.heap.size w' v [] ∧ Below w.heap.size w w' := by
 obtain ⟨i0, hi, hz0, hz1, hz2⟩ := info_parts info_u8
 by_cases h0 : n = 0
 ·subst h0
  have h := Any8.slices_Grow_room Tryz.laysGrow none 0 0 0 w (by omega) (by omega) (by omega) (by omega)
  change Calls Tryz.prog 116 _ _ _ at h
  refine h.mono ?_
  rintro e w' ⟨rfl, rfl⟩
  exact ⟨_, rfl, World.ownsRow_nil _ _ _ _, Below.refl _ _⟩
 ·have h := Any8.slices_Grow_grow Tryz.laysGrow i0 _ hi hz0 (by omega) none 0 0 n [] w (by omega) (by omega) (by rw [hz2]; omega) (by omega) (by simp) (fun _ => rfl) (fun a ha => by cases ha)
  change Calls Tryz.prog 116 _ _ _ at h
  refine h.mono ?_
  rintro e w' ⟨rfl, rfl⟩
  refine ⟨_, rfl, ⟨rfl, .inr ⟨w.heap.size, _, _, rfl, Nat.le_refl _, heap_alloc_new _ _, Nat.zero_le _, grownCap_le_maxLen _ _ _ _ (by unfold maxLen; omega), ?_, by simp [Lib.byteCells]⟩⟩, ?_⟩
  ·rw [Array.size_append, Array.size_append, size_zeroCells, size_zeroCells]
   have hg := grownCap_ge w (0 + n) 0 5
   show (0 : Nat) + (0 + n - 0) * 1 + (grownCap w (0 + n) 0 5 - (0 + n)) * 1 = grownCap w (0 + n) 0 5 * 1
   omega
  ·exact ((Below.refl _ _).drew).alloc (Nat.le_refl _) _

theorem flat_len_le (ls : List Lr) (k : Nat) : (flat (ls.take k)).length ≤ (flat ls).length := by
 have : flat ls = flat (ls.take k) ++ flat (ls.drop k) := by
  unfold flat
  rw [← List.flatten_append, ← List.map_append, List.take_append_drop]
 rw [this, List.length_append]; omega

theorem concat_any (n c : Nat) (a : Option Addr) (ls : List Lr) (w : World) (hL : ListsIn w a ls) (hn : ls.length = n) (hm : n ≤ 1000000) (ht : (flat ls).length ≤ 100000000) :
  Calls Tryz.prog 108 #[.slice a n c] w fun e w' => ∃ v, e = .returned v ∧ Bs w.heap.size w' v (flat ls) ∧ Below w.heap.size w w' := by
 obtain ⟨i0, hi, hz0, hz1, hz2⟩ := info_parts info_u8
 have HH : Aside (ListsIn w a ls ∧ ls.length = n ∧ (flat ls).length ≤ 100000000) := ⟨hL, hn, ht⟩
 clear hL hn ht
 go_enter Tryz.func108, Tryz.ntmps108
 go_wp2_with fail
 go_loopg [3, 5, 11] n (fun g1 v s vi wr => ∃ (k m : Nat), v = .int .i64 (m : Int) ∧ vi = .int .i64 k ∧ k ≤ n ∧ n - k ≤ g1 ∧ m ≤ 100000000 ∧ Aside (m = (flat (ls.take k)).length) ∧ wr = w)
 case atStart => exact ⟨0, 0, rfl, rfl, by omega, by omega, by omega, rfl, rfl⟩
 case round =>
  obtain ⟨k, m, rfl, rfl, hk, hg1, hm2, HM, rfl⟩ := hrel
  by_cases hlt : k < n
  ·have hltz : (k : Int) < (n : Int) := by omega
   have hkl : k < ls.length := by rw [HH.out.2.1]; exact hlt
   obtain ⟨b, off, ha, hc⟩ := HH.out.1.get hkl
   subst ha
   have r0 := (hc k hkl).1
   clear hc
   have HF : Aside ((flat (ls.take (k + 1))).length = m + (ln ls k).l.length ∧ m + (ln ls k).l.length ≤ 100000000) := by
    have e : (flat (ls.take (k + 1))).length = m + (ln ls k).l.length := by rw [flat_take hkl, List.length_append, HM.out]
    exact ⟨e, by rw [← e]; exact Nat.le_trans (flat_len_le ls (k + 1)) HH.out.2.2⟩
   generalize (ln ls k).l.length = q at r0 HF
   generalize (ln ls k).cap = lc at r0
   generalize (ln ls k).a = la at r0
   have hq : m + q ≤ 100000000 := HF.out.2
   go_wp2
   go_roundg (n - (k + 1))
   case measure => omega
   case rel => exact ⟨k + 1, m + q, by go_num, by go_num, by omega, by omega, hq, HF.out.1.symm, rfl⟩
  ·have hltz : ¬ (k : Int) < (n : Int) := by omega
   have hG := grow_any m wr hm2
   clear HM
   go_wp2_with (go_at_call 116; refine hG.mono ?_; rintro e w2 ⟨v2, rfl, hown2, hb2⟩; refine Hid.out ?_)
   refine hid ?_
   have S2 : Aside (Bs wr.heap.size w2 v2 [] ∧ Below wr.heap.size wr w2) := ⟨hown2, hb2⟩
   clear hown2 hb2 hG
   obtain ⟨W0, hW0⟩ : ∃ W0, wr = W0 := ⟨_, rfl⟩
   have HW : Hid (wr = W0) := hW0
   rw [hW0] at S2 HH
   clear hW0
   go_wp2_with fail
   go_loopg [6, 8, 27] n (fun g1 v s vi wr => ∃ (k : Nat), vi = .int .i64 k ∧ k ≤ n ∧ n - k ≤ g1 ∧ Aside (Bs W0.heap.size wr v (flat (ls.take k)) ∧ Below W0.heap.size W0 wr))
   case atStart => exact ⟨0, rfl, by omega, by omega, S2.out⟩
   case round =>
    clear S2
    obtain ⟨k, rfl, hk, hg1, SK⟩ := hrel
    by_cases hlt : k < n
    ·have hltz : (k : Int) < (n : Int) := by omega
     have hkl : k < ls.length := by rw [HH.out.2.1]; exact hlt
     obtain ⟨b, off, ha, hc⟩ := (HH.out.1.keep SK.out.2).get hkl
     subst ha
     obtain ⟨r0, r1⟩ := hc k hkl
     clear hc
     have HT : Aside (flat (ls.take (k + 1)) = flat (ls.take k) ++ (ln ls k).l ∧ (flat (ls.take k)).length + (ln ls k).l.length ≤ 100000000) := by
      refine ⟨flat_take hkl, ?_⟩
      rw [← List.length_append, ← flat_take hkl]
      exact Nat.le_trans (flat_len_le ls (k + 1)) HH.out.2.2
     generalize (ln ls k).l = q at r0 r1 HT
     generalize (ln ls k).cap = lc at r0
     generalize (ln ls k).a = la at r0 r1
     generalize flat (ls.take k) = done at SK HT
     have hown : wr.ownsRow W0.heap.size 5 1 u6 done.length (Lib.byteCells done) := SK.out.1
     have hsz := SK.out.2.size
     have hsum := HT.out.2
     obtain ⟨dn, hdn⟩ : ∃ dn, done.length = dn := ⟨_, rfl⟩
     have HD : Hid (done.length = dn) := hdn
     rw [hdn] at hown hsum
     clear hdn
     by_cases h0 : q.length = 0
     ·have hq : q = [] := List.eq_nil_of_length_eq_zero h0
      subst hq
      have S3 : Aside (Bs W0.heap.size wr u6 (flat (ls.take (k + 1))) ∧ Below W0.heap.size W0 wr) := by
       rw [HT.out.1, List.append_nil]; exact SK.out
      clear SK HT h0 r1
      simp only [List.length_nil] at r0 hsum
      go_wp2_with (at_builtin; refine wpList_append_zero rfl (.tmp 31) (.tmp 32) 54 rfl W0.heap.size 5 i0 1 Tryz.underlying54 hi _ _ _ rfl hown _ _ rfl ?_)
      go_roundg (n - (k + 1))
      case measure => omega
      case rel => exact ⟨k + 1, by go_num, by omega, by omega, S3⟩
     ·obtain ⟨b2, off2, ha2, hc2⟩ := r1.get (by omega)
      subst ha2
      have hnews : ∀ j u, (Lib.byteCells q)[j]? = some u → wr.cell? ((⟨b2, off2, none⟩ : Addr).add j) = some u := fun j u hj => by
       rw [addr_add]
       simp only [Lib.byteCells, List.getElem?_map, Option.map_eq_some_iff] at hj
       obtain ⟨y, hy, rfl⟩ := hj
       obtain ⟨hjl, e⟩ := List.getElem?_eq_some_iff.1 hy
       rw [hc2 j hjl]
       simp [bth, hjl, e]
      have hone := byteCells_one q
      obtain ⟨m, hmq⟩ : ∃ m, q.length = m := ⟨_, rfl⟩
      have hlen : (Lib.byteCells q).length = m * 1 := by rw [byteCells_len, hmq]; omega
      have HQ : Hid (q.length = m) := hmq
      rw [hmq] at r0 hsum h0
      have S3 : Aside (∀ g cap W1, W1.ownsRow W0.heap.size 5 1 (.slice (some ⟨g, 0, none⟩) (dn + m) cap) (dn + m) (Lib.byteCells done ++ Lib.byteCells q) → wr.grownBy W1 u6.ownBlock → (u6.ownBlock = some g ∨ g = wr.heap.size) → Bs W0.heap.size W1 (.slice (some ⟨g, 0, none⟩) (dn + m) cap) (flat (ls.take (k + 1))) ∧ Below W0.heap.size W0 W1) := fun g cap W1 ho hg hat => by
       obtain ⟨p1, p2⟩ := Bs.pushes HD.out hmq ho hg hat
       rw [HT.out.1]
       exact ⟨p1, SK.out.2.trans (p2.below SK.out.1 hsz)⟩
      clear SK HT r1 hc2 hmq
      go_wp2_with (at_builtin; refine wpList_append_lies _ rfl (.tmp 31) (.tmp 32) 54 rfl W0.heap.size 5 i0 _ 1 1 Tryz.underlying54 hi hz0 hz1 hz2 rfl (by decide) _ _ _ rfl hown ⟨b2, off2, none⟩ m _ (Lib.byteCells q) rfl hlen hnews hone (by omega) (by unfold maxLen; omega) (by omega) hsz _ rfl ?_; intro g cap3 w3 hown3 hg3 hat3 _; refine Hid.out ?_)
      refine hid ?_
      have S4 := S3.out g cap3 w3 hown3 hg3 hat3
      have S5 : Aside (_ ∧ _) := S4
      clear S4 hown3 hg3 hat3 S3 hown hnews hone hlen
      go_wp2
      go_roundg (n - (k + 1))
      case measure => omega
      case rel => exact ⟨k + 1, by go_num, by omega, by omega, S5.out⟩
    ·have hltz : ¬ (k : Int) < (n : Int) := by omega
     have S3 : Aside (Bs W0.heap.size wr u6 (flat ls) ∧ Below W0.heap.size W0 wr) := by
      have h := SK.out
      rwa [List.take_of_length_le (by rw [HH.out.2.1]; omega)] at h
     clear SK
     go_wp2
     go_ret
     rw [HW.out]
     exact ⟨_, rfl, S3.out.1, S3.out.2⟩
end frame
namespace frame
open bytes
open code (putB putB_len)
open sum (sumB flat)
theorem sl_of_box {w : World} {b k : Nat} {cs : Array Value} {t : TypeId} {l : List UInt8} (h : bytes.Boxed w b cs t) (hl : l.length = k) (hk : k ≤ 100) (hc : ∀ i, i < k → cs[i]? = some (.int .u8 (bth l i))) : Sl w (some ⟨b, 0, none⟩) k k l :=
 ⟨⟨.inr ⟨b, 0, rfl, fun i hi => by rw [Nat.zero_add]; exact h.cell (hc i (by omega))⟩, fun _ p hp => by injection hp with hp; subst hp; exact h.lt, hl, Nat.le_refl _⟩, by omega⟩

theorem lists3 {w W : World} {a b d : Option Addr} {n c m e p f g : Nat} {l k q : List UInt8} (h : Sl w a n c l) (h' : Sl w b m e k) (h'' : Sl w d p f q) (hb : Below w.heap.size w W) (hr : ∃ t, bytes.Boxed W g #[.slice a n c, .slice b m e, .slice d p f] t) : ListsIn W (some ⟨g, 0, none⟩) [⟨a, c, l⟩, ⟨b, e, k⟩, ⟨d, f, q⟩] := by
 obtain ⟨t, hx⟩ := hr
 have e1 := h.at_.len
 have e2 := h'.at_.len
 have e3 := h''.at_.len
 refine .inr ⟨g, 0, rfl, fun i hi => ?_⟩
 match i, hi with
 | 0, _ => exact ⟨by rw [Nat.zero_add]; show _ = some (Value.slice a l.length c); rw [e1]; exact hx.cell rfl, (h.keep hb).at_.mem⟩
 | 1, _ => exact ⟨by rw [Nat.zero_add]; show _ = some (Value.slice b k.length e); rw [e2]; exact hx.cell rfl, (h'.keep hb).at_.mem⟩
 | 2, _ => exact ⟨by rw [Nat.zero_add]; show _ = some (Value.slice d q.length f); rw [e3]; exact hx.cell rfl, (h''.keep hb).at_.mem⟩

theorem wrap_any (n c : Nat) (a : Option Addr) (l : List UInt8) (w : World) (h : Sl w a n c l) (hn : n ≤ 60000) :
  Calls Tryz.prog 74 #[.slice a n c] w fun e w' => ∃ v, e = .returned (.tuple #[v, .int .u16 0]) ∧ Bs w.heap.size w' v (wrapB l) ∧ Below w.heap.size w w' := by
 have hz : ¬ (60000 : Int) < (n : Int) := by omega
 have hl := h.at_.len
 have hH := headOf_any n c a w hn
 have hp3 := putB_len n 3
 obtain ⟨hd, hhd⟩ : ∃ hd, putB n 3 = hd := ⟨_, rfl⟩
 rw [hhd] at hH hp3
 have HN : Aside (Sl w a n c l ∧ putB l.length 3 = hd ∧ hd.length = 3) := ⟨h, by rw [hl, hhd], hp3⟩
 clear h hl hp3 hhd
 unfold hv at hH
 go_enter Tryz.func74, Tryz.ntmps74
 go_wp2_with (go_at_call 106; refine hH.mono ?_; rintro e w1 ⟨rfl, hb1⟩; refine Hid.out ?_)
 refine hid ?_
 have hx1 := bytes.Boxed.new w1 #[.int .u8 (bth hd 0), .int .u8 (bth hd 1), .int .u8 (bth hd 2)] 159
 have hbel1 : Below w.heap.size w (w1.alloc (.cells #[.int .u8 (bth hd 0), .int .u8 (bth hd 1), .int .u8 (bth hd 2)] 159)) := hb1.alloc hb1.size _
 have hC := tailOf_any hd HN.out.2.2 n c a l _ (HN.out.1.keep hbel1)
 have hp4 := putB_len (sumB (hd ++ l)) 4
 obtain ⟨t, ht⟩ : ∃ t, putB (sumB (hd ++ l)) 4 = t := ⟨_, rfl⟩
 rw [ht] at hC hp4
 unfold hv tv at hC
 have H1 : Aside (bytes.Boxed (w1.alloc (.cells #[.int .u8 (bth hd 0), .int .u8 (bth hd 1), .int .u8 (bth hd 2)] 159)) w1.heap.size #[.int .u8 (bth hd 0), .int .u8 (bth hd 1), .int .u8 (bth hd 2)] 159 ∧ Below w.heap.size w (w1.alloc (.cells #[.int .u8 (bth hd 0), .int .u8 (bth hd 1), .int .u8 (bth hd 2)] 159))) := ⟨hx1, hbel1⟩
 have HT : Aside (t.length = 4 ∧ wrapB l = hd ++ l ++ t) := ⟨hp4, by unfold wrapB headB; rw [HN.out.2.1, ht]⟩
 clear hx1 hbel1 hH hb1 hp4 ht
 go_upto_region 5 with (go_at_call 107; refine hC.mono ?_; rintro e w2 ⟨rfl, hb2⟩; refine Hid.out ?_)
 refine hid ?_
 have hx2 := bytes.Boxed.new w2 #[.int .u8 (bth t 0), .int .u8 (bth t 1), .int .u8 (bth t 2), .int .u8 (bth t 3)] 162
 have hx1 := H1.out.1.below hb2
 have hbel2 : Below w.heap.size w w2 := H1.out.2.trans (hb2.mono H1.out.2.size)
 clear hC hb2
 go_upto_region 5 with fail
 generalize hw3 : w2.alloc (.cells #[.int .u8 (bth t 0), .int .u8 (bth t 1), .int .u8 (bth t 2), .int .u8 (bth t 3)] 162) = w3 at hx2
 have hbel3 : Below w.heap.size w w3 := by rw [← hw3]; exact hbel2.alloc hbel2.size _
 have hx3 : bytes.Boxed w3 w1.heap.size #[.int .u8 (bth hd 0), .int .u8 (bth hd 1), .int .u8 (bth hd 2)] 159 := by rw [← hw3]; exact hx1.below ((Below.refl _ _).alloc (Nat.le_refl _) _)
 have hC : ∀ W g, Below w3.heap.size w3 W → (∃ t, bytes.Boxed W g #[.slice (some ⟨w1.heap.size, 0, none⟩) 3 3, .slice a n c, .slice (some ⟨w2.heap.size, 0, none⟩) 4 4] t) →
   Calls Tryz.prog 108 #[.slice (some ⟨g, 0, none⟩) 3 3] W fun e w' => ∃ v, e = .returned v ∧ Aside (Bs W.heap.size w' v (wrapB l) ∧ Below W.heap.size W w') := fun W g hb hr => by
  have s1 : Sl w3 (some ⟨w1.heap.size, 0, none⟩) 3 3 hd := sl_of_box hx3 HN.out.2.2 (by omega) (fun i hi => by
   match i, hi with
   | 0, _ => rfl
   | 1, _ => rfl
   | 2, _ => rfl)
  have s2 : Sl w3 (some ⟨w2.heap.size, 0, none⟩) 4 4 t := sl_of_box hx2 HT.out.1 (by omega) (fun i hi => by
   match i, hi with
   | 0, _ => rfl
   | 1, _ => rfl
   | 2, _ => rfl
   | 3, _ => rfl)
  have hf : flat [⟨some ⟨w1.heap.size, 0, none⟩, 3, hd⟩, ⟨a, c, l⟩, ⟨some ⟨w2.heap.size, 0, none⟩, 4, t⟩] = wrapB l := by rw [HT.out.2]; simp [flat]
  refine (concat_any 3 3 _ _ W (lists3 s1 (HN.out.1.keep hbel3) s2 hb hr) rfl (by omega) (by rw [hf, wrapB_len, HN.out.1.at_.len]; omega)).mono ?_
  rintro e w' ⟨v, h1, h2, h3⟩
  rw [hf] at h2
  exact ⟨v, h1, h2, h3⟩
 have HB : Aside (Below w.heap.size w w3) := hbel3
 clear hx1 hx2 hx3 hbel2 hbel3 H1 HT HN
 go_region_with (go_at_call 108; refine (hC _ _ (by first | exact (Below.refl _ _).drew.alloc (by simp) _ | (rw [← hw3]; exact (Below.refl _ _).drew.alloc (by simp) _)) ⟨_, bytes.Boxed.new _ _ _⟩).mono ?_; rintro e w4 ⟨v, rfl, h4⟩)
 all_goals
  go_wp2
  go_ret2
  have hsz := HB.out.size
  have hb5 : Below w3.heap.size w3 (w3.drew.alloc (.cells #[.slice (some ⟨w1.heap.size, 0, none⟩) 3 3, .slice a n c, .slice (some ⟨w2.heap.size, 0, none⟩) 4 4] 54)) := (Below.refl _ _).drew.alloc (by simp) _
  exact ⟨_, rfl, own_mono h4.out.1 (by have := hb5.size; omega), HB.out.trans ((hb5.trans (h4.out.2.mono hb5.size)).mono hsz)⟩
end frame
end Go.Proofs.YtlcjllgfpfldlaaGreat
