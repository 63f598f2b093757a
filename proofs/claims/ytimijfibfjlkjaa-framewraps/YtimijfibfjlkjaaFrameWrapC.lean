/-
  The contract of frame.Wrap.
-/
import Derived.Test.YtimijfibfjlkjaaFrameHead
import Derived.Test.YtimijfibfjlkjaaFrameConcat
namespace Go.Proofs.Ytimijfibfjlkjaa.frame
open Go.ChangeShapes Go.WideShapes Go.ChangeAt Go.RowKit Go.Deep
open Go.Proofs.Ytimijfibfjlkjaa.bytes
open Go.Proofs.Ytimijfibfjlkjaa.code (putB putB_len putB_append valB valB_put)
open Go.Proofs.Ytimijfibfjlkjaa.sum (sumB sum_u32 flat)
set_option linter.unusedVariables false
set_option maxRecDepth 100000

theorem sl_of_box {w : World} {b k : Nat} {cs : Array Value} {t : TypeId} {l : List UInt8} (h : Boxed w b cs t) (hl : l.length = k) (hk : k ≤ 100) (hc : ∀ i, i < k → cs[i]? = some (.int .u8 (bth l i))) : Sl w (some ⟨b, 0, none⟩) k k l :=
  ⟨⟨.inr ⟨b, 0, rfl, fun i hi => by rw [Nat.zero_add]; exact h.cell (hc i (by omega))⟩, fun _ p hp => by injection hp with hp; subst hp; exact h.lt, hl, Nat.le_refl _⟩, by omega⟩

/-- three lists in a row -/
theorem lists3 {w W : World} {a b d : Option Addr} {n c m e p f g : Nat} {l k q : List UInt8} (h : Sl w a n c l) (h' : Sl w b m e k) (h'' : Sl w d p f q) (hb : Below w.heap.size w W) (hr : ∃ t, Boxed W g #[.slice a n c, .slice b m e, .slice d p f] t) : ListsIn W (some ⟨g, 0, none⟩) [⟨a, c, l⟩, ⟨b, e, k⟩, ⟨d, f, q⟩] := by
  obtain ⟨t, hx⟩ := hr
  have e1 := h.at_.len
  have e2 := h'.at_.len
  have e3 := h''.at_.len
  refine .inr ⟨g, 0, rfl, fun i hi => ?_⟩
  match i, hi with
  | 0, _ => exact ⟨by rw [Nat.zero_add]; show _ = some (Value.slice a l.length c); rw [e1]; exact hx.cell rfl, (h.keep hb).at_.mem⟩
  | 1, _ => exact ⟨by rw [Nat.zero_add]; show _ = some (Value.slice b k.length e); rw [e2]; exact hx.cell rfl, (h'.keep hb).at_.mem⟩
  | 2, _ => exact ⟨by rw [Nat.zero_add]; show _ = some (Value.slice d q.length f); rw [e3]; exact hx.cell rfl, (h''.keep hb).at_.mem⟩

set_option maxHeartbeats 4000000 in
theorem wrap_no (n c : Nat) (a : Option Addr) (w : World) (hn : 60000 < n) (hm : n ≤ 9223372036854775807) :
    Calls Try.prog 10 #[.slice a n c] w fun e w' => e = .returned (.tuple #[.slice none 0 0, .int .u16 3]) ∧ w' = w := by
  have hz : (60000 : Int) < (n : Int) := by omega
  go_enter Try.func10, Try.ntmps10
  go_wp2
  go_ret2
  exact ⟨rfl, rfl⟩

set_option maxHeartbeats 4000000 in
theorem wrap_any (n c : Nat) (a : Option Addr) (l : List UInt8) (w : World) (h : Sl w a n c l) (hn : n ≤ 60000) :
    Calls Try.prog 10 #[.slice a n c] w fun e w' => ∃ v, e = .returned (.tuple #[v, .int .u16 0]) ∧ Bs w.heap.size w' v (wrapB l) ∧ Below w.heap.size w w' := by
  have hz : ¬ (60000 : Int) < (n : Int) := by omega
  have hl := h.at_.len
  have hH := headOf_any n c a w hn
  have hp3 := putB_len n 3
  obtain ⟨hd, hhd⟩ : ∃ hd, putB n 3 = hd := ⟨_, rfl⟩
  rw [hhd] at hH hp3
  have HN : Aside (Sl w a n c l ∧ putB l.length 3 = hd ∧ hd.length = 3) := ⟨h, by rw [hl, hhd], hp3⟩
  clear h hl hp3 hhd
  unfold hv at hH
  go_enter Try.func10, Try.ntmps10
  go_wp2_with (go_at_call 17; refine hH.mono ?_; rintro e w1 ⟨rfl, hb1⟩; refine Hid.out ?_)
  refine hid ?_
  have hx1 := Boxed.new w1 #[.int .u8 (bth hd 0), .int .u8 (bth hd 1), .int .u8 (bth hd 2)] 42
  have hbel1 : Below w.heap.size w (w1.alloc (.cells #[.int .u8 (bth hd 0), .int .u8 (bth hd 1), .int .u8 (bth hd 2)] 42)) := hb1.alloc hb1.size _
  have hC := tailOf_any hd HN.out.2.2 n c a l _ (HN.out.1.keep hbel1)
  have hp4 := putB_len (sumB (hd ++ l)) 4
  obtain ⟨t, ht⟩ : ∃ t, putB (sumB (hd ++ l)) 4 = t := ⟨_, rfl⟩
  rw [ht] at hC hp4
  unfold hv tv at hC
  have H1 : Aside (Boxed (w1.alloc (.cells #[.int .u8 (bth hd 0), .int .u8 (bth hd 1), .int .u8 (bth hd 2)] 42)) w1.heap.size #[.int .u8 (bth hd 0), .int .u8 (bth hd 1), .int .u8 (bth hd 2)] 42 ∧ Below w.heap.size w (w1.alloc (.cells #[.int .u8 (bth hd 0), .int .u8 (bth hd 1), .int .u8 (bth hd 2)] 42))) := ⟨hx1, hbel1⟩
  have HT : Aside (t.length = 4 ∧ wrapB l = hd ++ l ++ t) := ⟨hp4, by unfold wrapB headB; rw [HN.out.2.1, ht]⟩
  clear hx1 hbel1 hH hb1 hp4 ht
  go_upto_region 5 with (go_at_call 18; refine hC.mono ?_; rintro e w2 ⟨rfl, hb2⟩; refine Hid.out ?_)
  refine hid ?_
  have hx2 := Boxed.new w2 #[.int .u8 (bth t 0), .int .u8 (bth t 1), .int .u8 (bth t 2), .int .u8 (bth t 3)] 45
  have hx1 := H1.out.1.below hb2
  have hbel2 : Below w.heap.size w w2 := H1.out.2.trans (hb2.mono H1.out.2.size)
  clear hC hb2
  go_upto_region 5 with fail
  generalize hw3 : w2.alloc (.cells #[.int .u8 (bth t 0), .int .u8 (bth t 1), .int .u8 (bth t 2), .int .u8 (bth t 3)] 45) = w3 at hx2
  have hbel3 : Below w.heap.size w w3 := by rw [← hw3]; exact hbel2.alloc hbel2.size _
  have hx3 : Boxed w3 w1.heap.size #[.int .u8 (bth hd 0), .int .u8 (bth hd 1), .int .u8 (bth hd 2)] 42 := by rw [← hw3]; exact hx1.below ((Below.refl _ _).alloc (Nat.le_refl _) _)
  have hC : ∀ W g, Below w3.heap.size w3 W → (∃ t, Boxed W g #[.slice (some ⟨w1.heap.size, 0, none⟩) 3 3, .slice a n c, .slice (some ⟨w2.heap.size, 0, none⟩) 4 4] t) →
      Calls Try.prog 19 #[.slice (some ⟨g, 0, none⟩) 3 3] W fun e w' => ∃ v, e = .returned v ∧ Aside (Bs W.heap.size w' v (wrapB l) ∧ Below W.heap.size W w') := fun W g hb hr => by
    have s1 : Sl w3 (some ⟨w1.heap.size, 0, none⟩) 3 3 hd := sl_of_box hx3 HN.out.2.2 (by omega) (fun i hi => by
      match i, hi with
      | 0, _ => rfl
      | 1, _ => rfl
      | 2, _ => rfl)
    have s2 : Sl w3 (some ⟨w2.heap.size, 0, none⟩) 4 4 t := sl_of_box hx2 HT.out.1 (by omega) (fun i hi => by
      match i, hi with
      | 0, _ => rfl
      | 1, _ => rfl
      | 2, _ => rfl
      | 3, _ => rfl)
    have hf : flat [⟨some ⟨w1.heap.size, 0, none⟩, 3, hd⟩, ⟨a, c, l⟩, ⟨some ⟨w2.heap.size, 0, none⟩, 4, t⟩] = wrapB l := by rw [HT.out.2]; simp [flat]
    refine (concat_any 3 3 _ _ W (lists3 s1 (HN.out.1.keep hbel3) s2 hb hr) rfl (by omega) (by rw [hf, wrapB_len, HN.out.1.at_.len]; omega)).mono ?_
    rintro e w' ⟨v, h1, h2, h3⟩
    rw [hf] at h2
    exact ⟨v, h1, h2, h3⟩
  have HB : Aside (Below w.heap.size w w3) := hbel3
  clear hx1 hx2 hx3 hbel2 hbel3 H1 HT HN
  go_region_with (go_at_call 19; refine (hC _ _ (by first | exact (Below.refl _ _).drew.alloc (by simp) _ | (rw [← hw3]; exact (Below.refl _ _).drew.alloc (by simp) _)) ⟨_, Boxed.new _ _ _⟩).mono ?_; rintro e w4 ⟨v, rfl, h4⟩)
  all_goals
    go_wp2
    go_ret2
    have hsz := HB.out.size
    have hb5 : Below w3.heap.size w3 (w3.drew.alloc (.cells #[.slice (some ⟨w1.heap.size, 0, none⟩) 3 3, .slice a n c, .slice (some ⟨w2.heap.size, 0, none⟩) 4 4] 22)) := (Below.refl _ _).drew.alloc (by simp) _
    exact ⟨_, rfl, own_mono h4.out.1 (by have := hb5.size; omega), HB.out.trans ((hb5.trans (h4.out.2.mono hb5.size)).mono hsz)⟩
end Go.Proofs.Ytimijfibfjlkjaa.frame
