/-
 The chapter's own functions: put, Wrap, first and Scan.
 The chapter's own Wrap.
 The chapter's own first.
 The chapter's own Scan.
-/
import Derived.Test.YtlcjllgfpfldlaaGreatByteGrow
import Derived.Test.YtlcjllgfpfldlaaGreatWalZ06K
set_option maxHeartbeats 8000000
open Go.ChangeShapes Go.WideShapes Go.ChangeAt Go.RowKit Go.Deep
set_option linter.unusedVariables false
set_option maxRecDepth 100000
set_option linter.unusedSimpArgs false
namespace Go.Proofs.YtlcjllgfpfldlaaGreat
namespace frame
open bytes
open code (putB putB_len valB)
open sum (sumB sum_u32 ref1)
theorem pow_eight (k : Nat) : 2 ^ (8 * k) = 256 ^ k := by rw [Nat.pow_mul]
theorem byte_at (X k : Nat) : ((X : Int) / 2 ^ (8 * k) % 256) = ((X / 256 ^ k % 256 : Nat) : Int) := by
 have e : ((2 : Int) ^ (8 * k)) = ((256 ^ k : Nat) : Int) := by rw [← pow_eight]; simp
 rw [e]; simp

theorem refPut_any (B size X : Nat) (hX : X < 4294967296) (hs : size ≤ 4) (v : Value) (l : List UInt8) (w : World) (ho : Bs B w v l) (hB : B ≤ w.heap.size) (hl : l.length ≤ 1000000000) :
  Calls Tryz.prog 60 #[v, .int .u32 X, .int .i64 size] w fun e w' => ∃ v', e = .returned v' ∧ Bs B w' v' (l ++ putB X size) ∧ Gr w v w' v' := by
 obtain ⟨i0, hi, hz0, hz1, hz2⟩ := info_parts info_u8
 have H : Aside (Bs B w v l) := ho
 clear ho
 go_enter Tryz.func60, Tryz.ntmps60
 go_wp2_with fail
 go_loopg [0, 7] size (fun g1 vv vi wr => ∃ (k : Nat) (j : Int), vi = .int .i64 j ∧ Aside (j = (k : Int) - 1) ∧ k ≤ size ∧ k ≤ g1 ∧ Aside (∃ done, done ++ putB X k = l ++ putB X size ∧ Bs B wr vv done ∧ Gr w v wr vv))
 case atStart => exact ⟨size, _, rfl, by go_num, Nat.le_refl _, Nat.le_refl _, l, rfl, H.out, Gr.refl _ _⟩
 case round =>
  obtain ⟨k, j, rfl, hj, hk, hg1, SK⟩ := hrel
  rcases k with _ | k
  ·have hjz : ¬ 0 ≤ j := by have := hj.out; omega
   have S2 : Aside (Bs B wr u0 (l ++ putB X size) ∧ Gr w v wr u0) := by
    obtain ⟨done, hd, h1, h2⟩ := SK.out
    rw [putB, List.append_nil] at hd
    rw [← hd]; exact ⟨h1, h2⟩
   clear SK hj
   go_wp2
   go_ret
   exact ⟨_, rfl, S2.out.1, S2.out.2⟩
  ·have hjz : 0 ≤ j := by have := hj.out; omega
   have hj2 : j = (k : Int) := by have := hj.out; omega
   subst hj2
   obtain ⟨done, hd, hown, hgr⟩ := SK.out
   have hlen : done.length ≤ l.length + 8 := by
    have := congrArg List.length hd
    simp only [List.length_append, putB_len] at this
    omega
   have HBS : Aside (B ≤ wr.heap.size) := Nat.le_trans hB hgr.grown.size
   obtain ⟨n, hn⟩ : ∃ n, done.length = n := ⟨_, rfl⟩
   have HN : Hid (done.length = n) := hn
   have hown2 : wr.ownsRow B 5 1 u0 n (Lib.byteCells done) := by rw [← hn]; exact hown
   rw [hn] at hlen
   have HG : Aside (Gr w v wr u0) := hgr
   have HD : Hid (done ++ putB X (k + 1) = l ++ putB X size) := hd
   clear SK hj hd hown hgr hn
   go_wp2_with (at_builtin; refine wpList_append_lies _ rfl _ _ 54 rfl B 5 i0 _ 1 1 Tryz.underlying54 hi hz0 hz1 hz2 rfl (by decide) _ n _ rfl (hown2.alloc _) ⟨wr.heap.size, 0, none⟩ 1 1 [_] rfl rfl (cell_one_new _ _ _) (by intro u hu; simp at hu; subst hu; rfl) (by omega) (by unfold maxLen; omega) (by omega) (by have := HBS.out; simp; omega) (wr.heap.size + 1) (by simp) ?_; intro g c3 w3 hown3 hgrow hat hglt)
   have S3 : Aside (Bs B w3 (.slice (some ⟨g, 0, none⟩) (n + 1) c3) (done ++ [UInt8.ofNat (X / 256 ^ k)]) ∧ Gr w v w3 (.slice (some ⟨g, 0, none⟩) (n + 1) c3)) := by
    obtain ⟨p1, p2⟩ := Bs.push HN.out (x := X / 256 ^ k) (byte_at X k) hown3 hgrow hat
    exact ⟨p1, HG.out.trans p2⟩
   clear hown3 hgrow hat hglt hown2
   go_wp2
   go_roundg k
   case measure => omega
   case rel =>
    refine ⟨k, _, rfl, by go_num, by omega, Nat.le_refl _, _, ?_, S3.out.1, S3.out.2⟩
    rw [List.append_assoc, ← HD.out]; simp [putB]
theorem refWrap_any (n c : Nat) (a : Option Addr) (l : List UInt8) (w : World) (h : Sl w a n c l) (hn : n ≤ 60000) :
  Calls Tryz.prog 35 #[.slice a n c] w fun e w' => ∃ v, e = .returned (.tuple #[v, .int .i64 0]) ∧ Bs w.heap.size w' v (wrapB l) ∧ Below w.heap.size w w' := by
 have hz : ¬ (60000 : Int) < (n : Int) := by omega
 obtain ⟨i0, hi, hz0, hz1, hz2⟩ := info_parts info_u8
 have hC := refPut_any w.heap.size 3 n (by omega) (by omega) (.slice none 0 0) [] w (Bs.none _ _) (Nat.le_refl _) (by simp)
 have hlen := h.at_.len
 have H : Aside (Sl w a n c l) := h
 clear h
 go_enter Tryz.func35, Tryz.ntmps35
 go_upto_region 5 with (go_at_call 60; refine hC.mono ?_; rintro e w1 ⟨v1, rfl, hown1, hgr1⟩; refine Hid.out ?_)
 refine hid ?_
 rw [List.nil_append] at hown1
 have hb1 : Below w.heap.size w w1 := hgr1.below (Bs.none _ _) (Nat.le_refl _)
 have hs1 := H.out.keep hb1
 obtain ⟨g1, c1, rfl, ho8⟩ := hown1.form1 (by rw [putB_len]; omega)
 rw [putB_len] at ho8
 have hown : w1.ownsRow w.heap.size 5 1 (.slice (some ⟨g1, 0, none⟩) (putB n 3).length c1) 3 (Lib.byteCells (putB n 3)) := by have := hown1; unfold Bs at this; rwa [show (putB n 3).length = 3 from putB_len _ _] at this ⊢
 rw [show (putB n 3).length = 3 from putB_len _ _] at hown ⊢
 have hsz := hb1.size
 have S1 : Aside (Bs w.heap.size w1 (.slice (some ⟨g1, 0, none⟩) 3 c1) (putB n 3) ∧ Below w.heap.size w w1 ∧ Sl w1 a n c l) := ⟨by have := hown1; rwa [show (putB n 3).length = 3 from putB_len _ _] at this, hb1, hs1⟩
 clear hown1 hgr1 hb1 hC ho8
 go_upto_region 5 with fail
 go_cut [4] from 13 (fun t wx => ∃ (g c2 : Nat), t = .slice (some ⟨g, 0, none⟩) (n + 3) c2 ∧ Aside (Bs w.heap.size wx (.slice (some ⟨g, 0, none⟩) (n + 3) c2) (headB l) ∧ Below w.heap.size w wx))
 case first =>
  by_cases h0 : n = 0
  ·subst h0
   have hnil : l = [] := List.eq_nil_of_length_eq_zero hlen
   subst hnil
   have S2 : Aside (Bs w.heap.size w1 (.slice (some ⟨g1, 0, none⟩) (0 + 3) c1) (headB []) ∧ Below w.heap.size w w1) := ⟨by unfold headB; rw [List.append_nil]; exact S1.out.1, S1.out.2.1⟩
   go_wp2_with (at_builtin; refine wpList_append_zero rfl (.tmp 13) (.tmp 14) 54 rfl w.heap.size 5 i0 1 Tryz.underlying54 hi _ _ _ rfl hown _ _ rfl ?_)
   go_meet
   case rel => exact ⟨g1, c1, rfl, S2.out⟩
  ·obtain ⟨b, off, ha, hnews⟩ := S1.out.2.2.news (by omega)
   subst ha
   have hcl : (Lib.byteCells l).length = n * 1 := by rw [byteCells_len, hlen]; omega
   have hone := byteCells_one l
   have S2 : Aside (∀ g c3 w2, w2.ownsRow w.heap.size 5 1 (.slice (some ⟨g, 0, none⟩) (3 + n) c3) (3 + n) (Lib.byteCells (putB n 3) ++ Lib.byteCells l) → w1.grownBy w2 (some g1) → ((some g1 : Option Nat) = some g ∨ g = w1.heap.size) → Bs w.heap.size w2 (.slice (some ⟨g, 0, none⟩) (n + 3) c3) (headB l) ∧ Below w.heap.size w w2) := fun g c3 w2 ho hg hat => by
    obtain ⟨p1, p2⟩ := Bs.pushes (v := .slice (some ⟨g1, 0, none⟩) 3 c1) (putB_len n 3) hlen ho hg hat
    refine ⟨?_, S1.out.2.1.trans (p2.below S1.out.1 hsz)⟩
    unfold headB
    rw [hlen, Nat.add_comm n 3]
    exact p1
   go_wp2_with (at_builtin; refine wpList_append_lies _ rfl (.tmp 13) (.tmp 14) 54 rfl w.heap.size 5 i0 _ 1 1 Tryz.underlying54 hi hz0 hz1 hz2 rfl (by decide) _ 3 _ rfl hown ⟨b, off, none⟩ n c (Lib.byteCells l) rfl hcl hnews hone (by omega) (by unfold maxLen; omega) (by omega) hsz _ rfl ?_; intro g c3 w2 hown3 hgr3 hat3 _; refine Hid.out ?_)
   refine hid ?_
   have S3 : Aside (_ ∧ _) := S2.out g c3 w2 hown3 hgr3 hat3
   clear hown3 hgr3 hat3 hnews hcl hone S2
   go_wp2
   go_meet
   case rel => exact ⟨g, c3, by rw [Nat.add_comm], S3.out⟩
 case rest =>
  obtain ⟨g, c2, rfl, S2⟩ := hcut
  clear S1 hown hs1 hi hz0 hz1 hz2
  have e3 : (headB l).length = n + 3 := by rw [headB_len, hlen]
  have h8 : Own8 w.heap.size wc g (n + 3) c2 (headB l) := by have := S2.out.1; unfold Bs at this; rwa [e3] at this
  have hS := ref1 (h8.sl (by omega))
  have hu := sum_u32 (headB l)
  have HW : Aside (wrapB l = headB l ++ putB (sumB (headB l)) 4) := rfl
  obtain ⟨u, hu2⟩ : ∃ u, sumB (headB l) = u := ⟨_, rfl⟩
  rw [hu2] at hS hu HW
  have hP : ∀ w3, Below wc.heap.size wc w3 → Calls Tryz.prog 60 #[.slice (some ⟨g, 0, none⟩) (n + 3) c2, .int .u32 u, .int .i64 4] w3 fun e w' => ∃ v', e = .returned v' ∧ Aside (Bs w.heap.size w' v' (wrapB l) ∧ Below w.heap.size w w') := fun w3 hb3 => by
   have hb := S2.out.1.keep hb3
   have hsz3 : w.heap.size ≤ w3.heap.size := Nat.le_trans S2.out.2.size hb3.size
   refine (refPut_any w.heap.size 4 u hu (by omega) _ _ w3 hb hsz3 (by omega)).mono ?_
   rintro e w' ⟨v', h1, h2, h3⟩
   exact ⟨v', h1, by rw [HW.out]; exact h2, (S2.out.2.trans (hb3.mono S2.out.2.size)).trans (h3.below hb hsz3)⟩
  clear S2 h8 hu2 HW H hlen e3
  go_wp2_with (first | (go_at_call 61; refine hS.mono ?_; rintro e w3 ⟨rfl, hb3⟩; have hP3 := hP w3 hb3) | (go_at_call 60; refine hP3.mono ?_; rintro e w4 ⟨v4, rfl, h4⟩))
  go_ret2
  exact ⟨_, rfl, h4.out.1, h4.out.2⟩
theorem valB3' {h : List UInt8} (hh : 3 ≤ h.length) : (valB (h.take 3) : Int) = bth h 0 * 65536 + bth h 1 * 256 + bth h 2 := by
 match h, hh with
 | x :: y :: z :: r, _ => simp [valB, bth]; omega
theorem ret_v' {a b : Value} (h : a = b) : Ending.returned a = .returned b := by rw [h]
theorem bth_nat (l : List UInt8) (i : Nat) : ∃ x : Nat, bth l i = (x : Int) ∧ x < 256 := ⟨(l.getD i 0).toNat, rfl, (l.getD i 0).toNat_lt⟩

theorem refFirst_any (n c : Nat) (a : Option Addr) (l : List UInt8) (w : World) (h : Sl w a n c l) :
  Calls Tryz.prog 51 #[.slice a n c] w fun e w' => ∃ v, e = .returned (.tuple #[v, .bool (firstB l).isSome]) ∧ (∀ x, firstB l = some x → Bs w.heap.size w' v x) ∧ Below w.heap.size w w' := by
 have hl := h.at_.len
 by_cases h7 : n < 7
 ·have e : firstB l = none := by unfold firstB; rw [if_pos (by omega)]
  have hz : (n : Int) < 7 := by omega
  rw [e]
  clear h hl e
  go_enter Tryz.func51, Tryz.ntmps51
  go_wp2
  go_ret2
  exact ⟨_, rfl, fun x hx => (by cases hx), Below.refl _ _⟩
 have hz : ¬ (n : Int) < 7 := by omega
 obtain ⟨i0, hi, hz0, hz1, hz2⟩ := info_parts info_u8
 obtain ⟨b, off, ha, hc⟩ := h.at_.mem.get (by omega)
 subst ha
 have c0 := hc 0 (by omega)
 have c1 := hc 1 (by omega)
 have c2 := hc 2 (by omega)
 simp only [Nat.add_zero] at c0
 clear hc
 have hV := valB3' (h := l) (by omega)
 obtain ⟨x, hx, hx2⟩ := bth_nat l 0
 obtain ⟨y, hy, hy2⟩ := bth_nat l 1
 obtain ⟨z, hz', hz2'⟩ := bth_nat l 2
 rw [hx, hy, hz'] at hV
 rw [hx] at c0
 rw [hy] at c1
 rw [hz'] at c2
 have hmx := h.max
 have hcap := h.at_.cap
 obtain ⟨m, hm⟩ : ∃ m, valB (l.take 3) = m := ⟨_, rfl⟩
 rw [hm] at hV
 have HM : Hid (valB (l.take 3) = m) := hm
 have H : Aside (Sl w (some ⟨b, off, none⟩) n c l) := h
 have hmV : (x : Int) * 65536 + (y : Int) * 256 + (z : Int) = (m : Int) := hV.symm
 have hxm : m < 16777216 := by omega
 clear hx hy hz' hm h hl hV
 go_enter Tryz.func51, Tryz.ntmps51
 go_upto_region 3 with fail
 go_quiet (fail)
 have hbq : Below w.heap.size w (w.drewN nq) := ⟨rfl, rfl, rfl, Nat.le_refl _, fun _ _ => rfl⟩
 have H2 : Aside (Below w.heap.size w (w.drewN nq) ∧ Sl (w.drewN nq) (some ⟨b, off, none⟩) n c l) := ⟨hbq, H.out.keep hbq⟩
 generalize w.drewN nq = w2 at H2 ⊢
 clear hbq c0 c1 c2
 have hfb : firstB l = if 60000 < m ∨ l.length - 7 < m then none else if wrapB ((l.drop 3).take m) = l.take (m + 7) then some ((l.drop 3).take m) else none := by
  unfold firstB
  rw [if_neg (by rw [H.out.at_.len]; omega), HM.out]
 have HF : Hid (firstB l = _) := hfb
 have hlen := H.out.at_.len
 clear hfb HM H
 by_cases hm1 : 60000 < m
 ·have hmz : (60000 : Int) < (m : Int) := by omega
  have HN : Aside (firstB l = none) := by show _ = _; rw [HF.out, if_pos (.inl hm1)]
  clear HF
  go_wp2
  go_ret2
  exact ⟨_, by rw [HN.out]; rfl, fun x hx => (by rw [HN.out] at hx; cases hx), H2.out.1⟩
 have hmz : ¬ (60000 : Int) < (m : Int) := by omega
 by_cases hm2 : n < m + 7
 ·have hmy : (n : Int) - 7 < (m : Int) := by omega
  have HN : Aside (firstB l = none) := by show _ = _; rw [HF.out, if_pos (.inr (by omega))]
  clear HF
  go_wp2
  go_ret2
  exact ⟨_, by rw [HN.out]; rfl, fun x hx => (by rw [HN.out] at hx; cases hx), H2.out.1⟩
 have hmy : ¬ (n : Int) - 7 < (m : Int) := by omega
 have HS : Aside (firstB l = if wrapB ((l.drop 3).take m) = l.take (m + 7) then some ((l.drop 3).take m) else none) := by show _ = _; rw [HF.out, if_neg (by omega)]
 clear HF
 have hxl : ((l.drop 3).take m).length = m := by rw [List.length_take, List.length_drop]; omega
 have hsz := H2.out.1.size
 have e33 : 3 + m - 3 = m := by omega
 have hc3 : ¬ c = 3 := by omega
 have HL : Aside (((l.drop 3).take m).length = m) := hxl
 clear hxl hmV hxm hx2 hy2 hz2'
 go_upto_region 7 with fail
 go_cut [5] from 36 (fun t wx => ∃ (ax : Option Addr) (cx : Nat), t = .slice ax m cx ∧ Aside (Bs w.heap.size wx (.slice ax m cx) ((l.drop 3).take m) ∧ Below w.heap.size w wx ∧ Sl wx (some ⟨b, off, none⟩) n c l))
 case first =>
  by_cases h0 : m = 0
  ·subst h0
   have S2 : Aside (Bs w.heap.size w2 (.slice none 0 0) ((l.drop 3).take 0) ∧ Below w.heap.size w w2 ∧ Sl w2 (some ⟨b, off, none⟩) n c l) := ⟨by rw [List.take_zero]; exact Bs.none _ _, H2.out.1, H2.out.2⟩
   have hown : w2.ownsRow w.heap.size 5 1 (.slice none 0 0) 0 [] := World.ownsRow_nil _ _ _ _
   clear HS HL
   go_wp2_with (at_builtin; refine wpList_append_zero rfl (.tmp 36) (.tmp 40) 54 rfl w.heap.size 5 i0 1 Tryz.underlying54 hi _ _ _ rfl hown _ _ rfl ?_)
   go_meet
   case rel => exact ⟨none, 0, rfl, S2.out⟩
  ·have hpart := ((H2.out.2.back 3 (by omega)).front m (by omega))
   unfold shift at hpart
   rw [if_neg hc3] at hpart
   obtain ⟨b', off', ha', hnews⟩ := hpart.news (by omega)
   simp only [Option.map_some, addr_add, Option.some.injEq, Addr.mk.injEq, and_true] at ha'
   obtain ⟨rfl, rfl⟩ := ha'
   have hcl : (Lib.byteCells ((l.drop 3).take m)).length = m * 1 := by rw [byteCells_len, HL.out]; omega
   have hone := byteCells_one ((l.drop 3).take m)
   have hown : w2.ownsRow w.heap.size 5 1 (.slice none 0 0) 0 [] := World.ownsRow_nil _ _ _ _
   have S2 : Aside (∀ g c3 w3, w3.ownsRow w.heap.size 5 1 (.slice (some ⟨g, 0, none⟩) m c3) m (Lib.byteCells ((l.drop 3).take m)) → w2.grownBy w3 none → Bs w.heap.size w3 (.slice (some ⟨g, 0, none⟩) m c3) ((l.drop 3).take m) ∧ Below w.heap.size w w3 ∧ Sl w3 (some ⟨b, off, none⟩) n c l) := fun g c3 w3 ho hg => by
    have hb3 : Below w2.heap.size w2 w3 := ⟨hg.os, hg.tape, hg.output, hg.size, fun i hi => hg.block i hi (by simp)⟩
    refine ⟨?_, H2.out.1.trans (hb3.mono hsz), H2.out.2.keep hb3⟩
    unfold Bs
    rw [HL.out]
    exact ho
   clear HS hpart
   generalize hq : (l.drop 3).take m = q at hnews hcl hone S2
   have HQ : Hid ((l.drop 3).take m = q) := hq
   clear hq
   go_wp2_with (at_builtin; refine wpList_append_lies _ rfl (.tmp 36) (.tmp 40) 54 rfl w.heap.size 5 i0 _ 1 1 Tryz.underlying54 hi hz0 hz1 hz2 rfl (by decide) _ 0 [] rfl hown ⟨b, off + 3, none⟩ m (c - 3) (Lib.byteCells q) (congrArg (fun k => Value.slice (some ⟨b, off + 3, none⟩) k (c - 3)) e33) hcl hnews hone (by omega) (by unfold maxLen; omega) (by omega) hsz _ rfl ?_; intro g c3 w3 hown3 hgr3 hat3 _; refine Hid.out ?_)
   refine hid ?_
   simp only [Nat.zero_add, List.nil_append] at hown3 ⊢
   have S3 : Aside (_ ∧ _ ∧ _) := S2.out g c3 w3 hown3 hgr3
   clear hown3 hgr3 hat3 hnews hcl hone S2
   go_wp2
   go_meet
   case rel => exact ⟨_, c3, rfl, by rw [HQ.out]; exact S3.out⟩
 case rest =>
  obtain ⟨ax, cx, rfl, S2⟩ := hcut
  clear H2 hi hz0 hz1 hz2 e33 hc3
  have hslx : Sl wc ax m cx ((l.drop 3).take m) := by
   obtain ⟨a', c', e, hs⟩ := S2.out.1.sl (by rw [HL.out]; omega)
   rw [HL.out] at e hs
   injection e with e1 e2 e3
   subst e1 e3
   exact hs
  have hW := refWrap_any m cx ax _ wc hslx (by omega)
  have hwl : (wrapB ((l.drop 3).take m)).length = m + 7 := by rw [wrapB_len, HL.out]
  obtain ⟨q, hq⟩ : ∃ q, (l.drop 3).take m = q := ⟨_, rfl⟩
  rw [hq] at HS HL hW hwl S2
  clear hslx hq
  go_upto_region 9 with (go_at_call 35; refine hW.mono ?_; rintro e w4 ⟨v4, rfl, hown4, hb4⟩; refine Hid.out ?_)
  refine hid ?_
  obtain ⟨a4, c4, e4, hs4⟩ := hown4.sl (by omega)
  rw [hwl] at e4 hs4
  subst e4
  have hsb := (S2.out.2.2.keep hb4).front (m + 7) (by omega)
  have S4 : Aside (∀ k, Bs w.heap.size (w4.drewN k) (.slice ax m cx) q ∧ Below w.heap.size w (w4.drewN k)) := fun k => by
   have hd : Below w4.heap.size w4 (w4.drewN k) := ⟨rfl, rfl, rfl, Nat.le_refl _, fun _ _ => rfl⟩
   exact ⟨(S2.out.1.keep hb4).keep hd, (S2.out.2.1.trans (hb4.mono S2.out.2.1.size)).trans (hd.mono (by have := hb4.size; have := S2.out.2.1.size; omega))⟩
  have e1q := fun k => str_of (show ByIn (w4.drewN k) a4 (wrapB q) from hs4.at_.mem) (m + 7) c4 hwl
  have e2q := fun k => str_of (show ByIn (w4.drewN k) (some ⟨b, off, none⟩) (l.take (m + 7)) from hsb.at_.mem) (m + 7) c hsb.at_.len
  clear hown4 hs4 hsb hW S2 hb4
  have b1 : (m : Int) + 7 ≤ (n : Int) := by omega
  have b2 : (0 : Int) ≤ (m : Int) + 7 := by omega
  have b3 : (m : Int) + 7 ≤ (c : Int) := by omega
  have b5 : IntKind.i64.wrap ((m : Int) + 7) = ((m + 7 : Nat) : Int) := by rw [IntKind.wrap_i64]; omega
  go_upto_region 9 with fail
  go_quiet (fail)
  have S5 : Aside (_ ∧ _) := S4.out nq
  clear S4
  generalize w4.drewN nq = w5 at S5 ⊢
  clear e1q e2q
  have HR : Aside ((wrapB q == l.take (m + 7)) = (firstB l).isSome ∧ ∀ x, firstB l = some x → x = q) := by
   by_cases hE : wrapB q = l.take (m + 7)
   ·have h1 : firstB l = some q := by rw [HS.out, if_pos hE]
    exact ⟨by rw [h1, hE]; simp, fun x hx => by rw [h1] at hx; injection hx with hx; exact hx.symm⟩
   ·have h1 : firstB l = none := by rw [HS.out, if_neg hE]
    refine ⟨?_, fun x hx => by rw [h1] at hx; cases hx⟩
    rw [h1]
    simpa using hE
  generalize (wrapB q == l.take (m + 7)) = bb at HR ⊢
  clear HS
  go_wp2
  go_ret2
  exact ⟨_, ret_v' (by rw [← HR.out.1]; rfl), fun x hx => by rw [HR.out.2 x hx]; exact S5.out.1, S5.out.2⟩
end frame
namespace frame
open bytes
theorem info_lists : (Tryz.prog.info? 54).map (fun i => (i.zero, i.size, i.bytes)) = some (some (.slice none 0 0), 1, 24) := by kernel_rfl
structure ReadTo (l : List UInt8) (n : Nat) (done : List (List UInt8)) (k : Nat) : Prop where
 le : k ≤ n
 len : (rowsB done).length = k
 all : done ++ scanB (l.drop k) = scanB l
theorem ReadTo.start (l : List UInt8) (n : Nat) : ReadTo l n [] 0 := ⟨Nat.zero_le _, rfl, by simp⟩
theorem rows_count (done : List (List UInt8)) : done.length ≤ (rowsB done).length := by
 induction done with
 | nil => simp
 | cons x done ih =>
  have : rowsB (x :: done) = wrapB x ++ rowsB done := by simp [rowsB]
  rw [this, List.length_append, wrapB_len, List.length_cons]
  omega
theorem ReadTo.step {l : List UInt8} {n : Nat} (hl : l.length = n) {done : List (List UInt8)} {k : Nat} (h : ReadTo l n done k) {x : List UInt8} (hx : firstB (l.drop k) = some x) : ReadTo l n (done ++ [x]) (k + x.length + 7) := by
 obtain ⟨h1, h2, h3⟩ := first_some hx
 rw [List.length_drop, hl] at h3
 have hle := h.le
 refine ⟨by omega, ?_, ?_⟩
 ·have : rowsB (done ++ [x]) = rowsB done ++ wrapB x := by simp [rowsB]
  rw [this, List.length_append, h.len, wrapB_len]; omega
 ·rw [← h.all, scan_some hx, List.drop_drop, List.append_assoc]
  rfl
theorem ReadTo.done {l : List UInt8} {n : Nat} {done : List (List UInt8)} {k : Nat} (h : ReadTo l n done k) (hx : firstB (l.drop k) = none) : done = scanB l ∧ k = (rowsB (scanB l)).length := by
 have h1 := h.all
 rw [scan_none hx, List.append_nil] at h1
 exact ⟨h1, by rw [← h1, h.len]⟩

theorem refScan_any (n c : Nat) (a : Option Addr) (l : List UInt8) (w : World) (h : Sl w a n c l) (hn : n ≤ 1000000000000) :
  Calls Tryz.prog 27 #[.slice a n c] w fun e w' => ∃ v ls, e = .returned (.tuple #[v, .int .i64 ((rowsB (scanB l)).length : Nat)]) ∧ RowOut w.heap.size w' v ls ∧ ls.map (·.l) = scanB l ∧ Below w.heap.size w w' := by
 obtain ⟨i0, hi, hz0, hz1, hz2⟩ := info_parts info_lists
 have H : Aside (Sl w a n c l) := h
 have hcap := h.at_.cap
 clear h
 go_enter Tryz.func27, Tryz.ntmps27
 go_wp2_with fail
 go_loopg [4, 5, 6, 7] n (fun g1 v vi u6 u7 wr => ∃ (k : Nat) (ls : List Lr), vi = .int .i64 k ∧ n - k ≤ g1 ∧ Aside (ReadTo l n (ls.map (·.l)) k ∧ RowOut w.heap.size wr v ls ∧ Below w.heap.size w wr))
 case atStart => exact ⟨0, [], rfl, Nat.le_refl _, ReadTo.start _ _, RowOut.nil _ _, Below.refl _ _⟩
 case round =>
  obtain ⟨k, ls, rfl, hg1, SK⟩ := hrel
  have hkn := SK.out.1.le
  have hkz : (k : Int) ≤ (n : Int) := by omega
  have hkc : k ≤ c := by omega
  have hkcz : (k : Int) ≤ (c : Int) := by omega
  have hF := refFirst_any (n - k) (c - k) (shift a c k) (l.drop k) wr ((H.out.keep SK.out.2.2).back k hkn)
  cases hx : firstB (l.drop k) with
  | none =>
   rw [hx] at hF
   simp only [Option.isSome_none] at hF
   have HD : Aside (_ ∧ _) := SK.out.1.done hx
   clear hx
   by_cases hck : c = k
   ·unfold shift at hF
    rw [if_pos hck] at hF
    subst hck
    rw [show n - c = 0 by omega, Nat.sub_self] at hF
    go_wp2_with (go_at_call 51; refine hF.mono ?_; rintro e w2 ⟨v2, rfl, -, hb2⟩)
    go_ret2
    exact ⟨_, ls, ret_v' (by rw [← HD.out.2]; rfl), SK.out.2.1.keep hb2, HD.out.1, SK.out.2.2.trans (hb2.mono SK.out.2.2.size)⟩
   ·unfold shift at hF
    rw [if_neg hck] at hF
    go_wp2_with (go_at_call 51; refine hF.mono ?_; rintro e w2 ⟨v2, rfl, -, hb2⟩)
    go_ret2
    exact ⟨_, ls, ret_v' (by rw [← HD.out.2]; rfl), SK.out.2.1.keep hb2, HD.out.1, SK.out.2.2.trans (hb2.mono SK.out.2.2.size)⟩
  | some x =>
   rw [hx] at hF
   simp only [Option.isSome_some] at hF
   have hfs := first_some hx
   have h3 := hfs.2.2
   rw [List.length_drop, H.out.at_.len] at h3
   have hck : ¬ c = k := by omega
   unfold shift at hF
   rw [if_neg hck] at hF
   have HT : Aside (ReadTo l n (ls.map (·.l) ++ [x]) (k + x.length + 7) ∧ ls.length ≤ n) := by
    refine ⟨SK.out.1.step H.out.at_.len hx, ?_⟩
    have h1 := rows_count (ls.map (·.l))
    rw [SK.out.1.len, List.length_map] at h1
    omega
   have hlsn := HT.out.2
   have hx60 := hfs.1
   clear hx hfs
   go_upto_region 4 with (go_at_call 51; refine hF.mono ?_; rintro e w2 ⟨v2, rfl, hbs, hb2⟩; refine Hid.out ?_)
   refine hid ?_
   have hbx := hbs x rfl
   obtain ⟨a2, c2, e2⟩ := hbx.form
   subst e2
   have hro := SK.out.2.1.keep hb2
   have hsz := SK.out.2.2.size
   have hbase : w.heap.size ≤ w2.heap.size := Nat.le_trans hsz hb2.size
   have hown := hro.own
   obtain ⟨m, hm⟩ : ∃ m, x.length = m := ⟨_, rfl⟩
   obtain ⟨q, hq⟩ : ∃ q, ls.length = q := ⟨_, rfl⟩
   have HQ : Hid (ls.length = q) := hq
   rw [hq] at hown hlsn
   have S2 : Aside (∀ g cap w3, w3.ownsRow w.heap.size 54 1 (.slice (some ⟨g, 0, none⟩) (q + 1) cap) (q + 1) (ls.map lv ++ [.slice a2 m c2]) → (w2.alloc (.cells #[.slice a2 m c2] 54)).grownBy w3 u4.ownBlock → RowOut w.heap.size w3 (.slice (some ⟨g, 0, none⟩) (q + 1) cap) (ls ++ [Lr.mk a2 c2 x]) ∧ Below w.heap.size w w3 ∧ ReadTo l n ((ls ++ [Lr.mk a2 c2 x]).map fun y => y.l) (k + m + 7)) := fun g cap w3 ho hg => by
    refine ⟨RowOut.push (x := ⟨a2, c2, x⟩) hro ?_ HQ.out ?_ hg, ?_, ?_⟩
    ·show Bs w.heap.size w2 (.slice a2 x.length c2) x
     exact own_mono hbx hsz
    ·show w3.ownsRow _ _ _ _ _ (ls.map lv ++ [.slice a2 x.length c2])
     rw [hm]; exact ho
    ·refine ((SK.out.2.2.trans (hb2.mono hsz)).alloc hbase _).grown hg (by simp; omega) fun j hj => (hro.own.lt j hj).1
    ·rw [List.map_append, ← hm]; exact HT.out.1
   rw [hm] at h3 hx60 ⊢
   clear SK HT hF hbs hbx hro hb2 hm hq
   go_wp2_with (at_builtin; refine wpList_append_lies _ rfl (.tmp 19) (.tmp 21) 71 rfl w.heap.size 54 i0 _ 1 24 Tryz.underlying71 hi hz0 hz1 hz2 rfl (by decide) _ q _ rfl (hown.alloc _) ⟨w2.heap.size, 0, none⟩ 1 1 [_] rfl rfl (cell_one_new _ _ _) (by intro u hu; simp at hu; subst hu; rfl) (by omega) (by unfold maxLen; omega) (by omega) (by simp; omega) (w2.heap.size + 1) (by simp) ?_; intro g c3 w3 hown3 hgrow hat hglt)
   have S3 : Aside (_ ∧ _ ∧ _) := S2.out g c3 w3 hown3 hgrow
   clear S2 hown3 hgrow hat hglt hown
   go_wp2
   go_roundg (n - (k + m + 7))
   case measure => omega
   case rel => exact ⟨k + m + 7, ls ++ [Lr.mk a2 c2 x], by go_num, by omega, S3.out.2.2, S3.out.1, S3.out.2.1⟩
end frame
end Go.Proofs.YtlcjllgfpfldlaaGreat
