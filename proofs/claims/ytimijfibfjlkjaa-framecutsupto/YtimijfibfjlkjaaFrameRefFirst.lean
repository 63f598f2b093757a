/-
  The chapter's own first.
-/
import Derived.Test.YtimijfibfjlkjaaFrameRefWrap
namespace Go.Proofs.Ytimijfibfjlkjaa.frame
open Go.ChangeShapes Go.WideShapes Go.ChangeAt Go.RowKit Go.Deep
open Go.Proofs.Ytimijfibfjlkjaa.bytes
open Go.Proofs.Ytimijfibfjlkjaa.code (putB putB_len putB_append valB valB_put valB_lt)
open Go.Proofs.Ytimijfibfjlkjaa.sum (sumB sum_u32 ref1)
set_option linter.unusedVariables false
set_option maxRecDepth 100000
set_option linter.unusedSimpArgs false

theorem valB3' {h : List UInt8} (hh : 3 ≤ h.length) : (valB (h.take 3) : Int) = bth h 0 * 65536 + bth h 1 * 256 + bth h 2 := by
  match h, hh with
  | x :: y :: z :: r, _ => simp [valB, bth]; omega
theorem ret_v' {a b : Value} (h : a = b) : Ending.returned a = .returned b := by rw [h]
theorem bth_nat (l : List UInt8) (i : Nat) : ∃ x : Nat, bth l i = (x : Int) ∧ x < 256 := ⟨(l.getD i 0).toNat, rfl, (l.getD i 0).toNat_lt⟩

set_option maxHeartbeats 8000000 in
theorem refFirst_any (n c : Nat) (a : Option Addr) (l : List UInt8) (w : World) (h : Sl w a n c l) :
    Calls Try.prog 24 #[.slice a n c] w fun e w' => ∃ v, e = .returned (.tuple #[v, .bool (firstB l).isSome]) ∧ (∀ x, firstB l = some x → Bs w.heap.size w' v x) ∧ Below w.heap.size w w' := by
  have hl := h.at_.len
  by_cases h7 : n < 7
  · have e : firstB l = none := by unfold firstB; rw [if_pos (by omega)]
    have hz : (n : Int) < 7 := by omega
    rw [e]
    clear h hl e
    go_enter Try.func24, Try.ntmps24
    go_wp2
    go_ret2
    exact ⟨_, rfl, fun x hx => (by cases hx), Below.refl _ _⟩
  have hz : ¬ (n : Int) < 7 := by omega
  obtain ⟨i0, hi, hz0, hz1, hz2⟩ := info_parts info_u8
  obtain ⟨b, off, ha, hc⟩ := h.at_.mem.get (by omega)
  subst ha
  have c0 := hc 0 (by omega)
  have c1 := hc 1 (by omega)
  have c2 := hc 2 (by omega)
  simp only [Nat.add_zero] at c0
  clear hc
  have hV := valB3' (h := l) (by omega)
  obtain ⟨x, hx, hx2⟩ := bth_nat l 0
  obtain ⟨y, hy, hy2⟩ := bth_nat l 1
  obtain ⟨z, hz', hz2'⟩ := bth_nat l 2
  rw [hx, hy, hz'] at hV
  rw [hx] at c0
  rw [hy] at c1
  rw [hz'] at c2
  have hmx := h.max
  have hcap := h.at_.cap
  obtain ⟨m, hm⟩ : ∃ m, valB (l.take 3) = m := ⟨_, rfl⟩
  rw [hm] at hV
  have HM : Hid (valB (l.take 3) = m) := hm
  have H : Aside (Sl w (some ⟨b, off, none⟩) n c l) := h
  have hmV : (x : Int) * 65536 + (y : Int) * 256 + (z : Int) = (m : Int) := hV.symm
  have hxm : m < 16777216 := by omega
  clear hx hy hz' hm h hl hV
  go_enter Try.func24, Try.ntmps24
  go_upto_region 3 with fail
  go_quiet (fail)
  have hbq : Below w.heap.size w (w.drewN nq) := ⟨rfl, rfl, rfl, Nat.le_refl _, fun _ _ => rfl⟩
  have H2 : Aside (Below w.heap.size w (w.drewN nq) ∧ Sl (w.drewN nq) (some ⟨b, off, none⟩) n c l) := ⟨hbq, H.out.keep hbq⟩
  generalize w.drewN nq = w2 at H2 ⊢
  clear hbq c0 c1 c2
  have hfb : firstB l = if 60000 < m ∨ l.length - 7 < m then none else if wrapB ((l.drop 3).take m) = l.take (m + 7) then some ((l.drop 3).take m) else none := by
    unfold firstB
    rw [if_neg (by rw [H.out.at_.len]; omega), HM.out]
  have HF : Hid (firstB l = _) := hfb
  have hlen := H.out.at_.len
  clear hfb HM H
  by_cases hm1 : 60000 < m
  · have hmz : (60000 : Int) < (m : Int) := by omega
    have HN : Aside (firstB l = none) := by show _ = _; rw [HF.out, if_pos (.inl hm1)]
    clear HF
    go_wp2
    go_ret2
    exact ⟨_, by rw [HN.out]; rfl, fun x hx => (by rw [HN.out] at hx; cases hx), H2.out.1⟩
  have hmz : ¬ (60000 : Int) < (m : Int) := by omega
  by_cases hm2 : n < m + 7
  · have hmy : (n : Int) - 7 < (m : Int) := by omega
    have HN : Aside (firstB l = none) := by show _ = _; rw [HF.out, if_pos (.inr (by omega))]
    clear HF
    go_wp2
    go_ret2
    exact ⟨_, by rw [HN.out]; rfl, fun x hx => (by rw [HN.out] at hx; cases hx), H2.out.1⟩
  have hmy : ¬ (n : Int) - 7 < (m : Int) := by omega
  have HS : Aside (firstB l = if wrapB ((l.drop 3).take m) = l.take (m + 7) then some ((l.drop 3).take m) else none) := by show _ = _; rw [HF.out, if_neg (by omega)]
  clear HF
  have hxl : ((l.drop 3).take m).length = m := by rw [List.length_take, List.length_drop]; omega
  have hsz := H2.out.1.size
  have e33 : 3 + m - 3 = m := by omega
  have hc3 : ¬ c = 3 := by omega
  have HL : Aside (((l.drop 3).take m).length = m) := hxl
  clear hxl hmV hxm hx2 hy2 hz2'
  go_upto_region 7 with fail
  go_cut [5] from 36 (fun t wx => ∃ (ax : Option Addr) (cx : Nat), t = .slice ax m cx ∧ Aside (Bs w.heap.size wx (.slice ax m cx) ((l.drop 3).take m) ∧ Below w.heap.size w wx ∧ Sl wx (some ⟨b, off, none⟩) n c l))
  case first =>
    by_cases h0 : m = 0
    · subst h0
      have S2 : Aside (Bs w.heap.size w2 (.slice none 0 0) ((l.drop 3).take 0) ∧ Below w.heap.size w w2 ∧ Sl w2 (some ⟨b, off, none⟩) n c l) := ⟨by rw [List.take_zero]; exact Bs.none _ _, H2.out.1, H2.out.2⟩
      have hown : w2.ownsRow w.heap.size 5 1 (.slice none 0 0) 0 [] := World.ownsRow_nil _ _ _ _
      clear HS HL
      go_wp2_with (at_builtin; refine wpList_append_zero rfl (.tmp 36) (.tmp 40) 22 rfl w.heap.size 5 i0 1 Try.underlying22 hi _ _ _ rfl hown _ _ rfl ?_)
      go_meet
      case rel => exact ⟨none, 0, rfl, S2.out⟩
    · have hpart := ((H2.out.2.back 3 (by omega)).front m (by omega))
      unfold shift at hpart
      rw [if_neg hc3] at hpart
      obtain ⟨b', off', ha', hnews⟩ := hpart.news (by omega)
      simp only [Option.map_some, addr_add, Option.some.injEq, Addr.mk.injEq, and_true] at ha'
      obtain ⟨rfl, rfl⟩ := ha'
      have hcl : (Lib.byteCells ((l.drop 3).take m)).length = m * 1 := by rw [byteCells_len, HL.out]; omega
      have hone := byteCells_one ((l.drop 3).take m)
      have hown : w2.ownsRow w.heap.size 5 1 (.slice none 0 0) 0 [] := World.ownsRow_nil _ _ _ _
      have S2 : Aside (∀ g c3 w3, w3.ownsRow w.heap.size 5 1 (.slice (some ⟨g, 0, none⟩) m c3) m (Lib.byteCells ((l.drop 3).take m)) → w2.grownBy w3 none → Bs w.heap.size w3 (.slice (some ⟨g, 0, none⟩) m c3) ((l.drop 3).take m) ∧ Below w.heap.size w w3 ∧ Sl w3 (some ⟨b, off, none⟩) n c l) := fun g c3 w3 ho hg => by
        have hb3 : Below w2.heap.size w2 w3 := ⟨hg.os, hg.tape, hg.output, hg.size, fun i hi => hg.block i hi (by simp)⟩
        refine ⟨?_, H2.out.1.trans (hb3.mono hsz), H2.out.2.keep hb3⟩
        unfold Bs
        rw [HL.out]
        exact ho
      clear HS hpart
      generalize hq : (l.drop 3).take m = q at hnews hcl hone S2
      have HQ : Hid ((l.drop 3).take m = q) := hq
      clear hq
      go_wp2_with (at_builtin; refine wpList_append_lies _ rfl (.tmp 36) (.tmp 40) 22 rfl w.heap.size 5 i0 _ 1 1 Try.underlying22 hi hz0 hz1 hz2 rfl (by decide) _ 0 [] rfl hown ⟨b, off + 3, none⟩ m (c - 3) (Lib.byteCells q) (congrArg (fun k => Value.slice (some ⟨b, off + 3, none⟩) k (c - 3)) e33) hcl hnews hone (by omega) (by unfold maxLen; omega) (by omega) hsz _ rfl ?_; intro g c3 w3 hown3 hgr3 hat3 _; refine Hid.out ?_)
      refine hid ?_
      simp only [Nat.zero_add, List.nil_append] at hown3 ⊢
      have S3 : Aside (_ ∧ _ ∧ _) := S2.out g c3 w3 hown3 hgr3
      clear hown3 hgr3 hat3 hnews hcl hone S2
      go_wp2
      go_meet
      case rel => exact ⟨_, c3, rfl, by rw [HQ.out]; exact S3.out⟩
  case rest =>
    obtain ⟨ax, cx, rfl, S2⟩ := hcut
    clear H2 hi hz0 hz1 hz2 e33 hc3
    have hslx : Sl wc ax m cx ((l.drop 3).take m) := by
      obtain ⟨a', c', e, hs⟩ := S2.out.1.sl (by rw [HL.out]; omega)
      rw [HL.out] at e hs
      injection e with e1 e2 e3
      subst e1 e3
      exact hs
    have hW := refWrap_any m cx ax _ wc hslx (by omega)
    have hwl : (wrapB ((l.drop 3).take m)).length = m + 7 := by rw [wrapB_len, HL.out]
    obtain ⟨q, hq⟩ : ∃ q, (l.drop 3).take m = q := ⟨_, rfl⟩
    rw [hq] at HS HL hW hwl S2
    clear hslx hq
    go_upto_region 9 with (go_at_call 12; refine hW.mono ?_; rintro e w4 ⟨v4, rfl, hown4, hb4⟩; refine Hid.out ?_)
    refine hid ?_
    obtain ⟨a4, c4, e4, hs4⟩ := hown4.sl (by omega)
    rw [hwl] at e4 hs4
    subst e4
    have hsb := (S2.out.2.2.keep hb4).front (m + 7) (by omega)
    have S4 : Aside (∀ k, Bs w.heap.size (w4.drewN k) (.slice ax m cx) q ∧ Below w.heap.size w (w4.drewN k)) := fun k => by
      have hd : Below w4.heap.size w4 (w4.drewN k) := ⟨rfl, rfl, rfl, Nat.le_refl _, fun _ _ => rfl⟩
      exact ⟨(S2.out.1.keep hb4).keep hd, (S2.out.2.1.trans (hb4.mono S2.out.2.1.size)).trans (hd.mono (by have := hb4.size; have := S2.out.2.1.size; omega))⟩
    have e1q := fun k => str_of (show ByIn (w4.drewN k) a4 (wrapB q) from hs4.at_.mem) (m + 7) c4 hwl
    have e2q := fun k => str_of (show ByIn (w4.drewN k) (some ⟨b, off, none⟩) (l.take (m + 7)) from hsb.at_.mem) (m + 7) c hsb.at_.len
    clear hown4 hs4 hsb hW S2 hb4
    have b1 : (m : Int) + 7 ≤ (n : Int) := by omega
    have b2 : (0 : Int) ≤ (m : Int) + 7 := by omega
    have b3 : (m : Int) + 7 ≤ (c : Int) := by omega
    have b5 : IntKind.i64.wrap ((m : Int) + 7) = ((m + 7 : Nat) : Int) := by rw [IntKind.wrap_i64]; omega
    go_upto_region 9 with fail
    go_quiet (fail)
    have S5 : Aside (_ ∧ _) := S4.out nq
    clear S4
    generalize w4.drewN nq = w5 at S5 ⊢
    clear e1q e2q
    have HR : Aside ((wrapB q == l.take (m + 7)) = (firstB l).isSome ∧ ∀ x, firstB l = some x → x = q) := by
      by_cases hE : wrapB q = l.take (m + 7)
      · have h1 : firstB l = some q := by rw [HS.out, if_pos hE]
        exact ⟨by rw [h1, hE]; simp, fun x hx => by rw [h1] at hx; injection hx with hx; exact hx.symm⟩
      · have h1 : firstB l = none := by rw [HS.out, if_neg hE]
        refine ⟨?_, fun x hx => by rw [h1] at hx; cases hx⟩
        rw [h1]
        simpa using hE
    generalize (wrapB q == l.take (m + 7)) = bb at HR ⊢
    clear HS
    go_wp2
    go_ret2
    exact ⟨_, ret_v' (by rw [← HR.out.1]; rfl), fun x hx => by rw [HR.out.2 x hx]; exact S5.out.1, S5.out.2⟩
end Go.Proofs.Ytimijfibfjlkjaa.frame
