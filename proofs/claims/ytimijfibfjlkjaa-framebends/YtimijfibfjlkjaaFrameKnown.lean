/-
  The chapter's example holds.
-/
import Derived.Test.YtimijfibfjlkjaaFrameWrapC
import Derived.Test.YtimijfibfjlkjaaFrameScan
namespace Go.Proofs.Ytimijfibfjlkjaa.frame
open Go.ChangeShapes Go.WideShapes Go.ChangeAt Go.RowKit Go.Deep
open Go.Proofs.Ytimijfibfjlkjaa.bytes
open Go.Proofs.Ytimijfibfjlkjaa.code (putB)
set_option linter.unusedVariables false
set_option maxRecDepth 100000
set_option linter.unusedSimpArgs false

theorem wrap_nil : wrapB [] = [0, 0, 0, 0, 3, 0, 1] := by decide +kernel
theorem rowout_len {B : Nat} {W : World} {v : Value} {ls : List Lr} (h : RowOut B W v ls) {k : Nat} (hk : ls.length = k) : ∃ a c, v = .slice a k c ∧ ListsIn W a ls := by
  obtain ⟨a, c, e, hl⟩ := h.lists
  rw [hk] at e
  exact ⟨a, c, e, hl⟩
set_option maxHeartbeats 8000000 in
theorem known_any (w : World) : Calls Try.prog 9 #[] w fun e w' => e = .returned (.bool true) ∧ Below w.heap.size w w' := by
  have hW := wrap_any 0 0 none [] w (Sl.nil w) (by omega)
  rw [wrap_nil] at hW
  go_enter Try.func9, Try.ntmps9
  go_upto_region 2 with (go_at_call 10; refine hW.mono ?_; rintro e w1 ⟨v1, rfl, ho1, hb1⟩; refine Hid.out ?_)
  refine hid ?_
  obtain ⟨a1, c1, e1, hs1⟩ := ho1.sl (by simp)
  simp only [List.length_cons, List.length_nil, Nat.zero_add, Nat.reduceAdd] at e1 hs1
  subst e1
  have hS := scan_any 7 c1 a1 _ w1 hs1 (by omega)
  have hsc : scanB [0, 0, 0, 0, 3, 0, 1] = [[]] := by
    have := scan_rows (l := [[]]) (fun x hx => by simp at hx; subst hx; simp) []
    have e : rowsB [[]] ++ [] = [0, 0, 0, 0, 3, 0, 1] := by simp [rowsB, wrap_nil]
    rw [e] at this
    rw [this]
    simp [scanB, scanN]
  have hrl : (rowsB [[]]).length = 7 := by simp [rowsB, wrap_nil]
  rw [hsc, hrl] at hS
  have H1 : Aside (Below w.heap.size w w1 ∧ Sl w1 a1 7 c1 [0, 0, 0, 0, 3, 0, 1]) := ⟨hb1, hs1⟩
  clear hW ho1 hb1 hs1 hsc hrl
  go_upto_region 3 with (go_at_call 11; refine hS.mono ?_; rintro e w2 ⟨v2, ls, rfl, hro, hls, hb2⟩; refine Hid.out ?_)
  refine hid ?_
  have hn1 : ls.length = 1 := by have := congrArg List.length hls; simpa using this
  obtain ⟨a2, c2, e2, hl2⟩ := rowout_len hro hn1
  subst e2
  obtain ⟨b2, o2, ha2, hc2⟩ := hl2.get (j := 0) (by omega)
  subst ha2
  have r0 := (hc2 0 (by omega)).1
  have hz : (ln ls 0).l = [] := by
    rw [ln_eq (by omega)]
    have := congrArg (fun l => l[0]?) hls
    simpa [hn1] using this
  rw [hz] at r0
  simp only [Nat.add_zero, List.length_nil] at r0
  have hcv := str_of (H1.out.2.keep hb2).at_.mem 7 c1 rfl
  have H2 : Aside (Below w.heap.size w w2) := H1.out.1.trans (hb2.mono H1.out.1.size)
  generalize (ln ls 0).a = a3 at r0
  generalize (ln ls 0).cap = c3 at r0
  clear hS hro hls hb2 hc2 hl2 hn1 hz H1
  go_wp2
  go_ret
  exact ⟨ret_bool (by simp), H2.out⟩
end Go.Proofs.Ytimijfibfjlkjaa.frame
