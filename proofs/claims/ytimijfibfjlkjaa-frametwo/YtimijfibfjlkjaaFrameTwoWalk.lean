/-
  FrameTwo: two frames are told apart; one that lacks its last byte is none, nor is what is behind it.
-/
import Derived.Test.YtimijfibfjlkjaaFrameUse
namespace Go.Proofs.Ytimijfibfjlkjaa.frame
open Go.ChangeShapes Go.WideShapes Go.ChangeAt Go.RowKit Go.Deep
open Go.Proofs.Ytimijfibfjlkjaa.bytes
set_option linter.unusedVariables false
set_option maxRecDepth 100000
set_option linter.unusedSimpArgs false

set_option maxHeartbeats 8000000 in
theorem two_walk (a : Option Addr) (n c : Nat) (l : List UInt8) (b : Option Addr) (m d : Nat) (k : List UInt8) (w : World) (h1 : Sl w a n c l) (h2 : Sl w b m d k) :
    Calls Try.prog 8 #[.slice a n c, .slice b m d] w fun e w' => e = .returned (.bool true) ∧ Below w.heap.size w w' := by
  have hK := known_any w
  by_cases hbig : 1500 < n
  · have hz : (1500 : Int) < (n : Int) := by omega
    clear h1 h2
    go_enter Try.func8, Try.ntmps8
    go_wp2_with (go_at_call 9; refine hK.mono ?_; rintro e w1 ⟨rfl, g1⟩)
    go_ret
    exact ⟨rfl, g1⟩
  have hz : ¬ (1500 : Int) < (n : Int) := by omega
  by_cases hbig2 : 1500 < m
  · have hz2 : (1500 : Int) < (m : Int) := by omega
    clear h1 h2
    go_enter Try.func8, Try.ntmps8
    go_wp2_with (go_at_call 9; refine hK.mono ?_; rintro e w1 ⟨rfl, g1⟩)
    go_ret
    exact ⟨rfl, g1⟩
  have hz2 : ¬ (1500 : Int) < (m : Int) := by omega
  have H : Aside (Sl w a n c l ∧ Sl w b m d k) := ⟨h1, h2⟩
  clear h1 h2
  obtain ⟨i0, hi, hz0, hz1, hz2'⟩ := info_parts info_u8
  go_enter Try.func8, Try.ntmps8
  go_upto_region 3 with (go_at_call 9; refine hK.mono ?_; rintro e w1 ⟨rfl, g1⟩)
  have H1 : Aside (Below w.heap.size w w1 ∧ Sl w1 a n c l ∧ Sl w1 b m d k) := ⟨g1, H.out.1.keep g1, H.out.2.keep g1⟩
  clear H g1 hK
  have hlen := H1.out.2.1.at_.len
  have hlen2 := H1.out.2.2.at_.len
  have hW := wrap_any n c a l w1 H1.out.2.1 (by omega)
  go_upto_region 4 with (go_at_call 10; refine hW.mono ?_; rintro e w2 ⟨v2, rfl, ho2, hb2⟩; refine Hid.out ?_)
  refine hid ?_
  obtain ⟨g2, c2, e2, h82⟩ := row_of (l := l) (k := n + 7) ho2 (by rw [wrapB_len, hlen]) (by omega)
  subst e2
  have hW2 := wrap_any m d b k w2 (H1.out.2.2.keep hb2) (by omega)
  have H2 : Aside (Below w1.heap.size w1 w2 ∧ Own8 w1.heap.size w2 g2 (n + 7) c2 (wrapB l)) := ⟨hb2, h82⟩
  clear hW ho2 hb2 h82
  go_upto_region 4 with fail
  go_upto_region 5 with (go_at_call 10; refine hW2.mono ?_; rintro e w3 ⟨v3, rfl, ho3, hb3⟩; refine Hid.out ?_)
  refine hid ?_
  obtain ⟨g3, c3, e3, h83⟩ := row_of (l := k) (k := m + 7) ho3 (by rw [wrapB_len, hlen2]) (by omega)
  subst e3
  have H3 : Aside (Below w1.heap.size w1 w3 ∧ Own8 w1.heap.size w3 g2 (n + 7) c2 (wrapB l) ∧ Own8 w2.heap.size w3 g3 (m + 7) c3 (wrapB k)) := ⟨H2.out.1.trans (hb3.mono H2.out.1.size), H2.out.2.keep hb3, h83⟩
  clear hW2 ho3 hb3 h83 H2
  obtain ⟨b2, o2, ea, hnews⟩ := (H3.out.2.1.sl (by omega)).news (by omega)
  simp only [Option.some.injEq, Addr.mk.injEq, and_true] at ea
  obtain ⟨rfl, rfl⟩ := ea
  have hcl : (Lib.byteCells (wrapB l)).length = (n + 7) * 1 := by rw [byteCells_len, wrapB_len, hlen]; omega
  have hone := byteCells_one (wrapB l)
  have hown : w3.ownsRow w3.heap.size 5 1 (.slice none 0 0) 0 [] := World.ownsRow_nil _ _ _ _
  have S2 : Aside (∀ g c4 w4, w4.ownsRow w3.heap.size 5 1 (.slice (some ⟨g, 0, none⟩) (n + 7) c4) (n + 7) (Lib.byteCells (wrapB l)) → w3.grownBy w4 none → Below w3.heap.size w3 w4 ∧ Own8 w3.heap.size w4 g (n + 7) c4 (wrapB l)) := fun g c4 w4 ho hg => ⟨⟨hg.os, hg.tape, hg.output, hg.size, fun i hi => hg.block i hi (by simp)⟩, ho⟩
  go_upto_region 6 with fail
  go_upto_region 7 with (at_builtin; refine wpList_append_lies _ rfl (.tmp 37) (.tmp 38) 22 rfl w3.heap.size 5 i0 _ 1 1 Try.underlying22 hi hz0 hz1 hz2' rfl (by decide) _ 0 [] rfl hown ⟨g2, 0, none⟩ (n + 7) c2 (Lib.byteCells (wrapB l)) rfl hcl hnews hone (by omega) (by unfold maxLen; omega) (by omega) (Nat.le_refl _) _ rfl ?_; intro g4 c4 w4 hown4 hgr4 _ _; refine Hid.out ?_)
  refine hid ?_
  simp only [Nat.zero_add, List.nil_append] at hown4 ⊢
  have S3 : Aside (_ ∧ _) := S2.out g4 c4 w4 hown4 hgr4
  clear S2 hown4 hgr4 hnews hcl hone hown
  obtain ⟨b2, o2, ea, hnews⟩ := ((H3.out.2.2.keep S3.out.1).sl (by omega)).news (by omega)
  simp only [Option.some.injEq, Addr.mk.injEq, and_true] at ea
  obtain ⟨rfl, rfl⟩ := ea
  have hcl : (Lib.byteCells (wrapB k)).length = (m + 7) * 1 := by rw [byteCells_len, wrapB_len, hlen2]; omega
  have hone := byteCells_one (wrapB k)
  have hown : w4.ownsRow w3.heap.size 5 1 (.slice (some ⟨g4, 0, none⟩) (n + 7) c4) (n + 7) (Lib.byteCells (wrapB l)) := S3.out.2
  have hbase := S3.out.1.size
  obtain ⟨N, hN⟩ : ∃ N, n + 7 + (m + 7) = N := ⟨_, rfl⟩
  have HN : Aside (N = n + 7 + (m + 7) ∧ (wrapB l ++ wrapB k).length = N) := ⟨hN.symm, by rw [List.length_append, wrapB_len, wrapB_len, hlen, hlen2]; exact hN⟩
  have S4 : Aside (∀ g c5 w5, w5.ownsRow w3.heap.size 5 1 (.slice (some ⟨g, 0, none⟩) (n + 7 + (m + 7)) c5) (n + 7 + (m + 7)) (Lib.byteCells (wrapB l) ++ Lib.byteCells (wrapB k)) → w4.grownBy w5 (some g4) → Below w3.heap.size w3 w5 ∧ Own8 w3.heap.size w5 g N c5 (wrapB l ++ wrapB k)) := fun g c5 w5 ho hg => by
    refine ⟨S3.out.1.grown hg hbase fun j hj => by injection hj with hj; subst hj; exact S3.out.2.lt.1, ?_⟩
    unfold Own8
    rw [byteCells_append, ← hN]
    exact ho
  go_upto_region 7 with fail
  go_upto_region 8 with (at_builtin; refine wpList_append_lies _ rfl (.tmp 40) (.tmp 41) 22 rfl w3.heap.size 5 i0 _ 1 1 Try.underlying22 hi hz0 hz1 hz2' rfl (by decide) _ (n + 7) _ rfl hown ⟨g3, 0, none⟩ (m + 7) c3 (Lib.byteCells (wrapB k)) rfl hcl hnews hone (by omega) (by unfold maxLen; omega) (by omega) hbase _ rfl ?_; intro g5 c5 w5 hown5 hgr5 _ _; refine Hid.out ?_)
  refine hid ?_
  have S5 : Aside (_ ∧ _) := S4.out g5 c5 w5 hown5 hgr5
  clear S4 hown5 hgr5 hnews hcl hone hown S3 hbase hi hz0 hz1 hz2'
  (try rw [hN])
  have hN14 : 14 ≤ N := by omega
  have hNb : N ≤ 4000 := by omega
  clear hN
  have hs5 := S5.out.2.sl (by omega)
  have hc5 := hs5.at_.cap
  have hS := scan_any N c5 _ _ w5 hs5 (by omega)
  rw [scan_two (by omega) (by omega), show (rowsB [l, k]).length = N by rw [show rowsB [l, k] = wrapB l ++ wrapB k by simp [rowsB]]; exact HN.out.2] at hS
  clear hs5
  go_upto_region 8 with fail
  go_upto_region 9 with (go_at_call 11; refine hS.mono ?_; rintro e w6 ⟨v6, ls, rfl, hro, hls, hb6⟩; refine Hid.out ?_)
  refine hid ?_
  obtain ⟨a6, c6, e6, -⟩ := rowout_len hro (k := 2) (by have := congrArg List.length hls; simpa using this)
  subst e6
  have S6 : Aside (Below w3.heap.size w3 w6 ∧ Own8 w3.heap.size w6 g5 N c5 (wrapB l ++ wrapB k) ∧ RowOut w5.heap.size w6 (.slice a6 2 c6) ls ∧ ls.map (·.l) = [l, k]) := ⟨S5.out.1.trans (hb6.mono S5.out.1.size), S5.out.2.keep hb6, hro, hls⟩
  clear hS hro hls hb6 S5
  have hs6 := (S6.out.2.1.sl (by omega)).front (N - 1) (by omega)
  have hS := scan_any (N - 1) c5 _ _ w6 hs6 (by omega)
  rw [scan_lacks (by omega) (by omega) (N - 1) (by rw [HN.out.2]), rows_one, wrapB_len, hlen] at hS
  clear hs6
  have b1 : IntKind.i64.wrap ((N : Int) - 1) = ((N - 1 : Nat) : Int) := by rw [IntKind.wrap_i64]; omega
  have b2 : (0 : Int) ≤ (N : Int) - 1 := by omega
  have b3 : (N : Int) - 1 ≤ (c5 : Int) := by omega
  have b4 : ((N : Int) - 1).toNat = N - 1 := by omega
  go_upto_region 9 with fail
  go_upto_region 10 with (go_at_call 11; refine hS.mono ?_; rintro e w7 ⟨v7, ls7, rfl, hro7, hls7, hb7⟩; refine Hid.out ?_)
  refine hid ?_
  obtain ⟨a7, c7, e7, -⟩ := rowout_len hro7 (k := 1) (by have := congrArg List.length hls7; simpa using this)
  subst e7
  have hb17 : Below w1.heap.size w1 w7 := (H3.out.1.trans (S6.out.1.mono H3.out.1.size)).trans (hb7.mono (by have h1 := H3.out.1.size; have h2 := S6.out.1.size; omega))
  obtain ⟨a8, c8, e8, hl8⟩ := (S6.out.2.2.1.keep hb7).lists
  injection e8 with e81 e82 e83
  subst e81
  obtain ⟨b5, o5, q5, d5, e5, r5, y5⟩ := list_at hl8 S6.out.2.2.2 0 (by simp)
  obtain ⟨b6, o6, q6, d6, e6, r6, y6⟩ := list_at hl8 S6.out.2.2.2 1 (by simp)
  subst e5
  simp only [Option.some.injEq, Addr.mk.injEq, and_true] at e6
  obtain ⟨rfl, rfl⟩ := e6
  simp only [List.getElem_cons_zero, List.getElem_cons_succ, Nat.add_zero] at r5 y5 r6 y6
  have hc1 := fun j => str_of (show ByIn (w7.drewN j) q5 l from y5) n d5 hlen
  have hc2 := fun j => str_of (show ByIn (w7.drewN j) q6 k from y6) m d6 hlen2
  have hc3 := fun j => str_of (show ByIn (w7.drewN j) a l from (H1.out.2.1.keep hb17).at_.mem) n c hlen
  have hc4 := fun j => str_of (show ByIn (w7.drewN j) b k from (H1.out.2.2.keep hb17).at_.mem) m d hlen2
  rw [hlen] at r5
  rw [hlen2] at r6
  have HZ : Aside (∀ j, Below w.heap.size w (w7.drewN j)) := fun j => by
    have h := H1.out.1.trans (hb17.mono H1.out.1.size)
    exact ⟨h.os, h.tape, h.output, h.size, h.block⟩
  clear hS hro7 hls7 hb7 S6 H3 H1 hl8 y5 y6 hb17 HN e82 e83 hlen hlen2 b1 b2 b3 b4 hc5
  go_upto_region 10 with fail
  go_quiet (fail)
  have HY : Aside (_) := HZ.out nq
  clear HZ
  generalize w7.drewN nq = w8 at HY ⊢
  clear hc1 hc2 hc3 hc4
  go_wp2
  go_ret
  exact ⟨ret_bool (by simp), HY.out⟩
end Go.Proofs.Ytimijfibfjlkjaa.frame
