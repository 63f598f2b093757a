/-
  FrameWraps: Wrap of any bytes, and Scan of any, are what the chapter says.
-/
import Derived.Test.YtimijfibfjlkjaaFrameUse
import Derived.Test.YtimijfibfjlkjaaFrameRefScan
namespace Go.Proofs.Ytimijfibfjlkjaa.frame
open Go.ChangeShapes Go.WideShapes Go.ChangeAt Go.RowKit Go.Deep
open Go.Proofs.Ytimijfibfjlkjaa.bytes
set_option linter.unusedVariables false
set_option maxRecDepth 100000
set_option linter.unusedSimpArgs false

set_option maxHeartbeats 8000000 in
theorem wraps_walk (a : Option Addr) (n c : Nat) (l : List UInt8) (w : World) (h1 : Sl w a n c l) :
    Calls Try.prog 4 #[.slice a n c] w fun e w' => e = .returned (.bool true) ∧ Below w.heap.size w w' := by
  have hK := known_any w
  by_cases hbig : 1500 < n
  · have hz : (1500 : Int) < (n : Int) := by omega
    clear h1
    go_enter Try.func4, Try.ntmps4
    go_wp2_with (go_at_call 9; refine hK.mono ?_; rintro e w1 ⟨rfl, g1⟩)
    go_ret
    exact ⟨rfl, g1⟩
  have hz : ¬ (1500 : Int) < (n : Int) := by omega
  have H : Aside (Sl w a n c l) := h1
  clear h1
  go_enter Try.func4, Try.ntmps4
  go_upto_region 3 with (go_at_call 9; refine hK.mono ?_; rintro e w1 ⟨rfl, g1⟩)
  have H1 : Aside (Below w.heap.size w w1 ∧ Sl w1 a n c l) := ⟨g1, H.out.keep g1⟩
  clear H g1 hK
  have hlen := H1.out.2.at_.len
  have hW := wrap_any n c a l w1 H1.out.2 (by omega)
  go_upto_region 4 with (go_at_call 10; refine hW.mono ?_; rintro e w2 ⟨v2, rfl, ho2, hb2⟩; refine Hid.out ?_)
  refine hid ?_
  obtain ⟨g2, c2, e2, h82⟩ := row_of (l := l) (k := n + 7) ho2 (by rw [wrapB_len, hlen]) (by omega)
  subst e2
  have hW3 := refWrap_any n c a l w2 (H1.out.2.keep hb2) (by omega)
  have H2 : Aside (Below w1.heap.size w1 w2 ∧ Own8 w1.heap.size w2 g2 (n + 7) c2 (wrapB l)) := ⟨hb2, h82⟩
  clear hW ho2 hb2 h82
  go_upto_region 4 with fail
  go_upto_region 5 with (go_at_call 12; refine hW3.mono ?_; rintro e w3 ⟨v3, rfl, ho3, hb3⟩; refine Hid.out ?_)
  refine hid ?_
  obtain ⟨g3, c3, e3, h83⟩ := row_of (l := l) (k := n + 7) ho3 (by rw [wrapB_len, hlen]) (by omega)
  subst e3
  have H3 : Aside (Below w1.heap.size w1 w3 ∧ Own8 w1.heap.size w3 g2 (n + 7) c2 (wrapB l) ∧ Own8 w2.heap.size w3 g3 (n + 7) c3 (wrapB l)) := ⟨H2.out.1.trans (hb3.mono H2.out.1.size), H2.out.2.keep hb3, h83⟩
  have hS4 := scan_any n c a l w3 (H1.out.2.keep H3.out.1) (by omega)
  clear hW3 ho3 hb3 h83 H2
  go_upto_region 5 with fail
  go_upto_region 6 with (go_at_call 11; refine hS4.mono ?_; rintro e w4 ⟨v4, ls4, rfl, hro4, hls4, hb4⟩; refine Hid.out ?_)
  refine hid ?_
  obtain ⟨a4, c4, e4, -⟩ := hro4.lists
  subst e4
  have H4 : Aside (Below w1.heap.size w1 w4 ∧ Own8 w1.heap.size w4 g2 (n + 7) c2 (wrapB l) ∧ Own8 w2.heap.size w4 g3 (n + 7) c3 (wrapB l) ∧ RowOut w3.heap.size w4 (.slice a4 ls4.length c4) ls4 ∧ ls4.map (·.l) = scanB l) := ⟨H3.out.1.trans (hb4.mono H3.out.1.size), H3.out.2.1.keep hb4, H3.out.2.2.keep hb4, hro4, hls4⟩
  have hS5 := refScan_any n c a l w4 (H1.out.2.keep H4.out.1) (by omega)
  clear hS4 hro4 hls4 hb4 H3
  go_upto_region 6 with fail
  go_upto_region 7 with (go_at_call 13; refine hS5.mono ?_; rintro e w5 ⟨v5, ls5, rfl, hro5, hls5, hb5⟩; refine Hid.out ?_)
  refine hid ?_
  obtain ⟨a5, c5, e5, hl5⟩ := hro5.lists
  subst e5
  obtain ⟨a4', c4', e4', hl4⟩ := (H4.out.2.2.2.1.keep hb5).lists
  injection e4' with e41 e42 e43
  subst e41
  have hlb : ∀ {q : List Lr}, q.map (·.l) = scanB l → q.length ≤ 60000 := fun {q} h => by
    have h1 := congrArg List.length h
    rw [List.length_map] at h1
    have h2 := rows_count (scanB l)
    have h3 := (ReadTo.start l n)
    have h4 : (rowsB (scanB l)).length ≤ l.length := rows_scan_le l
    omega
  have hsm := lawSame_any ls4.length ls5.length c4 c5 _ _ ls4 ls5 w5 hl4 hl5 rfl rfl (by have := hlb H4.out.2.2.2.2; omega) (by have := hlb hls5; omega)
  rw [H4.out.2.2.2.2, hls5, decide_eq_true rfl] at hsm
  have hcv1 := str_of ((H4.out.2.1.keep hb5).sl (by omega)).at_.mem (n + 7) c2 (by rw [wrapB_len, hlen])
  have hcv2 := str_of ((H4.out.2.2.1.keep hb5).sl (by omega)).at_.mem (n + 7) c3 (by rw [wrapB_len, hlen])
  have H5 : Aside (Below w.heap.size w w5) := H1.out.1.trans ((H4.out.1.trans (hb5.mono H4.out.1.size)).mono H1.out.1.size)
  clear hS5 hro5 hb5 hl5 hl4 H4 hls5 hlb e42 e43 H1
  go_wp2_with (go_at_call 14; refine hsm.mono ?_; rintro e w6 ⟨rfl, hb6⟩)
  go_ret
  exact ⟨ret_bool (by simp), H5.out.trans (hb6.mono H5.out.size)⟩
end Go.Proofs.Ytimijfibfjlkjaa.frame
