/-
  FrameScans: Scan of frames one behind the other, with any bytes behind, is what the chapter says; of frames alone it is these.
-/
import Derived.Test.YtimijfibfjlkjaaFrameUse
import Derived.Test.YtimijfibfjlkjaaFrameRowsUse
import Derived.Test.YtimijfibfjlkjaaFrameRefScan
namespace Go.Proofs.Ytimijfibfjlkjaa.frame
open Go.ChangeShapes Go.WideShapes Go.ChangeAt Go.RowKit Go.Deep
open Go.Proofs.Ytimijfibfjlkjaa.bytes
set_option linter.unusedVariables false
set_option maxRecDepth 100000
set_option linter.unusedSimpArgs false

set_option maxHeartbeats 8000000 in
theorem scans_walk (a : Option Addr) (n c : Nat) (ls : List Lr) (b : Option Addr) (m d : Nat) (k : List UInt8) (w : World) (hL : ListsIn w a ls) (hn : ls.length = n) (hn2 : n ≤ 9223372036854775807) (hw : wt ls ≤ 1000000000000) (hcp : ∀ i, i < ls.length → (ln ls i).l.length ≤ (ln ls i).cap) (h2 : Sl w b m d k) :
    Calls Try.prog 5 #[.slice a n c, .slice b m d] w fun e w' => e = .returned (.bool true) ∧ Below w.heap.size w w' := by
  have hK := known_any w
  have hH := heavy_any n c a ls w hL hn hn2 hw
  by_cases hbig : 3000 < wt ls
  · rw [decide_eq_true hbig] at hH
    clear hL hn hw hcp h2 hbig
    go_enter Try.func5, Try.ntmps5
    go_wp2_with (first | (go_at_call 15; refine hH.mono ?_; rintro e w0 ⟨rfl, rfl⟩) | (go_at_call 9; refine hK.mono ?_; rintro e w1 ⟨rfl, g1⟩))
    go_ret
    exact ⟨rfl, g1⟩
  rw [decide_eq_false hbig] at hH
  by_cases hbig2 : 1500 < m
  · have hz2 : (1500 : Int) < (m : Int) := by omega
    clear hL hn hw hcp h2 hbig
    go_enter Try.func5, Try.ntmps5
    go_wp2_with (first | (go_at_call 15; refine hH.mono ?_; rintro e w0 ⟨rfl, rfl⟩) | (go_at_call 9; refine hK.mono ?_; rintro e w1 ⟨rfl, g1⟩))
    go_ret
    exact ⟨rfl, g1⟩
  have hz2 : ¬ (1500 : Int) < (m : Int) := by omega
  have hsm := small_of (Nat.le_of_not_lt hbig)
  have hlen2 := h2.at_.len
  have H : Aside (ListsIn w a ls ∧ ls.length = n ∧ wt ls ≤ 3000 ∧ (∀ i, i < ls.length → (ln ls i).l.length ≤ (ln ls i).cap) ∧ Sl w b m d k) := ⟨hL, hn, Nat.le_of_not_lt hbig, hcp, h2⟩
  have hn3 : n ≤ 3000 := by rw [← hn]; exact hsm.2
  obtain ⟨R, hR⟩ : ∃ R, rowsB (ls.map (·.l)) = R := ⟨_, rfl⟩
  have hRl : R.length ≤ 3000 := by rw [← hR, wt_rows]; exact Nat.le_of_not_lt hbig
  have HR : Aside (rowsB (ls.map (·.l)) = R ∧ scanB R = ls.map (·.l) ∧ ∀ r, scanB (R ++ r) = ls.map (·.l) ++ scanB r) := ⟨hR, by rw [← hR]; exact scan_whole (Nat.le_of_not_lt hbig), fun r => by rw [← hR]; exact scan_rows hsm.1 r⟩
  obtain ⟨i0, hi, hz0, hz1, hz2'⟩ := info_parts info_u8
  clear hL hn hw hcp h2 hbig hsm hn2 hR
  go_enter Try.func5, Try.ntmps5
  go_upto_region 3 with (first | (go_at_call 15; refine hH.mono ?_; rintro e w0 ⟨rfl, rfl⟩) | (go_at_call 9; refine hK.mono ?_; rintro e w1 ⟨rfl, g1⟩))
  have H1 : Aside (Below w.heap.size w w1 ∧ ListsIn w1 a ls ∧ Sl w1 b m d k) := ⟨g1, H.out.1.keep g1, H.out.2.2.2.2.keep g1⟩
  clear g1 hK hH
  have hRw := rows_any n c a ls w1 H1.out.2.1 H.out.2.1 (by omega) (by have := H.out.2.2.1; omega) H.out.2.2.2.1
  rw [HR.out.1] at hRw
  go_upto_region 4 with (go_at_call 16; refine hRw.mono ?_; rintro e w2 ⟨v2, rfl, ho2, hb2⟩; refine Hid.out ?_)
  refine hid ?_
  obtain ⟨a2, c2, e2, hs2⟩ := ho2.sl (by omega)
  subst e2
  obtain ⟨rn, hrn⟩ : ∃ rn, R.length = rn := ⟨_, rfl⟩
  have HN : Aside (R.length = rn) := hrn
  rw [hrn] at hs2 hRl ⊢
  have H2 : Aside (Below w1.heap.size w1 w2 ∧ Sl w2 a2 rn c2 R) := ⟨hb2, hs2⟩
  have hS := scan_any rn c2 a2 R w2 hs2 (by omega)
  rw [HR.out.2.1, HR.out.1, hrn] at hS
  clear hRw ho2 hb2 hs2 hrn
  go_upto_region 4 with fail
  go_upto_region 5 with (go_at_call 11; refine hS.mono ?_; rintro e w3 ⟨v3, xs, rfl, hro3, hls3, hb3⟩; refine Hid.out ?_)
  refine hid ?_
  obtain ⟨a3, c3, e3, -⟩ := rowout_len hro3 (k := n) (by have h1 := congrArg List.length hls3; rw [List.length_map, List.length_map, H.out.2.1] at h1; exact h1)
  subst e3
  have H3 : Aside (Below w1.heap.size w1 w3 ∧ Sl w3 a2 rn c2 R ∧ RowOut w2.heap.size w3 (.slice a3 n c3) xs ∧ xs.map (·.l) = ls.map (·.l)) := ⟨H2.out.1.trans (hb3.mono H2.out.1.size), H2.out.2.keep hb3, hro3, hls3⟩
  clear hS hro3 hls3 hb3 H2
  go_upto_region 6 with fail
  go_cut [8] from 32 (fun t wx => ∃ (ax : Option Addr) (cx : Nat), t = .slice ax rn cx ∧ Aside (Bs w3.heap.size wx (.slice ax rn cx) R ∧ Below w3.heap.size w3 wx))
  case first =>
    have hown : w3.ownsRow w3.heap.size 5 1 (.slice none 0 0) 0 [] := World.ownsRow_nil _ _ _ _
    by_cases h0 : rn = 0
    · subst h0
      have hnil : R = [] := List.eq_nil_of_length_eq_zero HN.out
      have S2 : Aside (Bs w3.heap.size w3 (.slice none 0 0) R ∧ Below w3.heap.size w3 w3) := ⟨by rw [hnil]; exact Bs.none _ _, Below.refl _ _⟩
      clear hnil
      go_wp2_with (at_builtin; refine wpList_append_zero rfl (.tmp 32) (.tmp 33) 22 rfl w3.heap.size 5 i0 1 Try.underlying22 hi _ _ _ rfl hown _ _ rfl ?_)
      go_meet
      case rel => exact ⟨none, 0, rfl, S2.out⟩
    · obtain ⟨b2, o2, ha, hnews⟩ := H3.out.2.1.news (by omega)
      subst ha
      have hcl : (Lib.byteCells R).length = rn * 1 := by rw [byteCells_len, HN.out]; omega
      have hone := byteCells_one R
      have S2 : Aside (∀ g c4 w4, w4.ownsRow w3.heap.size 5 1 (.slice (some ⟨g, 0, none⟩) rn c4) rn (Lib.byteCells R) → w3.grownBy w4 none → Bs w3.heap.size w4 (.slice (some ⟨g, 0, none⟩) rn c4) R ∧ Below w3.heap.size w3 w4) := fun g c4 w4 ho hg => ⟨by unfold Bs; rw [HN.out]; exact ho, ⟨hg.os, hg.tape, hg.output, hg.size, fun i hi => hg.block i hi (by simp)⟩⟩
      go_wp2_with (at_builtin; refine wpList_append_lies _ rfl (.tmp 32) (.tmp 33) 22 rfl w3.heap.size 5 i0 _ 1 1 Try.underlying22 hi hz0 hz1 hz2' rfl (by decide) _ 0 [] rfl hown ⟨b2, o2, none⟩ rn c2 (Lib.byteCells R) rfl hcl hnews hone (by omega) (by unfold maxLen; omega) (by omega) (Nat.le_refl _) _ rfl ?_; intro g4 c4 w4 hown4 hgr4 _ _; refine Hid.out ?_)
      refine hid ?_
      simp only [Nat.zero_add, List.nil_append] at hown4 ⊢
      have S3 : Aside (_ ∧ _) := S2.out g4 c4 w4 hown4 hgr4
      clear S2 hown4 hgr4 hnews hcl hone hown
      go_wp2
      go_meet
      case rel => exact ⟨_, c4, rfl, S3.out⟩
  case rest =>
    obtain ⟨ax, cx, rfl, S3⟩ := hcut
    go_upto_region 7 with fail
    go_cut [8] from 35 (fun t wx => ∃ (ay : Option Addr) (cy : Nat), t = .slice ay (rn + m) cy ∧ Aside (Bs w3.heap.size wx (.slice ay (rn + m) cy) (R ++ k) ∧ Below w3.heap.size w3 wx))
    case first =>
      have hown : wc.ownsRow w3.heap.size 5 1 (.slice ax rn cx) rn (Lib.byteCells R) := by have := S3.out.1; unfold Bs at this; rwa [HN.out] at this
      have hbase := S3.out.2.size
      by_cases h0 : m = 0
      · subst h0
        have hnil : k = [] := List.eq_nil_of_length_eq_zero hlen2
        have S2 : Aside (Bs w3.heap.size wc (.slice ax (rn + 0) cx) (R ++ k) ∧ Below w3.heap.size w3 wc) := ⟨by rw [hnil, List.append_nil]; exact S3.out.1, S3.out.2⟩
        clear hnil S3
        go_wp2_with (at_builtin; refine wpList_append_zero rfl (.tmp 35) (.tmp 36) 22 rfl w3.heap.size 5 i0 1 Try.underlying22 hi _ _ _ rfl hown _ _ rfl ?_)
        go_meet
        case rel => exact ⟨ax, cx, rfl, S2.out⟩
      · have hb13 : Below w1.heap.size w1 wc := H3.out.1.trans (S3.out.2.mono H3.out.1.size)
        obtain ⟨b2, o2, ha, hnews⟩ := (H1.out.2.2.keep hb13).news (by omega)
        subst ha
        have hcl : (Lib.byteCells k).length = m * 1 := by rw [byteCells_len, hlen2]; omega
        have hone := byteCells_one k
        have S2 : Aside (∀ g c4 w4, w4.ownsRow w3.heap.size 5 1 (.slice (some ⟨g, 0, none⟩) (rn + m) c4) (rn + m) (Lib.byteCells R ++ Lib.byteCells k) → wc.grownBy w4 (Value.slice ax rn cx).ownBlock → ((Value.slice ax rn cx).ownBlock = some g ∨ g = wc.heap.size) → Bs w3.heap.size w4 (.slice (some ⟨g, 0, none⟩) (rn + m) c4) (R ++ k) ∧ Below w3.heap.size w3 w4) := fun g c4 w4 ho hg hat => by
          obtain ⟨p1, p2⟩ := Bs.pushes HN.out hlen2 ho hg hat
          exact ⟨p1, S3.out.2.trans (p2.below S3.out.1 hbase)⟩
        clear S3 hb13
        go_wp2_with (at_builtin; refine wpList_append_lies _ rfl (.tmp 35) (.tmp 36) 22 rfl w3.heap.size 5 i0 _ 1 1 Try.underlying22 hi hz0 hz1 hz2' rfl (by decide) _ rn _ rfl hown ⟨b2, o2, none⟩ m d (Lib.byteCells k) rfl hcl hnews hone (by omega) (by unfold maxLen; omega) (by omega) hbase _ rfl ?_; intro g4 c4 w4 hown4 hgr4 hat4 _; refine Hid.out ?_)
        refine hid ?_
        have S4 : Aside (_ ∧ _) := S2.out g4 c4 w4 hown4 hgr4 hat4
        clear S2 hown4 hgr4 hat4 hnews hcl hone hown
        go_wp2
        go_meet
        case rel => exact ⟨_, c4, rfl, S4.out⟩
    case rest =>
      clear S3 hi hz0 hz1 hz2' ax cx
      obtain ⟨ay, cy, rfl, S4⟩ := hcut
      have hw11 := H1.out.1.size
      have h13 := H3.out.1.size
      have hb1c : Below w1.heap.size w1 wc := H3.out.1.trans (S4.out.2.mono h13)
      have hRk : (R ++ k).length = rn + m := by rw [List.length_append, HN.out, hlen2]
      have hs4 : Sl wc ay (rn + m) cy (R ++ k) := by
        obtain ⟨a', c', e, hs⟩ := S4.out.1.sl (by omega)
        rw [hRk] at e hs
        injection e with e1 e2 e3
        subst e1 e3
        exact hs
      have HSK : Hid (scanB (R ++ k) = ls.map (·.l) ++ scanB k) := HR.out.2.2 k
      have hS5 := scan_any (rn + m) cy ay _ wc hs4 (by omega)
      rw [HSK.out] at hS5
      have hbnd : (scanB k).length ≤ 1500 := by have := rows_scan_bound k; omega
      obtain ⟨N, hN⟩ : ∃ N, (rowsB (ls.map (·.l) ++ scanB k)).length = N := ⟨_, rfl⟩
      obtain ⟨M, hM⟩ : ∃ M, (scanB k).length = M := ⟨_, rfl⟩
      rw [hN] at hS5
      rw [hM] at hbnd
      have HNN : Hid ((rowsB (ls.map (·.l) ++ scanB k)).length = N) := hN
      have HMM : Hid ((scanB k).length = M) := hM
      have HRk : Hid ((R ++ k).length = rn + m) := hRk
      clear hN hM hRk
      have H4 : Aside (Below w1.heap.size w1 wc ∧ RowOut w2.heap.size wc (.slice a3 n c3) xs ∧ Sl wc ay (rn + m) cy (R ++ k)) := ⟨hb1c, H3.out.2.2.1.keep S4.out.2, hs4⟩
      have HX : Aside (xs.map (·.l) = ls.map (·.l)) := H3.out.2.2.2
      clear S4 hs4 H3 hb1c
      go_upto_region 9 with (go_at_call 11; refine hS5.mono ?_; rintro e w5 ⟨v5, ys, rfl, hro5, hls5, hb5⟩; refine Hid.out ?_)
      refine hid ?_
      have hyl : ys.length = n + M := by
        have h1 := congrArg List.length hls5
        rw [List.length_map, List.length_append, List.length_map, H.out.2.1, HMM.out] at h1
        exact h1
      obtain ⟨a5, c5, e5, -⟩ := rowout_len hro5 hyl
      subst e5
      have H5 : Aside (Below w1.heap.size w1 w5 ∧ RowOut w2.heap.size w5 (.slice a3 n c3) xs ∧ RowOut wc.heap.size w5 (.slice a5 (n + M) c5) ys ∧ ys.map (·.l) = ls.map (·.l) ++ scanB k) := ⟨H4.out.1.trans (hb5.mono H4.out.1.size), H4.out.2.1.keep hb5, hro5, hls5⟩
      have hS6 := refScan_any (rn + m) cy ay _ w5 (H4.out.2.2.keep hb5) (by omega)
      rw [HSK.out, HNN.out] at hS6
      clear hS5 hro5 hls5 hb5 H4
      go_upto_region 9 with fail
      go_upto_region 10 with (go_at_call 13; refine hS6.mono ?_; rintro e w6 ⟨v6, zs, rfl, hro6, hls6, hb6⟩; refine Hid.out ?_)
      refine hid ?_
      have hzl : zs.length = n + M := by
        have h1 := congrArg List.length hls6
        rw [List.length_map, List.length_append, List.length_map, H.out.2.1, HMM.out] at h1
        exact h1
      obtain ⟨a6, c6, e6, -⟩ := rowout_len hro6 hzl
      subst e6
      have H6 : Aside (Below w1.heap.size w1 w6 ∧ RowOut w2.heap.size w6 (.slice a3 n c3) xs ∧ RowOut wc.heap.size w6 (.slice a5 (n + M) c5) ys ∧ RowOut w5.heap.size w6 (.slice a6 (n + M) c6) zs) := ⟨H5.out.1.trans (hb6.mono H5.out.1.size), H5.out.2.1.keep hb6, H5.out.2.2.1.keep hb6, hro6⟩
      have hxl : xs.length = n := by have h1 := congrArg List.length HX.out; rw [List.length_map, List.length_map, H.out.2.1] at h1; exact h1
      have hC1 : Calls Try.prog 14 #[.slice a3 n c3, .slice a n c] w6 fun e w' => e = .returned (.bool true) ∧ Below w6.heap.size w6 w' :=
        same_in H6.out.2.1 (H1.out.2.1.keep H6.out.1) hxl H.out.2.1 (by omega) HX.out
      have hC2 : ∀ W, Below w6.heap.size w6 W → Calls Try.prog 14 #[.slice a5 (n + M) c5, .slice a6 (n + M) c6] W fun e w' => e = .returned (.bool true) ∧ Aside (Below w6.heap.size w6 w') := fun W hW =>
        (same_out (H6.out.2.2.1.keep hW) (H6.out.2.2.2.keep hW) hyl hzl (by omega) (H5.out.2.2.2.trans hls6.symm)).mono fun e w' ⟨g1, g2⟩ => ⟨g1, hW.trans (g2.mono hW.size)⟩
      have HZ : Aside (Below w.heap.size w w6) := H1.out.1.trans (H6.out.1.mono hw11)
      clear hS6 hro6 hls6 hb6 H5 H6 HX H1 HSK hyl hzl hxl HNN HMM HRk
      have bn : (n : Int) ≤ ((n + M : Nat) : Int) := by omega
      go_wp2_with (first | (go_at_call 14; with_reducible refine hC1.mono ?_; rintro e w7 ⟨rfl, hb7⟩; clear hC1; have hC3 := hC2 w7 hb7) | (go_at_call 14; with_reducible refine hC3.mono ?_; rintro e w8 ⟨rfl, hb8⟩))
      go_ret
      exact ⟨ret_bool (decide_eq_true (by omega)), HZ.out.trans (hb8.out.mono HZ.out.size)⟩
end Go.Proofs.Ytimijfibfjlkjaa.frame
