/-
  FrameLong: a frame has seven bytes more than what it holds; it is new memory.
-/
import Derived.Test.YtimijfibfjlkjaaFrameUse
namespace Go.Proofs.Ytimijfibfjlkjaa.frame
open Go.ChangeShapes Go.WideShapes Go.ChangeAt Go.RowKit Go.Deep
open Go.Proofs.Ytimijfibfjlkjaa.bytes
set_option linter.unusedVariables false
set_option maxRecDepth 100000
set_option linter.unusedSimpArgs false

set_option maxHeartbeats 8000000 in
theorem long_walk (a : Option Addr) (n c : Nat) (l : List UInt8) (w : World) (h1 : Sl w a n c l) :
    Calls Try.prog 3 #[.slice a n c] w fun e w' => e = .returned (.bool true) ∧ Below w.heap.size w w' := by
  have hK := known_any w
  by_cases hbig : 1500 < n
  · have hz : (1500 : Int) < (n : Int) := by omega
    clear h1
    go_enter Try.func3, Try.ntmps3
    go_wp2_with (go_at_call 9; refine hK.mono ?_; rintro e w1 ⟨rfl, g1⟩)
    go_ret
    exact ⟨rfl, g1⟩
  have hz : ¬ (1500 : Int) < (n : Int) := by omega
  have H : Aside (Sl w a n c l) := h1
  clear h1
  go_enter Try.func3, Try.ntmps3
  go_upto_region 3 with (go_at_call 9; refine hK.mono ?_; rintro e w1 ⟨rfl, g1⟩)
  have H1 : Aside (Below w.heap.size w w1 ∧ Sl w1 a n c l) := ⟨g1, H.out.keep g1⟩
  clear H g1 hK
  have hcv := str_of H1.out.2.at_.mem n c H1.out.2.at_.len
  have hW := wrap_any n c a l w1 H1.out.2 (by omega)
  go_upto_region 5 with (go_at_call 10; refine hW.mono ?_; rintro e w2 ⟨v2, rfl, ho2, hb2⟩; refine Hid.out ?_)
  refine hid ?_
  have hlen := H1.out.2.at_.len
  obtain ⟨g, c2, e2, h8⟩ := row_of (l := l) (k := n + 7) ho2 (by rw [wrapB_len, hlen]) (by omega)
  subst e2
  have hs2 := h8.sl (by omega)
  have hc2 := hs2.at_.cap
  have H2 : Aside (Below w.heap.size w w2 ∧ Below w1.heap.size w1 w2 ∧ Own8 w1.heap.size w2 g (n + 7) c2 (wrapB l)) := ⟨H1.out.1.trans (hb2.mono H1.out.1.size), hb2, h8⟩
  have hmid : ((wrapB l).take (3 + n)).drop 3 = l := by
    rw [List.drop_take, show 3 + n - 3 = n by omega, ← hlen]
    have := wrap_mid (b := l) []
    rwa [List.append_nil] at this
  have hpart := (hs2.front (3 + n) (by omega)).back 3 (by omega)
  rw [hmid] at hpart
  have hcc : ¬ c2 = 3 := by omega
  unfold shift at hpart
  rw [if_neg hcc] at hpart
  simp only [Option.map_some, addr_add, Nat.zero_add] at hpart
  have hcv2 := str_of hpart.at_.mem n (c2 - 3) hlen
  have hS := scan_any (n + 7) c2 _ _ w2 hs2 (by omega)
  rw [scan_one (by omega), rows_one, wrapB_len, hlen] at hS
  clear hW ho2 hb2 h8 hs2 hpart hmid
  have b3 : (3 : Int) + (n : Int) ≤ (c2 : Int) := by omega
  go_upto_region 8 with (go_at_call 11; refine hS.mono ?_; rintro e w3 ⟨v3, ls, rfl, hro, hls, hb3⟩; refine Hid.out ?_)
  refine hid ?_
  obtain ⟨a3, c3, e3, hl3⟩ := rowout_len hro (k := 1) (by have := congrArg List.length hls; simpa using this)
  subst e3
  have hg3 : g < w2.heap.size := H2.out.2.2.lt.2
  have H3 : Aside (Own8 w1.heap.size w3 g (n + 7) c2 (wrapB l) ∧ RowOut w2.heap.size w3 (.slice a3 1 c3) ls ∧ ls.map (·.l) = [l] ∧ Below w1.heap.size w1 w3 ∧ Below w.heap.size w w1 ∧ Sl w1 a n c l) := ⟨H2.out.2.2.keep hb3, hro, hls, H2.out.2.1.trans (hb3.mono H2.out.2.1.size), H1.out.1, H1.out.2⟩
  clear hcv hcv2 hS hro hls hb3 hl3 H2 H1 hcc
  go_wp2_with fail
  go_loopg [8] (n + 7) (fun g1 vi wr => ∃ (k : Nat), vi = .int .i64 k ∧ k ≤ n + 7 ∧ n + 7 - k ≤ g1 ∧ Aside (∃ q, Own8 w1.heap.size wr g (n + 7) c2 q ∧ w3.grownBy wr (some g)))
  case atStart => exact ⟨0, rfl, Nat.zero_le _, Nat.le_refl _, _, H3.out.1, grown_none _ _⟩
  case round =>
    obtain ⟨k, rfl, hk, hg1, SK⟩ := hrel
    by_cases hlt : k < n + 7
    · have hltz : (k : Int) < (n : Int) + 7 := by omega
      have hkz : (k : Int) < ((n + 7 : Nat) : Int) := by omega
      obtain ⟨q, ho, hgr⟩ := SK.out
      have cg := ho.cell k hlt
      have fg := ho.frz k
      have hst := ho.store k 255
      have S2 : Aside (∃ q, Own8 w1.heap.size (wr.setCell ⟨g, k, none⟩ (.int .u8 255)) g (n + 7) c2 q ∧ w3.grownBy (wr.setCell ⟨g, k, none⟩ (.int .u8 255)) (some g)) := ⟨_, hst, grown_two hgr (grown_store _ _ _ _)⟩
      clear SK ho hgr hst
      go_wp2
      go_roundg (n + 7 - (k + 1))
      case measure => omega
      case rel => exact ⟨k + 1, by go_num, by omega, by omega, S2.out⟩
    · have hltz : ¬ (k : Int) < (n : Int) + 7 := by omega
      obtain ⟨q, ho, hgr⟩ := SK.out
      have hbE : Below w1.heap.size w1 wr := H3.out.2.2.2.1.grown hgr H3.out.2.2.2.1.size fun j hj => by injection hj with hj; subst hj; exact H3.out.1.lt.1
      have hsE := H3.out.2.2.2.2.2.keep hbE
      have hcE := str_of hsE.at_.mem n c hlen
      have hrE := H3.out.2.1.far hgr hg3
      obtain ⟨a4, c4, e4, hl4⟩ := hrE.lists
      injection e4 with e41 e42 e43
      subst e41
      obtain ⟨b5, o5, q5, d5, e5, r5, y5⟩ := list_at hl4 H3.out.2.2.1 0 (by simp)
      subst e5
      simp only [List.getElem_cons_zero, Nat.add_zero] at r5 y5
      have hc5 := str_of y5 n d5 hlen
      rw [hlen] at r5
      have HZ : Aside (Below w.heap.size w wr) := H3.out.2.2.2.2.1.trans (hbE.mono H3.out.2.2.2.2.1.size)
      clear SK ho hgr hbE hsE hrE hl4 y5 H3 e42 e43
      go_wp2
      go_ret
      exact ⟨ret_bool (by simp), HZ.out⟩
end Go.Proofs.Ytimijfibfjlkjaa.frame
