/-
  The contract of spans.Sound.
-/
import Derived.Test.YtfhihkogdnbghaaSpanSmall
import Derived.Test.YtfhihkogdnbghaaByteGrows
namespace Go.Proofs.Ytfhihkogdnbghaa.spans
open Go.ChangeShapes Go.WideShapes Go.ChangeAt Go.RowKit Go.Deep
open Go.Proofs.Ytfhihkogdnbghaa.bytes (ret_bool hid nth addr_add cell_lt own_below own_mono Grw wp_region_grow grow_same grow_of)
set_option linter.unusedVariables false
set_option maxRecDepth 100000
set_option linter.unusedSimpArgs false

theorem okB_zero {size nodes : Int} {l : List Sp} (h : (spn l 0).1 = 0) : okB size nodes l 0 = (decide ((spn l 0).1 < size) && isN (spn l 0).2 nodes) := by
  unfold okB isN
  simp [h]
theorem okB_pos {size nodes : Int} {l : List Sp} {k : Nat} (h : k ≠ 0) : okB size nodes l k = (decide ((spn l k).1 < size) && isN (spn l k).2 nodes && folB (spn l (k - 1)) (spn l k)) := by
  unfold okB isN folB
  simp [h]
theorem range_all {p : Nat → Bool} {k : Nat} (h : (List.range k).all p = true) (hk : p k = true) : (List.range (k + 1)).all p = true := by
  rw [List.range_succ, List.all_append, h]; simp [hk]
theorem range_not {p : Nat → Bool} {k n : Nat} (hk : k < n) (h : p k = false) : (List.range n).all p = false := by
  rw [List.all_eq_false]
  exact ⟨k, List.mem_range.2 hk, by simp [h]⟩

set_option maxRecDepth 100000 in
set_option maxHeartbeats 8000000 in
theorem sound_any (ep : Int) (a : Option Addr) (n c : Nat) (l : List Sp) (size nodes : Int) (w : World) (h : Sps w a n c l) :
    Calls Try.prog 17 #[mapV ep a n c, .int .i64 size, .int .i64 nodes] w fun e w' => e = .returned (.bool (sndB size nodes l)) ∧ Below w.heap.size w w' := by
  have hnn : n ≤ 9223372036854775807 := Nat.le_trans h.cap h.big
  unfold mapV
  obtain ⟨W0, hW⟩ : ∃ W0, w.alloc (.cells #[.int .u32 ep, .slice a n c] 29) = W0 := ⟨_, rfl⟩
  have hB : Below w.heap.size w W0 := by rw [← hW]; exact (Below.refl _ w).alloc (Nat.le_refl _) _
  have hM : Bx W0 w.heap.size #[.int .u32 ep, .slice a n c] 29 := by rw [← hW]; exact Bx.new _ _ _
  have p1 := hM.cell (j := 1) (x := .slice a n c) rfl
  have H : Aside (Sps W0 a n c l ∧ Below w.heap.size w W0 ∧ Bx W0 w.heap.size #[.int .u32 ep, .slice a n c] 29) := ⟨h.keep hB, hB, hM⟩
  have HW : Hid (w.alloc (.cells #[.int .u32 ep, .slice a n c] 29) = W0) := hW
  clear h hB hW hM
  by_cases h0 : n < 1
  · have hz : (n : Int) < 1 := by omega
    have E : Hid (sndB size nodes l = false) := by unfold sndB; show _ = _; rw [H.out.1.len, decide_eq_false (show ¬ 1 ≤ n by omega)]; rfl
    clear h0
    go_enter Try.func17, Try.ntmps17
    go_wp2_with fail
    rw [HW.out]
    go_wp2
    go_ret
    exact ⟨ret_bool E.out.symm, H.out.2.1⟩
  have hz0 : ¬ (n : Int) < 1 := by omega
  by_cases h4 : 40 < n
  · have hz : 40 < (n : Int) := by omega
    have E : Hid (sndB size nodes l = false) := by unfold sndB; show _ = _; rw [H.out.1.len, decide_eq_false (show ¬ n ≤ 40 by omega)]; simp
    clear h0 h4
    go_enter Try.func17, Try.ntmps17
    go_wp2_with fail
    rw [HW.out]
    go_wp2
    go_ret
    exact ⟨ret_bool E.out.symm, H.out.2.1⟩
  have hz4 : ¬ 40 < (n : Int) := by omega
  have hl0 : 0 < l.length := by rw [H.out.1.len]; omega
  have e1 : Hid (sndB size nodes l = (List.range n).all (okB size nodes l)) := by
    unfold sndB; show _ = _; rw [H.out.1.len, decide_eq_true (show 1 ≤ n by omega), decide_eq_true (show n ≤ 40 by omega)]; rfl
  obtain ⟨b, off, ha, hc⟩ := H.out.1.mem.get hl0
  subst ha
  have f0 := (hc 0 hl0).1
  simp only [Nat.zero_mul, Nat.add_zero] at f0
  by_cases hf : (spn l 0).1 = 0
  rotate_left
  · have E : Hid (sndB size nodes l = false) := by
      show _ = _
      rw [e1.out]
      refine range_not (k := 0) (by omega) ?_
      unfold okB
      simp [hf]
    generalize (spn l 0).1 = x at f0 hf
    have d1 : (x != 0) = true := by simp [hf]
    have d2 : (x == 0) = false := by simp [hf]
    have f1 : (w.alloc (.cells #[.int .u32 ep, .slice (some ⟨b, off, none⟩) n c] 29)).cell? ⟨b, off, none⟩ = some (.int .i64 x) := by rw [HW.out]; exact f0
    clear hf hc h0 h4 hl0
    go_enter Try.func17, Try.ntmps17
    go_wp2_with fail
    rw [HW.out]
    go_wp2
    go_ret
    exact ⟨ret_bool E.out.symm, H.out.2.1⟩
  have HC : Aside (_ ∧ _) := ⟨hc, hf⟩
  rw [hf] at f0
  have f1 : (w.alloc (.cells #[.int .u32 ep, .slice (some ⟨b, off, none⟩) n c] 29)).cell? ⟨b, off, none⟩ = some (.int .i64 0) := by rw [HW.out]; exact f0
  clear hc hf h0 h4 hl0
  go_enter Try.func17, Try.ntmps17
  go_wp2_with fail
  rw [HW.out]
  go_wp2_with fail
  go_loopg [7, 8, 30] n (fun g1 v7 v8 vi wr => ∃ (k : Nat), vi = .int .i64 k ∧ k ≤ n ∧ n - k ≤ g1 ∧ Aside (Below W0.heap.size W0 wr ∧ (List.range k).all (okB size nodes l) = true))
  case atStart => exact ⟨0, rfl, Nat.zero_le _, Nat.le_refl _, Below.refl _ _, rfl⟩
  case round =>
    obtain ⟨k, rfl, hk, hg1, SK⟩ := hrel
    have HBW : Aside (Below w.heap.size w wr) := H.out.2.1.trans (SK.out.1.mono H.out.2.1.size)
    by_cases hlt : k < n
    · have hltz : (k : Int) < (n : Int) := by omega
      have hkl : k < l.length := by rw [H.out.1.len]; exact hlt
      have hbW : Below W0.heap.size W0 (wr.alloc (.cells #[.int .i64 (spn l k).1, .int .i64 (spn l k).2] 38)) := SK.out.1.alloc SK.out.1.size _
      have hX : Bx (wr.alloc (.cells #[.int .i64 (spn l k).1, .int .i64 (spn l k).2] 38)) wr.heap.size #[.int .i64 (spn l k).1, .int .i64 (spn l k).2] 38 := Bx.new _ _ _
      have q1 := (SK.out.1.cell (p := ⟨b, off + k * 2, none⟩) (cell_lt (HC.out.1 k hkl).1)).trans (HC.out.1 k hkl).1
      have q2 := (SK.out.1.cell (p := ⟨b, off + k * 2 + 1, none⟩) (cell_lt (HC.out.1 k hkl).2.1)).trans (HC.out.1 k hkl).2.1
      go_upto_region 6 with fail
      obtain ⟨W1, hW1⟩ : ∃ W1, wr.alloc (.cells #[.int .i64 (spn l k).1, .int .i64 (spn l k).2] 38) = W1 := ⟨_, rfl⟩
      rw [hW1] at hbW hX
      rw [hW1]
      have c0 := hX.cell (j := 0) (x := .int .i64 (spn l k).1) rfl
      have c1 := hX.cell (j := 1) (x := .int .i64 (spn l k).2) rfl
      have m1 := (H.out.2.2.below hbW).cell (j := 1) (x := .slice (some ⟨b, off, none⟩) n c) rfl
      have HB1 : Aside (Below W0.heap.size W0 W1) := hbW
      have HS : Aside (Below W0.heap.size W0 wr ∧ (List.range k).all (okB size nodes l) = true) := SK.out
      have hFo := fun W => follows_any (spn l (k - 1)) (spn l k) W
      unfold spV at hFo
      have ok0 : Hid (k = 0 → okB size nodes l k = (decide ((spn l k).1 < size) && isN (spn l k).2 nodes)) := fun e => by subst e; exact okB_zero HC.out.2
      have ok1 : Hid (k ≠ 0 → okB size nodes l k = (decide ((spn l k).1 < size) && isN (spn l k).2 nodes && folB (spn l (k - 1)) (spn l k))) := fun e => okB_pos e
      have y1 := fun (h : 0 < k) => (hbW.cell (p := ⟨b, off + (k - 1) * 2, none⟩) (cell_lt (HC.out.1 (k - 1) (by omega)).1)).trans (HC.out.1 (k - 1) (by omega)).1
      have y2 := fun (h : 0 < k) => (hbW.cell (p := ⟨b, off + (k - 1) * 2 + 1, none⟩) (cell_lt (HC.out.1 (k - 1) (by omega)).2.1)).trans (HC.out.1 (k - 1) (by omega)).2.1
      generalize folB (spn l (k - 1)) (spn l k) = fb at hFo ok1
      generalize (spn l k).1 = x1 at c0 ok0 ok1 hFo q1
      generalize (spn l k).2 = x2 at c1 ok0 ok1 hFo q2
      generalize (spn l (k - 1)).1 = z1 at y1 hFo
      generalize (spn l (k - 1)).2 = z2 at y2 hFo
      have hIs := fun W => isNode_any x2 nodes W
      generalize isN x2 nodes = nb at hIs ok0 ok1
      clear hX hbW q1 q2 SK hW1
      go_cut [30, 60] from 30 to 61 (fun v30 c wx => v30 = .int .i64 k ∧ c = .bool (!okB size nodes l k) ∧ Aside (Below W0.heap.size W0 wx))
      case first =>
        by_cases hs : x1 < size
        rotate_left
        · have hsz : size ≤ x1 := by omega
          have d1 : decide (size ≤ x1) = true := decide_eq_true hsz
          have E : Hid (okB size nodes l k = false) := by
            show _ = _
            by_cases h0 : k = 0
            · rw [ok0.out h0, decide_eq_false hs]; rfl
            · rw [ok1.out h0, decide_eq_false hs]; rfl
          clear hs
          go_quiet (fail)
          have SB : Aside (Below W0.heap.size W0 (W1.drewN nq)) := below_drewN HB1.out nq
          go_wp2
          go_meet
          exact ⟨rfl, by rw [E.out]; rfl, SB.out⟩
        have hsz : ¬ size ≤ x1 := by omega
        have d1 : decide (size ≤ x1) = false := decide_eq_false hsz
        cases nb with
        | false =>
          have E : Hid (okB size nodes l k = false) := by
            show _ = _
            by_cases h0 : k = 0
            · rw [ok0.out h0]; simp
            · rw [ok1.out h0]; simp
          clear hs
          go_quiet (first | (go_at_call 33; refine Calls.quiet_of_same (hIs _)))
          have SB : Aside (Below W0.heap.size W0 (W1.drewN nq)) := below_drewN HB1.out nq
          go_wp2
          go_meet
          exact ⟨rfl, by rw [E.out]; rfl, SB.out⟩
        | true =>
          by_cases h0 : k = 0
          · have E : Hid (okB size nodes l k = true) := by
              show _ = _
              rw [ok0.out h0, decide_eq_true hs]; rfl
            subst h0
            clear hs y1 y2
            go_quiet (first | (go_at_call 33; refine Calls.quiet_of_same (hIs _)))
            have SB : Aside (Below W0.heap.size W0 (W1.drewN nq)) := below_drewN HB1.out nq
            go_wp2
            go_meet
            exact ⟨rfl, by rw [E.out]; rfl, SB.out⟩
          · have E : Hid (okB size nodes l k = fb) := by
              show _ = _
              rw [ok1.out h0, decide_eq_true hs]; rfl
            have hk0 : 0 < k := by omega
            have Y1 := y1 hk0
            have Y2 := y2 hk0
            clear y1 y2 hs
            obtain ⟨k', rfl⟩ : ∃ k', k = k' + 1 := ⟨k - 1, by omega⟩
            have hkp : ((k' + 1 : Nat) : Int) - 1 = (k' : Int) := by omega
            have hkz : (0 : Int) < ((k' + 1 : Nat) : Int) := by omega
            rw [Nat.add_sub_cancel] at Y1 Y2
            have hkn : (k' : Int) < (n : Int) := by omega
            have C0 := fun g : Grw W1 => g.cell c0
            have C1 := fun g : Grw W1 => g.cell c1
            have M1 := fun g : Grw W1 => g.cell m1
            have Z1 := fun g : Grw W1 => g.cell Y1
            have Z2 := fun g : Grw W1 => g.cell Y2
            clear c0 c1 m1 Y1 Y2 h0
            have hNE : Nonempty (Grw W1) := ⟨⟨W1, Below.refl _ _⟩⟩
            refine wp_region_grow (by kernel_rfl) (by kernel_rfl) ?_
            repeat (go_big_quiet_step (first | (go_at_call 33; refine grow_same (hIs _)) | (go_at_call 39; refine grow_of (hFo _))))
            refine wpQuiet_nil ?_
            rintro _ ⟨g, rfl⟩
            have SB : Aside (Below W0.heap.size W0 g.X) := HB1.out.trans (g.bel.mono HB1.out.size)
            go_wp2
            go_meet
            exact ⟨rfl, by rw [E.out], SB.out⟩
      case rest =>
        obtain ⟨rfl, rfl, SB⟩ := hcut
        have HBW2 : Aside (Below w.heap.size w wc) := H.out.2.1.trans (SB.out.mono H.out.2.1.size)
        cases hok : okB size nodes l k
        · have E : Hid (sndB size nodes l = false) := by show _ = _; rw [e1.out]; exact range_not hlt hok
          go_wp2
          go_ret
          exact ⟨ret_bool E.out.symm, HBW2.out⟩
        · have S2 := range_all HS.out.2 hok
          have HS2 : Aside (_ = _) := S2
          clear S2
          go_wp2
          go_roundg (n - (k + 1))
          case measure => omega
          case rel => exact ⟨k + 1, by go_num, by omega, by omega, SB.out, HS2.out⟩
    · have hltz : ¬ (k : Int) < (n : Int) := by omega
      have E : Hid (sndB size nodes l = true) := by
        obtain rfl : k = n := by omega
        show _ = _
        rw [e1.out]; exact SK.out.2
      go_wp2
      go_ret
      exact ⟨ret_bool E.out.symm, HBW.out⟩
end Go.Proofs.Ytfhihkogdnbghaa.spans
