/-
  The walk of SpansSound: Sound, Find and Same of any maps are what the chapter says.
-/
import Derived.Test.YtfhihkogdnbghaaSpanKnown
import Derived.Test.YtfhihkogdnbghaaSpanRefSound
import Derived.Test.YtfhihkogdnbghaaSpanSame
import Derived.Test.YtfhihkogdnbghaaSpanOpen
namespace Go.Proofs.Ytfhihkogdnbghaa.spans
open Go.ChangeShapes Go.WideShapes Go.ChangeAt Go.RowKit Go.Deep
open Go.Proofs.Ytfhihkogdnbghaa.bytes (ret_bool hid nth addr_add cell_lt own_below own_mono Grw wp_region_grow grow_same grow_of)
set_option linter.unusedVariables false
set_option maxRecDepth 100000
set_option linter.unusedSimpArgs false

set_option maxRecDepth 100000 in
set_option maxHeartbeats 8000000 in
theorem soundLaw_walk (ep ep2 : Int) (a b : Option Addr) (n c m d : Nat) (l y : List Sp) (size nodes member : Int) (w : World) (h : Sps w a n c l) (h2 : Sps w b m d y) :
    Calls Try.prog 5 #[mapV ep a n c, mapV ep2 b m d, .int .i64 size, .int .i64 nodes, .int .i64 member] w fun e w' => e = .returned (.bool true) ∧ Below w.heap.size w w' := by
  obtain ⟨W0, hW0⟩ : ∃ W0, (w.alloc (.cells (mapC ep a n c) 29)).alloc (.cells (mapC ep2 b m d) 29) = W0 := ⟨_, rfl⟩
  have hb0 : Below w.heap.size w W0 := by rw [← hW0]; (repeat (first | with_reducible exact Below.refl _ _ | (with_reducible refine Below.drew ?_) | (with_reducible refine Below.alloc ?_ (by first | omega | (simp; done) | (simp; omega)) _) | (with_reducible refine Below.setCell ?_ (by first | exact Nat.le_refl _ | omega | (simp; done) | (simp; omega)) _)))
  have hM : Bx W0 w.heap.size (mapC ep a n c) 29 := by rw [← hW0]; exact (Bx.new w _ _).below ((Below.refl _ _).alloc (Nat.le_refl _) _)
  have hM2 : Bx W0 (w.heap.size + 1) (mapC ep2 b m d) 29 := by
    have := Bx.new (w.alloc (.cells (mapC ep a n c) 29)) (mapC ep2 b m d) 29
    rw [hW0] at this
    simpa using this
  have HP : Aside (∀ W, Below W0.heap.size W0 W → W.cell? ⟨w.heap.size, 0, none⟩ = some (.int .u32 ep) ∧ W.cell? ⟨w.heap.size, 1, none⟩ = some (.slice a n c) ∧ W.cell? ⟨w.heap.size + 1, 0, none⟩ = some (.int .u32 ep2) ∧ W.cell? ⟨w.heap.size + 1, 1, none⟩ = some (.slice b m d)) := fun W hb => ⟨(hM.below hb).cell (j := 0) rfl, (hM.below hb).cell (j := 1) rfl, (hM2.below hb).cell (j := 0) rfl, (hM2.below hb).cell (j := 1) rfl⟩
  obtain ⟨p0, p1, p2, p3⟩ := HP.out W0 (Below.refl _ _)
  have hK := fun W => known_any W
  have HW : Hid ((w.alloc (.cells #[.int .u32 ep, .slice a n c] 29)).alloc (.cells #[.int .u32 ep2, .slice b m d] 29) = W0) := hW0
  have HB : Aside (Below w.heap.size w W0) := hb0
  have HS : Aside (Sps W0 a n c l ∧ Sps W0 b m d y) := ⟨h.keep hb0, h2.keep hb0⟩
  clear hM hM2 hb0 h h2 hW0
  unfold mapV
  by_cases hn : 200 < n
  · have hnz : (200 : Int) < (n : Int) := by omega
    go_enter Try.func5, Try.ntmps5
    go_wp2_with fail
    rw [HW.out]
    go_wp2_with (go_at_call 13; refine (hK _).mono ?_; rintro e w1 ⟨rfl, hb1⟩)
    go_ret
    exact ⟨rfl, HB.out.trans (hb1.mono HB.out.size)⟩
  have hnz : ¬ (200 : Int) < (n : Int) := by omega
  by_cases hm : 200 < m
  · have hmz : (200 : Int) < (m : Int) := by omega
    go_enter Try.func5, Try.ntmps5
    go_wp2_with fail
    rw [HW.out]
    go_wp2_with (go_at_call 13; refine (hK _).mono ?_; rintro e w1 ⟨rfl, hb1⟩)
    go_ret
    exact ⟨rfl, HB.out.trans (hb1.mono HB.out.size)⟩
  have hmz : ¬ (200 : Int) < (m : Int) := by omega
  go_enter Try.func5, Try.ntmps5
  go_wp2_with fail
  rw [HW.out]
  go_upto_region 3 with (go_at_call 13; refine (hK _).mono ?_; rintro e w1 ⟨rfl, hb1⟩)
  clear p0 p1 p2 p3 hK hn hm
  obtain ⟨p0, p1, p2, p3⟩ := HP.out w1 hb1
  have HB1 : Aside (Below w.heap.size w w1) := HB.out.trans (hb1.mono HB.out.size)
  have A0 := fun gw : Grw w1 => gw.cell p0
  have A1 := fun gw : Grw w1 => gw.cell p1
  have A2 := fun gw : Grw w1 => gw.cell p2
  have A3 := fun gw : Grw w1 => gw.cell p3
  have hS1 := HS.out.1.keep hb1
  have hS2 := HS.out.2.keep hb1
  have c1 := fun gw : Grw w1 => sound_any ep a n c l size nodes gw.X (hS1.keep gw.bel)
  have c2 := fun gw : Grw w1 => refSound_any ep a n c l size nodes gw.X (hS1.keep gw.bel)
  have c3 := fun gw : Grw w1 => find_any ep a n c l member gw.X (hS1.keep gw.bel)
  have c4 := fun gw : Grw w1 => refFind_any ep a n c l member gw.X (hS1.keep gw.bel)
  have c5 := fun gw : Grw w1 => same_any gw.X ep ep2 a b l y n m c d (hS1.keep gw.bel) (hS2.keep gw.bel)
  have c6 := fun gw : Grw w1 => sameMap_any gw.X ep ep2 a b l y n m c d (hS1.keep gw.bel).mem hS1.len (hS2.keep gw.bel).mem hS2.len (Nat.le_trans hS1.cap hS1.big) (Nat.le_trans hS2.cap hS2.big)
  unfold mapV at c1 c2 c3 c4 c5 c6
  generalize sndB size nodes l = q1 at c1 c2
  generalize find l member = q2 at c3 c4
  generalize (decide (ep = ep2) && decide (l = y)) = q3 at c5 c6
  clear p0 p1 p2 p3 hS1 hS2
  have hNE : Nonempty (Grw w1) := ⟨⟨w1, Below.refl _ _⟩⟩
  refine wp_region_grow (by kernel_rfl) (by kernel_rfl) ?_
  repeat (go_big_quiet_step (first
    | (go_at_call 17; refine grow_of (c1 _))
    | (go_at_call 18; refine grow_of (c2 _))
    | (go_at_call 19; refine grow_of (c3 _))
    | (go_at_call 20; refine grow_of (c4 _))
    | (go_at_call 15; refine grow_of (c5 _))
    | (go_at_call 21; refine grow_of (c6 _))))
  refine wpQuiet_nil ?_
  rintro _ ⟨gw, rfl⟩
  go_wp2
  go_ret
  exact ⟨rfl, HB1.out.trans (gw.bel.mono HB1.out.size)⟩
end Go.Proofs.Ytfhihkogdnbghaa.spans
