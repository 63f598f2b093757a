/-
  The contract of the chapter's own Split.
-/
import Derived.Test.YtfhihkogdnbghaaSpanSplit
import Derived.Test.YtfhihkogdnbghaaSpanRefSound
namespace Go.Proofs.Ytfhihkogdnbghaa.spans
open Go.ChangeShapes Go.WideShapes Go.ChangeAt Go.RowKit Go.Deep
open Go.Proofs.Ytfhihkogdnbghaa.bytes (ret_bool hid nth addr_add cell_lt own_below own_mono)
set_option linter.unusedVariables false
set_option maxRecDepth 100000
set_option linter.unusedSimpArgs false

def validB (l : List Sp) (size nodes frm till node : Int) : Bool := sndB size nodes l && decide (size ≤ 10000) && decide (0 ≤ frm) && decide (frm < till) && decide (till ≤ size) && decide (0 ≤ node) && decide (node < min nodes 6)
theorem may_valid (l : List Sp) (size nodes frm till node : Int) : mayB l size nodes frm till node = (validB l size nodes frm till node && !decide (nodesOf l frm till = [node])) := rfl
theorem split_not {ep : Int} {l : List Sp} {size nodes frm till node : Int} (h : validB l size nodes frm till node = false) : splitE ep l size nodes frm till node = (0, [], 120) := by
  unfold splitE; rw [may_valid, h]; rfl
theorem runs_len (g : Int → Int) : ∀ k, (runs g k).1.length ≤ k
  | 0 => Nat.le_refl _
  | k + 1 => by
    have ih := runs_len g k
    show (if g k = (runs g k).2 then runs g k else _).1.length ≤ _
    split
    · omega
    · show (_ ++ [_]).length ≤ _
      rw [List.length_append]; simp; omega
theorem Bx.set1 {w : World} {g : Nat} {x y : Value} {t : TypeId} (h : Bx w g #[x, y] t) (y' : Value) : Bx (w.setCell ⟨g, 1, none⟩ y') g #[x, y'] t := heap_setCell_same w g 1 #[x, y] t y' h
theorem Bx.other {w : World} {g h : Nat} {cs : Array Value} {t : TypeId} (hb : Bx w g cs t) (hne : g ≠ h) (o : Nat) (v : Value) : Bx (w.setCell ⟨h, o, none⟩ v) g cs t := (heap_setCell_other w ⟨h, o, none⟩ g v hne).trans hb
/-- between two rounds -/
structure RI (w : World) (ob : Nat) (ep ep1 : Int) (a : Option Addr) (n c : Nat) (l : List Sp) (g : Int → Int) (k : Nat) (W : World) (ao : Option Addr) (no co : Nat) : Prop where
  bel : Below w.heap.size w W
  m : Bx W w.heap.size (mapC ep a n c) 29
  r : Bx W (w.heap.size + 1) (mapC 0 none 0 0) 29
  o : Bx W ob (mapC ep1 ao no co) 29
  rows : So (ob + 1) W (.slice ao no co) (runs g k).1
  low : w.heap.size + 2 ≤ ob
theorem RI.keep {w : World} {ob : Nat} {ep ep1 : Int} {a : Option Addr} {n c : Nat} {l : List Sp} {g : Int → Int} {k : Nat} {W W' : World} {ao : Option Addr} {no co : Nat} (h : RI w ob ep ep1 a n c l g k W ao no co) (hb : Below W.heap.size W W') : RI w ob ep ep1 a n c l g k W' ao no co :=
  ⟨h.bel.trans (hb.mono h.bel.size), h.m.below hb, h.r.below hb, h.o.below hb, h.rows.keep hb, h.low⟩
theorem So.count {B n c : Nat} {w : World} {a : Option Addr} {l : List Sp} (h : So B w (.slice a n c) l) : n = l.length := by
  rcases h.2 with ⟨hv, h0⟩ | ⟨g1, cap, cur, hv, _⟩
  · injection hv with h1 h2; omega
  · injection hv with h1 h2
theorem RI.same {w : World} {ob : Nat} {ep ep1 : Int} {a : Option Addr} {n c : Nat} {l : List Sp} {g : Int → Int} {k : Nat} {W : World} {ao : Option Addr} {no co : Nat} (h : RI w ob ep ep1 a n c l g k W ao no co) (e : runs g (k + 1) = runs g k) : RI w ob ep ep1 a n c l g (k + 1) W ao no co :=
  ⟨h.bel, h.m, h.r, h.o, by rw [e]; exact h.rows, h.low⟩
theorem find_i64 {l : List Sp} (h : ∀ s ∈ l, I64 s.1 ∧ I64 s.2) (v : Int) : I64 (find l v) := by
  rcases find_mem l v with e | ⟨s, hs, _, e⟩
  · rw [e]; unfold I64; omega
  · rw [e]; exact (h s hs).2
theorem split_yes {ep : Int} {l : List Sp} {size nodes frm till node : Int} (h : validB l size nodes frm till node = true) (ho : nodesOf l frm till ≠ [node]) : splitE ep l size nodes frm till node = if 40 < (given l size frm till node).length then (0, [], 3) else ((ep + 1) % 4294967296, given l size frm till node, 0) := by
  unfold splitE; rw [may_valid, h, decide_eq_false ho]; rfl
theorem split_same {ep : Int} {l : List Sp} {size nodes frm till node : Int} (ho : nodesOf l frm till = [node]) : splitE ep l size nodes frm till node = (0, [], 120) := by
  unfold splitE; rw [may_valid, ho]; simp
theorem iff_zero {l : List Sp} {frm till node : Int} (h : 0 ≤ frm) : (false = true ↔ ∃ v : Int, frm ≤ v ∧ v < till ∧ v < ((0 : Nat) : Int) ∧ find l v ≠ node) := ⟨fun h => (by cases h), fun ⟨v, h1, h2, h3, _⟩ => (by omega)⟩
theorem iff_out {l : List Sp} {frm till node : Int} {b : Bool} {k : Nat} (h : b = true ↔ ∃ v : Int, frm ≤ v ∧ v < till ∧ v < (k : Int) ∧ find l v ≠ node) (hn : ¬ (frm ≤ (k : Int) ∧ (k : Int) < till)) : b = true ↔ ∃ v : Int, frm ≤ v ∧ v < till ∧ v < ((k + 1 : Nat) : Int) ∧ find l v ≠ node :=
  h.trans ⟨fun ⟨v, h1, h2, h3, h4⟩ => ⟨v, h1, h2, by omega, h4⟩, fun ⟨v, h1, h2, h3, h4⟩ => by
    by_cases e : v = (k : Int)
    · subst e; exact absurd ⟨h1, h2⟩ hn
    · exact ⟨v, h1, h2, by omega, h4⟩⟩
theorem iff_in {l : List Sp} {frm till node : Int} {b : Bool} {k : Nat} (h : b = true ↔ ∃ v : Int, frm ≤ v ∧ v < till ∧ v < (k : Int) ∧ find l v ≠ node) (hn : frm ≤ (k : Int) ∧ (k : Int) < till) : (b || !decide (find l k = node)) = true ↔ ∃ v : Int, frm ≤ v ∧ v < till ∧ v < ((k + 1 : Nat) : Int) ∧ find l v ≠ node := by
  constructor
  · intro hb
    cases b with
    | true =>
      obtain ⟨v, h1, h2, h3, h4⟩ := h.1 rfl
      exact ⟨v, h1, h2, by omega, h4⟩
    | false =>
      have h4 : find l k ≠ node := by simpa using hb
      exact ⟨k, hn.1, hn.2, by omega, h4⟩
  · rintro ⟨v, h1, h2, h3, h4⟩
    by_cases e : v = (k : Int)
    · subst e; simp [h4]
    · rw [h.2 ⟨v, h1, h2, by omega, h4⟩]; rfl
/-- one span more, in the box -/
theorem RI.push {w : World} {ob : Nat} {ep ep1 : Int} {a : Option Addr} {n c : Nat} {l : List Sp} {g : Int → Int} {k : Nat} {W W' : World} {ao a' : Option Addr} {no co n' c' : Nat} {s : Sp} (h : RI w ob ep ep1 a n c l g k W ao no co) (hk : (runs g (k + 1)).1 = (runs g k).1 ++ [s])
    (ho : So (ob + 1) W' (.slice a' n' c') ((runs g k).1 ++ [s])) (hg : W.grownBy W' (Value.slice ao no co).ownBlock) (hs : ob < W.heap.size) : RI w ob ep ep1 a n c l g (k + 1) (W'.setCell ⟨ob, 1, none⟩ (.slice a' n' c')) a' n' c' := by
  have hlw := h.low
  have hne : ∀ q, (Value.slice ao no co).ownBlock = some q → ob + 1 ≤ q := fun q hq => (h.rows.lt q hq).1
  have h1 : some w.heap.size ≠ (Value.slice ao no co).ownBlock := fun e => by have := hne _ e.symm; omega
  have h2 : some (w.heap.size + 1) ≠ (Value.slice ao no co).ownBlock := fun e => by have := hne _ e.symm; omega
  have h3 : some ob ≠ (Value.slice ao no co).ownBlock := fun e => by have := hne _ e.symm; omega
  refine ⟨(h.bel.grown hg h.bel.size fun q hq => by have := hne q hq; omega).setCell (by show w.heap.size ≤ ob; omega) _, (h.m.grown hg h1).other (by omega) _ _, (h.r.grown hg h2).other (by omega) _ _, (h.o.grown hg h3).set1 _, ?_, h.low⟩
  rw [hk]
  refine ownsRow_setCell_other ho (fun e => ?_) _
  have e2 : ob + 1 ≤ ob := (ho.lt _ e).1
  omega

set_option maxRecDepth 100000 in
set_option maxHeartbeats 8000000 in
theorem refSplit_any (ep : Int) (a : Option Addr) (n c : Nat) (l : List Sp) (size nodes frm till node : Int) (w : World) (h : Sps w a n c l) (hep : U32 ep) :
    Calls Try.prog 27 #[mapV ep a n c, .int .i64 size, .int .i64 nodes, .int .i64 frm, .int .i64 till, .int .i64 node] w (SpOut .i64 (splitE ep l size nodes frm till node) w) := by
  obtain ⟨W0, hW0⟩ : ∃ W0, w.alloc (.cells (mapC ep a n c) 29) = W0 := ⟨_, rfl⟩
  have hb0 : Below w.heap.size w W0 := by rw [← hW0]; exact (Below.refl _ w).alloc (Nat.le_refl _) _
  have hM0 : Bx W0 w.heap.size (mapC ep a n c) 29 := by rw [← hW0]; exact Bx.new _ _ _
  have s0 : W0.heap.size = w.heap.size + 1 := by rw [← hW0]; simp
  obtain ⟨W1, hW1⟩ : ∃ W1, W0.alloc (.cells (mapC 0 none 0 0) 29) = W1 := ⟨_, rfl⟩
  have hb1 : Below w.heap.size w W1 := by rw [← hW1]; exact hb0.alloc hb0.size _
  have s1 : W1.heap.size = w.heap.size + 2 := by rw [← hW1]; simp; omega
  have hM : Bx W1 w.heap.size (mapC ep a n c) 29 := by rw [← hW1]; exact hM0.below ((Below.refl _ _).alloc (Nat.le_refl _) _)
  have hR : Bx W1 (w.heap.size + 1) (mapC 0 none 0 0) 29 := by rw [← hW1, ← s0]; exact Bx.new _ _ _
  have P : Aside (∀ W, Below W1.heap.size W1 W → Bx W w.heap.size (mapC ep a n c) 29 ∧ Bx W (w.heap.size + 1) (mapC 0 none 0 0) 29) := fun W hb => ⟨hM.below hb, hR.below hb⟩
  have q0 := hM.cell (j := 0) (x := .int .u32 ep) rfl
  have q1 := hM.cell (j := 1) (x := .slice a n c) rfl
  have hS := refSound_any ep a n c l size nodes W1 (h.keep hb1)
  have HW : Hid ((w.alloc (.cells #[.int .u32 ep, .slice a n c] 29)).alloc (.cells #[.int .u32 0, .slice none 0 0] 29) = W1) := by show _ = _; rw [← hW1, ← hW0]; rfl
  have HB : Aside (Below w.heap.size w W1 ∧ W1.heap.size = w.heap.size + 2) := ⟨hb1, s1⟩
  have HL : Aside (Sps w a n c l) := h
  have hV := fun h => @split_not ep l size nodes frm till node h
  obtain ⟨mn, hmn⟩ : ∃ mn, min nodes 6 = mn := ⟨_, rfl⟩
  have HVd : Aside (validB l size nodes frm till node = (sndB size nodes l && decide (size ≤ 10000) && decide (0 ≤ frm) && decide (frm < till) && decide (till ≤ size) && decide (0 ≤ node) && decide (node < mn))) := by unfold validB; rw [hmn]; rfl
  obtain ⟨r, hr⟩ : ∃ r, splitE ep l size nodes frm till node = r := ⟨_, rfl⟩
  obtain ⟨s, hs⟩ : ∃ s, sndB size nodes l = s := ⟨_, rfl⟩
  rw [hr] at hV ⊢
  rw [hs] at hS HVd
  have HV : Aside (validB l size nodes frm till node = false → r = (0, [], 120)) := hV
  have HR : Aside (splitE ep l size nodes frm till node = r ∧ sndB size nodes l = s ∧ min nodes 6 = mn ∧ U32 ep) := ⟨hr, hs, hmn, hep⟩
  clear hV hr hs h hb0 hM0 hW0 hb1 hM hR hW1 s0 s1 hep
  unfold mapV at hS ⊢
  cases s with
  | false =>
    have E : Aside (r = (0, [], 120)) := HV.out (by rw [HVd.out]; simp)
    clear HVd HV HR
    go_enter Try.func27, Try.ntmps27
    go_wp2_with fail
    rw [HW.out]
    go_wp2_with (go_at_call 18; refine hS.mono ?_; rintro e w1 ⟨rfl, hb2⟩; obtain ⟨x1, x2⟩ := P.out _ hb2; have y0 := x2.cell (j := 0) (x := .int .u32 0) rfl; have y1 := x2.cell (j := 1) (x := .slice none 0 0) rfl; have f0 := x2.frz 0; have f1 := x2.frz 1; refine Hid.out ?_)
    refine hid ?_
    have X2 : Aside (Bx w1 (w.heap.size + 1) (mapC 0 none 0 0) 29) := x2
    clear x1 x2
    go_wp2
    refine bodyPost_ret (results_cell_map2 rfl _ _ (w.heap.size + 1) 0 none 0 0 (.int .i64 120) rfl rfl ?_) rfl ?_
    · exact X2.out.set2 _ _
    · rw [E.out]
      have k := HB.out.1.trans (hb2.mono HB.out.1.size)
      exact ⟨none, 0, 0, rfl, sps_none _, fun p h => (by cases h), (k.setCell (Nat.le_succ _) _).setCell (Nat.le_succ _) _⟩
  | true =>
    by_cases hf : 0 ≤ frm
    rotate_left
    · have hfz : frm < 0 := by omega
      have E : Aside (r = (0, [], 120)) := HV.out (by rw [HVd.out, decide_eq_false hf]; simp)
      clear HVd HV HR
      go_enter Try.func27, Try.ntmps27
      go_wp2_with fail
      rw [HW.out]
      go_wp2_with (go_at_call 18; refine hS.mono ?_; rintro e w1 ⟨rfl, hb2⟩; obtain ⟨x1, x2⟩ := P.out _ hb2; have y0 := x2.cell (j := 0) (x := .int .u32 0) rfl; have y1 := x2.cell (j := 1) (x := .slice none 0 0) rfl; have f0 := x2.frz 0; have f1 := x2.frz 1; refine Hid.out ?_)
      refine hid ?_
      have X2 : Aside (Bx w1 (w.heap.size + 1) (mapC 0 none 0 0) 29) := x2
      clear x1 x2
      go_wp2
      refine bodyPost_ret (results_cell_map2 rfl _ _ (w.heap.size + 1) 0 none 0 0 (.int .i64 120) rfl rfl ?_) rfl ?_
      · exact X2.out.set2 _ _
      · rw [E.out]
        have k := HB.out.1.trans (hb2.mono HB.out.1.size)
        exact ⟨none, 0, 0, rfl, sps_none _, fun p h => (by cases h), (k.setCell (Nat.le_succ _) _).setCell (Nat.le_succ _) _⟩
    by_cases hft : frm < till
    rotate_left
    · have hftz : till ≤ frm := by omega
      have E : Aside (r = (0, [], 120)) := HV.out (by rw [HVd.out, decide_eq_false hft]; simp)
      clear HVd HV HR
      go_enter Try.func27, Try.ntmps27
      go_wp2_with fail
      rw [HW.out]
      go_wp2_with (go_at_call 18; refine hS.mono ?_; rintro e w1 ⟨rfl, hb2⟩; obtain ⟨x1, x2⟩ := P.out _ hb2; have y0 := x2.cell (j := 0) (x := .int .u32 0) rfl; have y1 := x2.cell (j := 1) (x := .slice none 0 0) rfl; have f0 := x2.frz 0; have f1 := x2.frz 1; refine Hid.out ?_)
      refine hid ?_
      have X2 : Aside (Bx w1 (w.heap.size + 1) (mapC 0 none 0 0) 29) := x2
      clear x1 x2
      go_wp2
      refine bodyPost_ret (results_cell_map2 rfl _ _ (w.heap.size + 1) 0 none 0 0 (.int .i64 120) rfl rfl ?_) rfl ?_
      · exact X2.out.set2 _ _
      · rw [E.out]
        have k := HB.out.1.trans (hb2.mono HB.out.1.size)
        exact ⟨none, 0, 0, rfl, sps_none _, fun p h => (by cases h), (k.setCell (Nat.le_succ _) _).setCell (Nat.le_succ _) _⟩
    by_cases hts : till ≤ size
    rotate_left
    · have htsz : size < till := by omega
      have E : Aside (r = (0, [], 120)) := HV.out (by rw [HVd.out, decide_eq_false hts]; simp)
      clear HVd HV HR
      go_enter Try.func27, Try.ntmps27
      go_wp2_with fail
      rw [HW.out]
      go_wp2_with (go_at_call 18; refine hS.mono ?_; rintro e w1 ⟨rfl, hb2⟩; obtain ⟨x1, x2⟩ := P.out _ hb2; have y0 := x2.cell (j := 0) (x := .int .u32 0) rfl; have y1 := x2.cell (j := 1) (x := .slice none 0 0) rfl; have f0 := x2.frz 0; have f1 := x2.frz 1; refine Hid.out ?_)
      refine hid ?_
      have X2 : Aside (Bx w1 (w.heap.size + 1) (mapC 0 none 0 0) 29) := x2
      clear x1 x2
      go_wp2
      refine bodyPost_ret (results_cell_map2 rfl _ _ (w.heap.size + 1) 0 none 0 0 (.int .i64 120) rfl rfl ?_) rfl ?_
      · exact X2.out.set2 _ _
      · rw [E.out]
        have k := HB.out.1.trans (hb2.mono HB.out.1.size)
        exact ⟨none, 0, 0, rfl, sps_none _, fun p h => (by cases h), (k.setCell (Nat.le_succ _) _).setCell (Nat.le_succ _) _⟩
    by_cases hn0 : 0 ≤ node
    rotate_left
    · have hn0z : node < 0 := by omega
      have E : Aside (r = (0, [], 120)) := HV.out (by rw [HVd.out, decide_eq_false hn0]; simp)
      clear HVd HV HR
      go_enter Try.func27, Try.ntmps27
      go_wp2_with fail
      rw [HW.out]
      go_wp2_with (go_at_call 18; refine hS.mono ?_; rintro e w1 ⟨rfl, hb2⟩; obtain ⟨x1, x2⟩ := P.out _ hb2; have y0 := x2.cell (j := 0) (x := .int .u32 0) rfl; have y1 := x2.cell (j := 1) (x := .slice none 0 0) rfl; have f0 := x2.frz 0; have f1 := x2.frz 1; refine Hid.out ?_)
      refine hid ?_
      have X2 : Aside (Bx w1 (w.heap.size + 1) (mapC 0 none 0 0) 29) := x2
      clear x1 x2
      go_wp2
      refine bodyPost_ret (results_cell_map2 rfl _ _ (w.heap.size + 1) 0 none 0 0 (.int .i64 120) rfl rfl ?_) rfl ?_
      · exact X2.out.set2 _ _
      · rw [E.out]
        have k := HB.out.1.trans (hb2.mono HB.out.1.size)
        exact ⟨none, 0, 0, rfl, sps_none _, fun p h => (by cases h), (k.setCell (Nat.le_succ _) _).setCell (Nat.le_succ _) _⟩
    by_cases hnm : node < mn
    rotate_left
    · have hnmz : mn ≤ node := by omega
      have E : Aside (r = (0, [], 120)) := HV.out (by rw [HVd.out, decide_eq_false hnm]; simp)
      clear HVd HV HR
      go_enter Try.func27, Try.ntmps27
      go_wp2_with fail
      rw [HW.out]
      go_wp2_with (go_at_call 18; refine hS.mono ?_; rintro e w1 ⟨rfl, hb2⟩; obtain ⟨x1, x2⟩ := P.out _ hb2; have y0 := x2.cell (j := 0) (x := .int .u32 0) rfl; have y1 := x2.cell (j := 1) (x := .slice none 0 0) rfl; have f0 := x2.frz 0; have f1 := x2.frz 1; refine Hid.out ?_)
      refine hid ?_
      have X2 : Aside (Bx w1 (w.heap.size + 1) (mapC 0 none 0 0) 29) := x2
      clear x1 x2
      go_wp2
      refine bodyPost_ret (results_cell_map2 rfl _ _ (w.heap.size + 1) 0 none 0 0 (.int .i64 120) rfl rfl ?_) rfl ?_
      · exact X2.out.set2 _ _
      · rw [E.out]
        have k := HB.out.1.trans (hb2.mono HB.out.1.size)
        exact ⟨none, 0, 0, rfl, sps_none _, fun p h => (by cases h), (k.setCell (Nat.le_succ _) _).setCell (Nat.le_succ _) _⟩
    by_cases hsz : size ≤ 10000
    rotate_left
    · have hszz : 10000 < size := by omega
      have E : Aside (r = (0, [], 120)) := HV.out (by rw [HVd.out, decide_eq_false hsz]; simp)
      clear HVd HV HR
      go_enter Try.func27, Try.ntmps27
      go_wp2_with fail
      rw [HW.out]
      go_wp2_with (go_at_call 18; refine hS.mono ?_; rintro e w1 ⟨rfl, hb2⟩; obtain ⟨x1, x2⟩ := P.out _ hb2; have y0 := x2.cell (j := 0) (x := .int .u32 0) rfl; have y1 := x2.cell (j := 1) (x := .slice none 0 0) rfl; have f0 := x2.frz 0; have f1 := x2.frz 1; refine Hid.out ?_)
      refine hid ?_
      have X2 : Aside (Bx w1 (w.heap.size + 1) (mapC 0 none 0 0) 29) := x2
      clear x1 x2
      go_wp2
      refine bodyPost_ret (results_cell_map2 rfl _ _ (w.heap.size + 1) 0 none 0 0 (.int .i64 120) rfl rfl ?_) rfl ?_
      · exact X2.out.set2 _ _
      · rw [E.out]
        have k := HB.out.1.trans (hb2.mono HB.out.1.size)
        exact ⟨none, 0, 0, rfl, sps_none _, fun p h => (by cases h), (k.setCell (Nat.le_succ _) _).setCell (Nat.le_succ _) _⟩
    clear HV
    have hz1 : ¬ frm < 0 := by omega
    have hz2 : ¬ till ≤ frm := by omega
    have hz3 : ¬ size < till := by omega
    have hz4 : ¬ node < 0 := by omega
    have hz5 : ¬ mn ≤ node := by omega
    have hz6 : ¬ 10000 < size := by omega
    have HVt : Aside (validB l size nodes frm till node = true) := by
      show _ = _
      rw [HVd.out, decide_eq_true hf, decide_eq_true hft, decide_eq_true hts, decide_eq_true hn0, decide_eq_true hnm, decide_eq_true hsz]; rfl
    obtain ⟨N, rfl⟩ := Int.eq_ofNat_of_zero_le (show 0 ≤ size by omega)
    obtain ⟨u1, u2⟩ := HR.out.2.2.2
    obtain ⟨ep1, hep1⟩ : ∃ ep1, (ep + 1) % 4294967296 = ep1 := ⟨_, rfl⟩
    have w1 : IntKind.u32.wrap (ep + 1) = ep1 := by rw [← hep1]; rfl
    have HE1 : Aside ((ep + 1) % 4294967296 = ep1) := hep1
    obtain ⟨g, hg⟩ : ∃ g, gOf l frm till node = g := ⟨_, rfl⟩
    have HG : Aside (gOf l frm till node = g) := hg
    have HF : Aside (∀ v W, Below w.heap.size w W → Calls Try.prog 20 #[.agg #[.int .u32 ep, .slice a n c], .int .i64 v] W fun e w' => e = .returned (.int .i64 (find l v)) ∧ Below W.heap.size W w') := fun v W hb => refFind_any ep a n c l v W (HL.out.keep hb)
    clear hep1 hg HVd
    go_enter Try.func27, Try.ntmps27
    go_wp2_with fail
    rw [HW.out]
    go_wp2_with (go_at_call 18; refine hS.mono ?_; rintro e w1 ⟨rfl, hb2⟩; obtain ⟨x1, x2⟩ := P.out _ hb2; have z0 := x1.cell (j := 0) (x := .int .u32 ep) rfl; have z1 := x1.cell (j := 1) (x := .slice a n c) rfl; refine Hid.out ?_)
    refine hid ?_
    have S1 : Aside (Bx w1 w.heap.size (mapC ep a n c) 29 ∧ Bx w1 (w.heap.size + 1) (mapC 0 none 0 0) 29 ∧ Below W1.heap.size W1 w1) := ⟨x1, x2, hb2⟩
    clear x1 x2 hb2 hS
    go_upto_region 5 with fail
    have hx1 := S1.out.1
    have hi0 : RI w w1.heap.size ep ep1 a n c l g 0 (w1.alloc (.cells #[.int .u32 ep1, .slice none 0 0] 29)) none 0 0 := by
      have k1 := HB.out.1.trans (S1.out.2.2.mono HB.out.1.size)
      have ka := (Below.refl _ w1).alloc (Nat.le_refl _) (.cells #[.int .u32 ep1, .slice none 0 0] 29)
      exact ⟨k1.trans (ka.mono k1.size), S1.out.1.below ka, S1.out.2.1.below ka, Bx.new _ _ _, So.nil _ _, by have := S1.out.2.2.size; have := HB.out.2; omega⟩
    have HI0 : Aside (_) := hi0
    have hob : w1.heap.size < (w1.alloc (.cells #[.int .u32 ep1, .slice none 0 0] 29)).heap.size := by simp
    clear hi0 hx1 S1 P z0 z1 q0 q1
    generalize w1.alloc (.cells #[.int .u32 ep1, .slice none 0 0] 29) = W2 at HI0 hob ⊢
    generalize w1.heap.size = ob at HI0 hob ⊢
    go_wp2_with fail
    go_loopg [14, 16, 17, 18] N (fun g1 v14 v16 v17 v18 wr => ∃ (k : Nat) (b : Bool) (nn : Int), v14 = .bool b ∧ v16 = .int .i64 nn ∧ v17 = .int .i64 k ∧ k ≤ N ∧ N - k ≤ g1 ∧ Aside (nn = (runs g k).2 ∧ (b = true ↔ ∃ v : Int, frm ≤ v ∧ v < till ∧ v < (k : Int) ∧ find l v ≠ node) ∧ ∃ ao no co, RI w ob ep ep1 a n c l g k wr ao no co))
    case atStart => exact ⟨0, false, -1, rfl, rfl, rfl, Nat.zero_le _, Nat.le_refl _, rfl, iff_zero hf, none, 0, 0, HI0⟩
    case round =>
      clear HI0
      obtain ⟨k, b, nn, rfl, rfl, rfl, hk, hg1, SK0⟩ := hrel
      obtain ⟨e1, e2, ao, no, co, e3⟩ := SK0.out
      have SK : Aside (nn = (runs g k).2 ∧ (b = true ↔ ∃ v : Int, frm ≤ v ∧ v < till ∧ v < (k : Int) ∧ find l v ≠ node) ∧ RI w ob ep ep1 a n c l g k wr ao no co) := ⟨e1, e2, e3⟩
      clear SK0 e1 e2 e3
      by_cases hlt : k < N
      · have hltz : (k : Int) < (N : Int) := by omega
        have z0 := SK.out.2.2.m.cell (j := 0) (x := .int .u32 ep) rfl
        have z1 := SK.out.2.2.m.cell (j := 1) (x := .slice a n c) rfl
        obtain ⟨z, hz⟩ : ∃ z, find l (k : Int) = z := ⟨_, rfl⟩
        have HZ : Aside (find l (k : Int) = z) := hz
        have hF := HF.out (k : Int) wr SK.out.2.2.bel
        rw [hz] at hF
        clear hz
        obtain ⟨gk, hgk⟩ : ∃ gk, g k = gk := ⟨_, rfl⟩
        have HGk : Aside (g k = gk ∧ gk = (if frm ≤ (k : Int) ∧ (k : Int) < till then node else z)) := ⟨hgk, by rw [← hgk, ← HG.out, ← HZ.out]; rfl⟩
        clear hgk
        obtain ⟨inr, hin⟩ : ∃ inr, decide (frm ≤ (k : Int) ∧ (k : Int) < till) = inr := ⟨_, rfl⟩
        have HIn : Hid (decide (frm ≤ (k : Int) ∧ (k : Int) < till) = inr) := hin
        clear hin
        go_upto_region 10 with (go_at_call 20; refine hF.mono ?_; rintro e w2 ⟨rfl, hb2⟩)
        have S2 : Aside (RI w ob ep ep1 a n c l g k w2 ao no co ∧ ob < w2.heap.size) := ⟨SK.out.2.2.keep hb2, by have := (SK.out.2.2.keep hb2).o.lt; exact this⟩
        clear hb2 hF z0 z1
        go_cut [72] from 65 to 91 (fun v72 wx => v72 = .bool inr ∧ wx = w2)
        case first =>
          by_cases h1 : frm ≤ (k : Int)
          · by_cases h2 : (k : Int) < till
            · have E : Hid (inr = true) := by show _ = _; rw [← HIn.out]; exact decide_eq_true ⟨h1, h2⟩
              go_wp2
              go_meet
              exact ⟨by rw [E.out], rfl⟩
            · have E : Hid (inr = false) := by show _ = _; rw [← HIn.out]; exact decide_eq_false fun h => h2 h.2
              go_wp2
              go_meet
              exact ⟨by rw [E.out], rfl⟩
          · have E : Hid (inr = false) := by show _ = _; rw [← HIn.out]; exact decide_eq_false fun h => h1 h.1
            go_wp2
            go_meet
            exact ⟨by rw [E.out], rfl⟩
        case rest =>
        obtain ⟨rfl, hwc⟩ := hcut
        rw [hwc]
        clear hwc
        go_upto_if 72 with fail
        go_cut [14, 18] from 72 to 91 (fun v14 v18 wx => ∃ b' : Bool, v14 = .bool b' ∧ v18 = .int .i64 gk ∧ wx = w2 ∧ Aside (b' = true ↔ ∃ v : Int, frm ≤ v ∧ v < till ∧ v < ((k + 1 : Nat) : Int) ∧ find l v ≠ node))
        case first =>
          cases inr with
          | true =>
            have hir := of_decide_eq_true HIn.out
            have hI := iff_in SK.out.2.1 hir
            rw [HZ.out] at hI
            have HI : Aside (_) := hI
            have hgn : gk = node := by rw [HGk.out.2, if_pos hir]
            have HGn : Hid (gk = node) := hgn
            clear hI hgn hir
            cases b with
            | true =>
              go_wp2
              go_meet
              exact ⟨true, rfl, by rw [HGn.out], rfl, HI.out⟩
            | false =>
              by_cases h3 : z = node
              · have d1 : (z != node) = false := by simp [h3]
                have HI2 : Aside (false = true ↔ ∃ v : Int, frm ≤ v ∧ v < till ∧ v < ((k + 1 : Nat) : Int) ∧ find l v ≠ node) := by
                  have := HI.out; rw [decide_eq_true h3] at this; exact this
                clear h3 HI
                go_wp2
                go_meet
                exact ⟨false, rfl, by rw [HGn.out], rfl, HI2.out⟩
              · have d1 : (z != node) = true := by simp [h3]
                have HI2 : Aside (∃ v : Int, frm ≤ v ∧ v < till ∧ v < ((k + 1 : Nat) : Int) ∧ find l v ≠ node) := by
                  have := HI.out; rw [decide_eq_false h3] at this; exact this.1 rfl
                clear h3 HI
                go_wp2
                go_meet
                exact ⟨true, rfl, by rw [HGn.out], rfl, ⟨fun _ => HI2.out, fun _ => rfl⟩⟩
          | false =>
            have hir := of_decide_eq_false HIn.out
            have HI : Aside (b = true ↔ ∃ v : Int, frm ≤ v ∧ v < till ∧ v < ((k + 1 : Nat) : Int) ∧ find l v ≠ node) := iff_out SK.out.2.1 hir
            have HGn : Hid (gk = z) := by show _ = _; rw [HGk.out.2, if_neg hir]
            clear hir
            go_wp2
            go_meet
            exact ⟨b, rfl, by rw [HGn.out], rfl, HI.out⟩
        case rest =>
          obtain ⟨b', rfl, rfl, hwc2, HI⟩ := hcut
          rw [hwc2]
          clear hwc2
          by_cases he : gk = nn
          · have d1 : (gk != nn) = false := by simp [he]
            have E : Aside (runs g (k + 1) = runs g k) := by
              show (if g k = (runs g k).2 then runs g k else _) = _
              rw [if_pos (by rw [HGk.out.1, he, SK.out.1])]
            clear he
            go_wp2
            go_roundg (N - (k + 1))
            case measure => omega
            case rel => exact ⟨k + 1, b', nn, rfl, rfl, by go_num, by omega, by omega, by rw [E.out]; exact SK.out.1, HI.out, ao, no, co, S2.out.1.same E.out⟩
          · have d1 : (gk != nn) = true := by simp [he]
            have E : Aside (runs g (k + 1) = ((runs g k).1 ++ [((k : Int), gk)], gk)) := by
              show (if g k = (runs g k).2 then runs g k else ((runs g k).1 ++ [((k : Int), g k)], g k)) = _
              rw [HGk.out.1, if_neg (by rw [← SK.out.1]; exact he)]
            clear he
            have o0 := S2.out.1.o.cell (j := 0) (x := .int .u32 ep1) rfl
            have o1 := S2.out.1.o.cell (j := 1) (x := .slice ao no co) rfl
            have HTy : Aside (I64 (k : Int) ∧ I64 gk) := by
              have h5 : I64 gk := by
                rw [HGk.out.2]
                split
                · have := HR.out.2.2.1; unfold I64; omega
                · rw [← HZ.out]; exact find_i64 HL.out.mem.typed _
              exact ⟨by unfold I64; omega, h5⟩
            have HNo : Aside ((runs g k).1.length + 1 = no + 1 ∧ no + 1 ≤ 100000000) := by
              have h6 := S2.out.1.rows.count
              have h7 := runs_len g k
              exact ⟨by omega, by omega⟩
            go_wp2_with (at_builtin; refine wpList_spans rfl (.tmp 84) (.tmp 88) rfl (ob + 1) (.slice ao no co) _ rfl (S2.out.1.rows.keep ((Below.refl _ _).alloc (Nat.le_refl _) _)) (some ⟨w2.heap.size, 0, none⟩) 1 1 [((k : Int), gk)] rfl (spans_one (Bx.new _ _ _) HTy.out.1 HTy.out.2) rfl (no + 1) HNo.out.1 HNo.out.2 (by have := S2.out.2; simp; omega) ?_; intro a3 c3 w3 hown3 hg3; refine Hid.out ?_)
            refine hid ?_
            have ka := (Below.refl _ w2).alloc (Nat.le_refl _) (.cells #[.int .i64 (k : Int), .int .i64 gk] 38)
            have hP := (S2.out.1.keep ka).push (by rw [E.out]) hown3 hg3 (by have := S2.out.2; simp; omega)
            have hox : Bx w3 ob (mapC ep1 ao no co) 29 := (S2.out.1.o.below ka).grown hg3 fun e => by have := (S2.out.1.rows.lt _ e.symm).1; omega
            have y1 := hox.cell (j := 1) (x := .slice ao no co) rfl
            have f1 := hox.frz 1
            have S3 : Aside (_) := hP
            clear hP hown3 hg3 ka hox o0 o1
            go_wp2
            go_roundg (N - (k + 1))
            case measure => omega
            case rel => exact ⟨k + 1, b', gk, rfl, rfl, by go_num, by omega, by omega, by rw [E.out], HI.out, a3, no + 1, c3, S3.out⟩
      · have hltz : ¬ (k : Int) < (N : Int) := by omega
        obtain rfl : k = N := by omega
        have x2 := SK.out.2.2.r
        have y0 := x2.cell (j := 0) (x := .int .u32 0) rfl
        have y1 := x2.cell (j := 1) (x := .slice none 0 0) rfl
        have f0 := x2.frz 0
        have f1 := x2.frz 1
        have o0 := SK.out.2.2.o.cell (j := 0) (x := .int .u32 ep1) rfl
        have o1 := SK.out.2.2.o.cell (j := 1) (x := .slice ao no co) rfl
        have HSn : Aside (Snd (k : Int) nodes l ∧ 0 ≤ node ∧ node < min nodes 6) := ⟨sndB_iff.1 HR.out.2.1, hn0, by rw [hmn]; exact hnm⟩
        have hN1 := nodes_one HSn.out.1 hf hft (by omega : till ≤ 10000) (node := node)
        clear x2
        cases b with
        | false =>
          have E : Aside (r = (0, [], 120)) := by
            rw [← HR.out.1]
            refine split_same (hN1.2 fun v h1 h2 => ?_)
            by_cases h3 : find l v = node
            · exact h3
            · have h4 := SK.out.2.1.2 ⟨v, h1, h2, by omega, h3⟩
              cases h4
          have S4 : Aside (Bx wr (w.heap.size + 1) (mapC 0 none 0 0) 29 ∧ Below w.heap.size w wr) := ⟨SK.out.2.2.r, SK.out.2.2.bel⟩
          clear hN1 SK
          go_wp2
          refine bodyPost_ret (results_cell_map2 rfl _ _ (w.heap.size + 1) 0 none 0 0 (.int .i64 120) rfl rfl ?_) rfl ?_
          · exact S4.out.1.set2 _ _
          · rw [E.out]
            exact ⟨none, 0, 0, rfl, sps_none _, fun p h => (by cases h), (S4.out.2.setCell (Nat.le_succ _) _).setCell (Nat.le_succ _) _⟩
        | true =>
          have hne : nodesOf l frm till ≠ [node] := fun e => by
            obtain ⟨v, h1, h2, h3, h4⟩ := SK.out.2.1.1 rfl
            exact h4 (hN1.1 e v h1 h2)
          have HY := split_yes (ep := ep) HVt.out hne
          have hG : (runs g k).1 = given l (k : Int) frm till node := by
            have h1 := runs_given HSn.out.1 hf hft hts HSn.out.2
            unfold byRuns at h1
            rw [HG.out] at h1
            simpa using h1
          rw [HR.out.1, ← hG, HE1.out] at HY
          have HT : Aside (∀ s ∈ (runs g k).1, I64 s.1 ∧ I64 s.2) := by
            rw [hG]
            obtain ⟨c1, c2, _⟩ := given_all HSn.out.1 hf hft hts HSn.out.2
            intro s hs
            have h1 := c1.pos s hs
            have h2 := c2 s hs
            have h4 : I64 s.1 ∧ I64 s.2 := by unfold I64; omega
            exact h4
          have hno := SK.out.2.2.rows.count
          have S4 : Aside (Bx wr (w.heap.size + 1) (mapC 0 none 0 0) 29 ∧ Below w.heap.size w wr ∧ So (ob + 1) wr (.slice ao no co) (runs g k).1 ∧ w.heap.size + 2 ≤ ob) := ⟨SK.out.2.2.r, SK.out.2.2.bel, SK.out.2.2.rows, SK.out.2.2.low⟩
          have HNn : Hid (no = (runs g k).1.length) := hno
          clear hN1 SK hne hG
          by_cases h40 : 40 < no
          · have hq : (40 : Int) < (no : Int) := by omega
            have E : Aside (r = (0, [], 3)) := by show _ = _; rw [HY, if_pos (by omega)]
            clear HY h40 hno
            go_wp2
            refine bodyPost_ret (results_cell_map2 rfl _ _ (w.heap.size + 1) 0 none 0 0 (.int .i64 3) rfl rfl ?_) rfl ?_
            · exact S4.out.1.set2 _ _
            · rw [E.out]
              exact ⟨none, 0, 0, rfl, sps_none _, fun p h => (by cases h), (S4.out.2.1.setCell (Nat.le_succ _) _).setCell (Nat.le_succ _) _⟩
          · have hq : ¬ (40 : Int) < (no : Int) := by omega
            have E : Aside (r = (ep1, (runs g k).1, 0)) := by show _ = _; rw [HY, if_neg (by omega)]
            clear HY h40 hno
            go_wp2
            refine bodyPost_ret (results_cell_map2 rfl _ _ (w.heap.size + 1) ep1 ao no co (.int .i64 0) rfl rfl ?_) rfl ?_
            · exact S4.out.1.set2 _ _
            · rw [E.out]
              have hlw := S4.out.2.2.2
              have hO := S4.out.2.2.1
              have k1 := ownsRow_setCell_other (a := ⟨w.heap.size + 1, 0, none⟩) hO (fun e => by have : ob + 1 ≤ w.heap.size + 1 := (hO.lt _ e).1; omega) (.int .u32 ep1)
              have k2 := ownsRow_setCell_other (a := ⟨w.heap.size + 1, 1, none⟩) k1 (fun e => by have : ob + 1 ≤ w.heap.size + 1 := (hO.lt _ e).1; omega) (.slice ao no co)
              obtain ⟨a5, c5, e5, hS5⟩ := So.out k2 HT.out
              injection e5 with e6 e7 e8
              subst e6
              subst e8
              exact ⟨ao, no, co, rfl, ⟨hS5.mem, HNn.out.symm, by rw [HNn.out]; exact hS5.cap, hS5.big⟩, fun p hp => (by subst hp; have : ob + 1 ≤ p.block := (hO.lt _ rfl).1; omega), (S4.out.2.1.setCell (Nat.le_succ _) _).setCell (Nat.le_succ _) _⟩
end Go.Proofs.Ytfhihkogdnbghaa.spans
