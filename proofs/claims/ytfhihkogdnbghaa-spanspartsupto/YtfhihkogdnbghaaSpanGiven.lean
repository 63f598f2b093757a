/-
  The contract of spans.given: the spans behind a split.
-/
import Derived.Test.YtfhihkogdnbghaaSpanConcat
import Derived.Test.YtfhihkogdnbghaaSpanCompacts
import Derived.Test.YtfhihkogdnbghaaSpanUp
import Derived.Deep.RegionHeld3
namespace Go.Proofs.Ytfhihkogdnbghaa.spans
open Go.ChangeShapes Go.WideShapes Go.ChangeAt Go.RowKit Go.Deep
open Go.Proofs.Ytfhihkogdnbghaa.bytes (ret_bool hid nth addr_add cell_lt own_below own_mono)
set_option linter.unusedVariables false
set_option maxRecDepth 100000
set_option linter.unusedSimpArgs false

theorem SpansIn.take {w : World} {a : Option Addr} {l : List Sp} (h : SpansIn w a l) (u : Nat) : SpansIn w a (l.take u) := by
  rcases h with rfl | ⟨b, off, ha, hc⟩
  · exact .inl (by simp)
  · refine .inr ⟨b, off, ha, fun i hi => ?_⟩
    rw [List.length_take] at hi
    have e : spn (l.take u) i = spn l i := by
      unfold spn
      rw [List.getD_eq_getElem?_getD, List.getD_eq_getElem?_getD, List.getElem?_take_of_lt (by omega)]
    rw [e]; exact hc i (by omega)
def shiftS (a : Option Addr) (c v : Nat) : Option Addr := if c = v then a else a.map fun x => x.add (v * 2)
theorem SpansIn.drop {w : World} {a : Option Addr} {l : List Sp} (h : SpansIn w a l) {c : Nat} (hc : l.length ≤ c) (v : Nat) : SpansIn w (shiftS a c v) (l.drop v) := by
  rcases h with rfl | ⟨b, off, ha, hm⟩
  · exact .inl (by simp)
  · unfold shiftS
    by_cases e : c = v
    · exact .inl (List.drop_eq_nil_of_le (by omega))
    · rw [if_neg e, ha]
      refine .inr ⟨b, off + v * 2, by simp [addr_add], fun i hi => ?_⟩
      rw [List.length_drop] at hi
      have e2 : spn (l.drop v) i = spn l (v + i) := by
        unfold spn
        rw [List.getD_eq_getElem?_getD, List.getD_eq_getElem?_getD, List.getElem?_drop]
      rw [e2, show off + v * 2 + i * 2 = off + (v + i) * 2 by omega]
      exact hm (v + i) (by omega)
theorem So.form1 {B : Nat} {w : World} {v : Value} {l : List Sp} (h : So B w v l) (h0 : l ≠ []) : ∃ g c, v = .slice (some ⟨g, 0, none⟩) l.length c := by
  rcases h.2 with ⟨hv, e⟩ | ⟨g, cap, cur, hv, _⟩
  · exact absurd (List.eq_nil_of_length_eq_zero e) h0
  · exact ⟨g, cap, hv⟩
theorem So.lit {w : World} {x y : Int} {B : Nat} (hB : B ≤ w.heap.size) : So B (w.alloc (.cells #[.int .i64 x, .int .i64 y] 38)) (.slice (some ⟨w.heap.size, 0, none⟩) 1 1) [(x, y)] :=
  World.ownsRow_lit (size := 2) w #[.int .i64 x, .int .i64 y] 1 hB (by unfold maxLen; omega) rfl
theorem spans_one {w : World} {g : Nat} {x y : Int} (h : Bx w g #[.int .i64 x, .int .i64 y] 38) (hx : I64 x) (hy : I64 y) : SpansIn w (some ⟨g, 0, none⟩) [(x, y)] :=
  .inr ⟨g, 0, rfl, fun i hi => by
    obtain rfl : i = 0 := by simpa using hi
    exact ⟨h.cell (j := 0) rfl, h.cell (j := 1) rfl, hx, hy⟩⟩
/-- the spans behind a split, of the call's own -/
def GivOut (w : World) (l : List Sp) (e : Ending) (w' : World) : Prop := ∃ g q c, e = .returned (.slice (some ⟨g, 0, none⟩) q c) ∧ q = l.length ∧ So w.heap.size w' (.slice (some ⟨g, 0, none⟩) q c) l ∧ Below w.heap.size w w'

set_option maxRecDepth 100000 in
set_option maxHeartbeats 8000000 in
theorem given_any (ep : Int) (a : Option Addr) (n c : Nat) (l : List Sp) (size nodes frm till node : Int) (w : World) (h : Sps w a n c l) (hs : Snd size nodes l) (h0 : 0 ≤ frm) (h1 : frm < till) (h2 : till ≤ size) (h3 : size ≤ 10000) (hn : 0 ≤ node ∧ node < min nodes 6) :
    Calls Try.prog 37 #[mapV ep a n c, .int .i64 size, .int .i64 frm, .int .i64 till, .int .i64 node] w (GivOut w (given l size frm till node)) := by
  obtain ⟨W0, hW0⟩ : ∃ W0, w.alloc (.cells (mapC ep a n c) 29) = W0 := ⟨_, rfl⟩
  have hb0 : Below w.heap.size w W0 := by rw [← hW0]; exact (Below.refl _ w).alloc (Nat.le_refl _) _
  have hM : Bx W0 w.heap.size (mapC ep a n c) 29 := by rw [← hW0]; exact Bx.new _ _ _
  have s0 : W0.heap.size = w.heap.size + 1 := by rw [← hW0]; simp
  have hcap := h.cap
  have hbig := h.big
  have hlen := h.len
  have hn40 : n ≤ 40 := by rw [← h.len]; exact hs.len
  have HS : Aside (Sps W0 a n c l ∧ Snd size nodes l ∧ 0 ≤ frm ∧ frm < till ∧ till ≤ size ∧ size ≤ 10000 ∧ 0 ≤ node ∧ node < min nodes 6) := ⟨h.keep hb0, hs, h0, h1, h2, h3, hn⟩
  have HB : Aside (Below w.heap.size w W0 ∧ Bx W0 w.heap.size (mapC ep a n c) 29) := ⟨hb0, hM⟩
  have HW : Hid (w.alloc (.cells #[.int .u32 ep, .slice a n c] 29) = W0) := hW0
  obtain ⟨W1, hW1⟩ : ∃ W1, W0.alloc (.cells #[.int .i64 frm, .int .i64 node] 38) = W1 := ⟨_, rfl⟩
  have hb1 : Below W0.heap.size W0 W1 := by rw [← hW1]; exact (Below.refl _ _).alloc (Nat.le_refl _) _
  have hx1 : Bx W1 W0.heap.size #[.int .i64 frm, .int .i64 node] 38 := by rw [← hW1]; exact Bx.new _ _ _
  have HO : Aside (So W0.heap.size W1 (.slice (some ⟨W0.heap.size, 0, none⟩) 1 1) [(frm, node)]) := by rw [← hW1]; exact So.lit (Nat.le_refl _)
  have HX : Aside (Bx W1 W0.heap.size #[.int .i64 frm, .int .i64 node] 38) := hx1
  have HX2 : Aside (Below W0.heap.size W0 W1) := hb1
  have HW1 : Hid (W0.alloc (.cells #[.int .i64 frm, .int .i64 node] 38) = W1) := hW1
  have m0 := (hM.below hb1).cell (j := 0) (x := .int .u32 ep) rfl
  have m1 := (hM.below hb1).cell (j := 1) (x := .slice a n c) rfl
  have hF := find_any ep a n c l till W1 ((h.keep hb0).keep hb1)
  obtain ⟨z, hz⟩ : ∃ z, find l till = z := ⟨_, rfl⟩
  have HZ : Aside (I64 frm ∧ I64 node ∧ I64 till ∧ I64 z) := by
    have h4 := hs.find_ok (v := till) (by omega)
    rw [hz] at h4
    have h5 : I64 frm ∧ I64 node ∧ I64 till ∧ I64 z := by unfold I64; omega
    exact h5
  have HT : Aside (mvd l size frm till node = (frm, node) :: (if till < size then [(till, z)] else [])) := by unfold mvd; rw [hz]; rfl
  rw [hz] at hF
  have HG : Hid (laid l size frm till node = l.take (upTo l frm) ++ (mvd l size frm till node ++ l.drop (upTo l (till + 1)))) := rfl
  have HGi : Hid (given l size frm till node = cpt (laid l size frm till node)) := rfl
  have HP : Aside (∀ s ∈ laid l size frm till node, 0 ≤ s.2) := by
    have hr := hs.can.rise
    intro t ht
    unfold laid at ht
    rcases List.mem_append.1 ht with ht | ht
    · exact (hs.all t (List.mem_of_mem_take ht)).2.1
    · rcases List.mem_append.1 ht with ht | ht
      · unfold mvd at ht
        rcases List.mem_cons.1 ht with rfl | ht
        · exact hn.1
        · split at ht
          · rw [List.mem_singleton.1 ht]; exact (hs.find_ok (by omega)).1
          · cases ht
      · exact (hs.all t (List.mem_of_mem_drop ht)).2.1
  have hu : upTo l frm ≤ n := by rw [← h.len]; exact upTo_le _ _
  have hv : upTo l (till + 1) ≤ n := by rw [← h.len]; exact upTo_le _ _
  have hrise := hs.can.rise
  have hpos : ∀ s ∈ l, 0 ≤ s.1 ∧ s.1 ≤ 10000 := fun s hm => ⟨hs.can.pos s hm, by have := (hs.all s hm).1; omega⟩
  have CU : ∀ W, Below W0.heap.size W0 W → Calls Try.prog 49 #[.slice a n c, .int .i64 frm] W fun e w' => e = .returned (.int .i64 (upTo l frm)) ∧ Below W.heap.size W w' := fun W hb => upTo_any a n c l frm W ((h.keep hb0).keep hb).mem h.len hrise hpos ⟨h0, by omega⟩ (by omega)
  have CV : ∀ W, Below W0.heap.size W0 W → Calls Try.prog 49 #[.slice a n c, .int .i64 (till + 1)] W fun e w' => e = .returned (.int .i64 (upTo l (till + 1))) ∧ Below W.heap.size W w' := fun W hb => upTo_any a n c l (till + 1) W ((h.keep hb0).keep hb).mem h.len hrise hpos ⟨by omega, by omega⟩ (by omega)
  generalize upTo l frm = u at HG hu CU
  generalize upTo l (till + 1) = v at HG hv CV
  generalize mvd l size frm till node = mv at HT HG
  generalize given l size frm till node = gv at HGi ⊢
  generalize laid l size frm till node = ld at HG HGi HP
  have hmv : mv.length ≤ 2 := by rw [HT.out]; split <;> simp
  have hmv0 : 1 ≤ mv.length := by rw [HT.out]; simp
  have t9 : 0 ≤ till ∧ till ≤ 10000 := by omega
  obtain ⟨t91, t92⟩ := t9
  clear h hs h0 h1 h2 h3 hn hb0 hM hW0 hb1 hx1 hW1 hz hrise hpos
  rw [s0] at HO HX
  unfold mapV at hF ⊢
  go_enter Try.func37, Try.ntmps37
  go_upto_region 2 with fail
  rw [HW.out, HW1.out]
  go_upto_if 19 with fail
  go_cut [11] from 19 (fun v wx => ∃ am cm km, v = .slice am km cm ∧ Aside (km = mv.length ∧ SpansIn wx am mv ∧ Below W0.heap.size W0 wx))
  case first =>
    clear CU CV
    by_cases hlt : till < size
    · have e : Aside (mv = [(frm, node)] ++ [(till, z)]) := by show _ = _; rw [HT.out, if_pos hlt]; rfl
      go_wp2_with (first
        | (go_at_call 19; refine hF.mono ?_; rintro e w2 ⟨rfl, hb2⟩)
        | (at_builtin; refine wpList_spans rfl (.tmp 20) (.tmp 26) rfl (w.heap.size + 1) _ [(frm, node)] rfl ((HO.out.keep hb2).keep ((Below.refl _ _).alloc (Nat.le_refl _) _)) (some ⟨w2.heap.size, 0, none⟩) 1 1 [(till, z)] rfl (spans_one (Bx.new _ _ _) HZ.out.2.2.1 HZ.out.2.2.2) rfl 2 rfl (by omega) (by have := (HX2.out.trans (hb2.mono HX2.out.size)).size; simp; omega) ?_; intro a3 c3 w3 hown3 hg3))
      go_meet
      refine ⟨a3, c3, 2, rfl, ?_⟩
      rw [e.out]
      have hb3 := HX2.out.trans ((hb2.alloc hb2.size (.cells #[.int .i64 till, .int .i64 z] 38)).mono HX2.out.size)
      obtain ⟨a4, c4, e4, hS4⟩ := hown3.out fun s hs => by
        rcases List.mem_append.1 hs with hs | hs
        · rw [List.mem_singleton.1 hs]; exact ⟨HZ.out.1, HZ.out.2.1⟩
        · rw [List.mem_singleton.1 hs]; exact ⟨HZ.out.2.2.1, HZ.out.2.2.2⟩
      injection e4 with e5 e6 e7
      rw [e5]
      exact ⟨rfl, hS4.mem, hb3.trans (own_bel ((HO.out.keep hb2).keep ((Below.refl _ _).alloc (Nat.le_refl _) _)) hg3 (by rw [s0]; exact Nat.le_refl _) hb3.size)⟩
    · have e : Aside (mv = [(frm, node)]) := by show _ = _; rw [HT.out, if_neg hlt]
      go_wp2
      go_meet
      exact ⟨_, _, _, rfl, by rw [e.out]; exact ⟨rfl, spans_one HX.out HZ.out.1 HZ.out.2.1, HX2.out⟩⟩
  case rest =>
    obtain ⟨am, cm, km, rfl, HR⟩ := hcut
    clear hF m0 m1
    obtain ⟨W2, hW2⟩ : ∃ W2, wc = W2 := ⟨_, rfl⟩
    rw [hW2] at HR ⊢
    clear hW2
    obtain ⟨q2, hq2⟩ : ∃ q2, shiftS a c v = q2 := ⟨_, rfl⟩
    have hs2 : (if c = v then a else a.map fun x => x.add (v * 2)) = q2 := hq2
    have CC : ∀ W b, Below W2.heap.size W2 W → W.cell? ⟨b, 0, none⟩ = some (.slice a u c) → W.cell? ⟨b, 1, none⟩ = some (.slice am km cm) → W.cell? ⟨b, 2, none⟩ = some (.slice q2 (n - v) (c - v)) →
        Calls Try.prog 48 #[.slice (some ⟨b, 0, none⟩) 3 3] W fun e w' => ∃ v', e = .returned v' ∧ Aside (So W2.heap.size w' v' ld ∧ Below W2.heap.size W2 w') := fun W b hb k0 k1 k2 => by
      have hI := (HS.out.1.mem.keep HR.out.2.2).keep hb
      have hln := HS.out.1.len
      have eu : (l.take u).length = u := by rw [List.length_take]; omega
      have ev : (l.drop v).length = n - v := by rw [List.length_drop]; omega
      have hL : LsIn W b [⟨a, c, l.take u⟩, ⟨am, cm, mv⟩, ⟨q2, c - v, l.drop v⟩] := fun i hi => by
        have h3 : i = 0 ∨ i = 1 ∨ i = 2 := by simp at hi; omega
        rcases h3 with rfl | rfl | rfl
        · refine ⟨?_, hI.take u⟩
          show _ = some (Value.slice a (l.take u).length c)
          rw [eu]; exact k0
        · refine ⟨?_, HR.out.2.1.keep hb⟩
          show _ = some (Value.slice am mv.length cm)
          rw [← HR.out.1]; exact k1
        · refine ⟨?_, by rw [← hq2]; exact hI.drop (by omega) v⟩
          show _ = some (Value.slice q2 (l.drop v).length (c - v))
          rw [ev]; exact k2
      have ef : flatL [⟨a, c, l.take u⟩, ⟨am, cm, mv⟩, ⟨q2, c - v, l.drop v⟩] = ld := by
        rw [HG.out]; simp [flatL]
      have hC := concat_any b 3 3 _ W hL rfl (by omega) (by rw [ef, HG.out, List.length_append, List.length_append, eu, ev]; omega)
      rw [ef] at hC
      exact hC.mono fun e w' ⟨v', g1, g2, g3⟩ => ⟨v', g1, g2.mono hb.size, hb.trans (g3.mono hb.size)⟩
    clear hq2
    have CU2 : ∀ W, Below W2.heap.size W2 W → Calls Try.prog 49 #[.slice a n c, .int .i64 frm] W fun e w' => e = .returned (.int .i64 u) ∧ Aside (Below W2.heap.size W2 w') := fun W hb => (CU W (HR.out.2.2.trans (hb.mono HR.out.2.2.size))).mono fun e w' ⟨g1, g2⟩ => ⟨g1, hb.trans (g2.mono hb.size)⟩
    obtain ⟨t1, ht1⟩ : ∃ t1, till + 1 = t1 := ⟨_, rfl⟩
    have w1 : IntKind.i64.wrap (till + 1) = t1 := by rw [← ht1, IntKind.wrap_i64]; omega
    have w2 : wrap64 (till + 1) = t1 := by rw [← ht1]; unfold wrap64; omega
    have CV2 : ∀ W, Below W2.heap.size W2 W → Calls Try.prog 49 #[.slice a n c, .int .i64 t1] W fun e w' => e = .returned (.int .i64 v) ∧ Aside (Below W2.heap.size W2 w') := fun W hb => by
      rw [← ht1]
      exact (CV W (HR.out.2.2.trans (hb.mono HR.out.2.2.size))).mono fun e w' ⟨g1, g2⟩ => ⟨g1, hb.trans (g2.mono hb.size)⟩
    have HT1 : Hid (till + 1 = t1) := ht1
    clear CU CV ht1 t91 t92
    have b1 : (u : Int) ≤ (c : Int) := by omega
    have b2 : (v : Int) ≤ (c : Int) := by omega
    have b4 : (u : Int) ≤ (n : Int) := by omega
    have b5 : (v : Int) ≤ (n : Int) := by omega
    have b6 : (0 : Int) ≤ (u : Int) := by omega
    have b7 : (0 : Int) ≤ (v : Int) := by omega
    have hcell := ((HB.out.2.below HR.out.2.2)).cell (j := 1) (x := .slice a n c) rfl
    have keepS : ∀ {W}, Below W2.heap.size W2 W → Below W2.heap.size W2 W ∧ W2.heap.size ≤ W.heap.size ∧ W.cell? ⟨w.heap.size, 1, none⟩ = some (.slice a n c) := fun hb => ⟨hb, hb.size, (hb.cell (p := ⟨w.heap.size, 1, none⟩) (cell_lt hcell)).trans hcell⟩
    have KS : Aside (∀ {W}, Below W2.heap.size W2 W → Below W2.heap.size W2 W ∧ W2.heap.size ≤ W.heap.size ∧ W.cell? ⟨w.heap.size, 1, none⟩ = some (.slice a n c)) := keepS
    clear keepS
    go_wp2_with fail
    go_region_held3 (fun w' => Below W2.heap.size W2 w' ∧ W2.heap.size ≤ w'.heap.size ∧ w'.cell? ⟨w.heap.size, 1, none⟩ = some (.slice a n c))
      (first | with_reducible assumption | (refine KS.out ?_; repeat (first | with_reducible exact Below.refl _ _ | with_reducible exact hw3.out.2 | with_reducible exact hwv.out | with_reducible exact hwu.out | (with_reducible refine Below.drew ?_) | (with_reducible refine Below.alloc ?_ (by first | omega | (simp; done) | (simp; omega) | (have := hwv.out.size; omega) | (have := hwv.out.size; simp; omega) | (have := hwu.out.size; omega) | (have := hwu.out.size; simp; omega)) _))))
      ((first
        | (go_at_call 49; with_reducible refine (CU2 _ ?_).mono ?_; (focus (apply And.left; assumption)); rintro e wu ⟨rfl, hwu⟩)
        | (go_at_call 49; with_reducible refine (CV2 _ ?_).mono ?_; (focus (apply And.left; assumption)); rintro e wv ⟨rfl, hwv⟩)
        | (go_at_call 48; with_reducible refine (CC _ _ ?_ ?_ ?_ ?_).mono ?_; (focus (apply And.left; assumption)); (focus (simp [go_sem])); (focus (simp [go_sem])); (focus (simp [go_sem])); rintro e w3 ⟨v3, rfl, hw3⟩)))
    have hl : ld.length = u + (mv.length + (n - v)) := by rw [HG.out, List.length_append, List.length_append, List.length_take, List.length_drop, HS.out.1.len]; omega
    obtain ⟨g, c9, rfl⟩ := hw3.out.1.form1 (fun e => by rw [e] at hl; simp at hl; omega)
    have hCp := compact_any W2.heap.size g ld.length c9 ld w3 hw3.out.1 HP.out hw3.out.2.size (by omega) (by omega)
    unfold CompOut at hCp
    have HC : Aside (_) := hCp
    have HL : Aside (ld.length = u + (mv.length + (n - v))) := hl
    clear hCp hl CC CU2 CV2
    go_wp2_with (go_at_call 50; refine Calls.mono HC.out ?_; rintro e w4 ⟨q, hq, hqn, rfl, hS4, hg4⟩)
    go_ret
    have k1 : Below w.heap.size w W2 := HB.out.1.trans (HR.out.2.2.mono HB.out.1.size)
    refine ⟨g, (cpt ld).length, c9, rfl, by rw [HGi.out], ?_, ?_⟩
    · rw [HGi.out, ← hq]; exact hS4.mono k1.size
    · have k2 := own_bel hw3.out.1 hg4 (Nat.le_refl _) hw3.out.2.size
      exact k1.trans ((hw3.out.2.trans k2).mono k1.size)
end Go.Proofs.Ytfhihkogdnbghaa.spans
