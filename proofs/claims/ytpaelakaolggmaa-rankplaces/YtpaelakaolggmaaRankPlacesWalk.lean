/-
  The walk of the statement RankPlaces.
-/
import Derived.Test.YtpaelakaolggmaaRankNone
import Derived.Test.YtpaelakaolggmaaRankCells
import Derived.Test.YtpaelakaolggmaaRankOrdersWalk
namespace Go.Proofs.Ytpaelakaolggmaa.rank
open Go.ChangeShapes Go.WideShapes Go.ChangeAt Go.RowKit Go.Deep
set_option linter.unusedVariables false

set_option maxHeartbeats 4000000 in
theorem places_long (a : Option Addr) (len cap : Nat) (w : World) (hl : 200 < len) :
    Calls Try.prog 10 #[.slice a len cap] w fun e w' => e = .returned (.bool true) ∧ Below w.heap.size w w' := by
  have hlz : (200 : Int) < (len : Int) := by omega
  have hd : decide ((len : Int) > 200) = true := decide_eq_true hlz
  go_enter Try.func10, Try.ntmps10
  go_wp2_with (go_at_call 11; refine (known_any _).mono ?_; rintro e w2 ⟨rfl, hb2⟩)
  go_ret
  exact ⟨rfl, hb2⟩

set_option maxHeartbeats 4000000 in
theorem places_none (a : Option Addr) (cap : Nat) (w : World) :
    Calls Try.prog 10 #[.slice a 0 cap] w fun e w' => e = .returned (.bool true) ∧ Below w.heap.size w w' := by
  have hm2 := run_make_row' (P := Try.prog) 45 3 (.int .i64 0) 8 Try.underlying45 info_int rfl .i64 .i64 0 (by omega) (by omega)
  rw [show ((0 : Nat) : Int) = 0 from rfl] at hm2
  generalize madeCells #[Value.int .i64 0] 0 = z2 at hm2
  go_enter Try.func10, Try.ntmps10
  go_wp2_with (first | (go_at_call 11; refine (known_any _).mono ?_; rintro e w2 ⟨rfl, hb2⟩) | (go_at_call 22; refine (rows_none _ _ _).mono ?_; rintro e w3 ⟨rfl, rfl⟩) | (go_at_call 23; refine (order_none _).mono ?_; rintro e w4 ⟨rfl, hb4⟩))
  refine wp_loop_rounds 1 ?_
  rw [rounds_succ]
  go_wp2
  go_ret
  have hB := hb2.trans (hb4.mono hb2.size)
  exact ⟨rfl, hB.alloc hB.size _⟩

/-- the loop's world: places stand as Order answered, the first k of them are marked as seen -/
structure PL (w : World) (P S n : Nat) (l : List Nat) (k : Nat) (W : World) : Prop where
  bel : Below w.heap.size w W
  siz : S < W.heap.size
  pl : ∀ i (h : i < l.length), W.cell? ⟨P, i, none⟩ = some (.int .i64 ((l[i] : Nat) : Int))
  sn : ∀ x, x < n → W.cell? ⟨S, x, none⟩ = some (.int .i64 (if x ∈ l.take k then 1 else 0)) ∧ W.frozen? ⟨S, x, none⟩ = false

theorem PL.after {w : World} {P S n k : Nat} {l : List Nat} {W W' : World} (h : PL w P S n l k W) (hP : P < S) (hb : Below W.heap.size W W') : PL w P S n l k W' := by
  have hz := h.siz
  refine ⟨h.bel.trans (hb.mono h.bel.size), Nat.lt_of_lt_of_le hz hb.size, fun i hi => (hb.cell (p := ⟨P, i, none⟩) (show P < W.heap.size by omega)).trans (h.pl i hi), fun x hx => ⟨(hb.cell (p := ⟨S, x, none⟩) hz).trans (h.sn x hx).1, (hb.frozen (p := ⟨S, x, none⟩) hz).trans (h.sn x hx).2⟩⟩
theorem PL.drewN {w : World} {P S n k : Nat} {l : List Nat} {W : World} (h : PL w P S n l k W) (q : Nat) : PL w P S n l k (W.drewN q) := ⟨below_drewN h.bel q, h.siz, h.pl, h.sn⟩
theorem PL.mark {w : World} {P S n k x : Nat} {l : List Nat} {W : World} (h : PL w P S n l k W) (hP : P < S) (hS : w.heap.size ≤ S) (hk : k < l.length) (hx : x = l[k]) (hxn : x < n) : PL w P S n l (k + 1) (W.setCell ⟨S, x, none⟩ (.int .i64 1)) := by
  refine ⟨h.bel.setCell hS _, by simpa using h.siz, fun i hi => ?_, fun y hy => ⟨?_, ?_⟩⟩
  · rw [set_other (by omega)]; exact h.pl i hi
  · have et : l.take (k + 1) = l.take k ++ [x] := by rw [List.take_succ_eq_append_getElem hk, hx]
    by_cases e : x = y
    · rw [← e, set_same (h.sn x hxn).1, et]; simp
    · rw [set_other (by omega), (h.sn y hy).1, et]
      have : y ∈ l.take k ++ [x] ↔ y ∈ l.take k := by simp; omega
      simp only [this]
  · rw [World.frozen?_setCell]; exact (h.sn y hy).2
theorem PL.start {w W4 : World} {P n : Nat} {l : List Nat} (hB : Below w.heap.size w W4) (hP : P < W4.heap.size) (hp : ∀ i (h : i < l.length), W4.cell? ⟨P, i, none⟩ = some (.int .i64 ((l[i] : Nat) : Int))) : PL w P W4.heap.size n l 0 (W4.alloc (.cells (madeCells #[.int .i64 0] n) 3)) := by
  refine ⟨hB.alloc hB.size _, by simp, fun i hi => ?_, fun x hx => ⟨?_, by simp [go_sem]⟩⟩
  · simp [go_sem, hP, hp i hi]
  · simp [go_sem, made_get _ _ _ hx]

theorem cmp_mean (n s n2 s2 : Int) (a b : Nat) (c : Int) (ha : meanOk n s a) (hb : meanOk n2 s2 b) (hc : cmpH (mh n s) (mh n2 s2) = c) (w : World) :
    Calls Try.prog 12 #[.float .f64 a, .float .f64 b] w fun e w' => e = .returned (.int .i64 c) ∧ w' = w := by
  rw [← hc, ← hgt_of_mean ha, ← hgt_of_mean hb]; exact cmp_any a b ha.1 hb.1 w

theorem cmp_keep2 {W0 W w' : World} {P j k b p q : Nat} {y x : Value} {a0 a1 a2 a3 c0 c1 c2 c3 : Value} (hb : Below W.heap.size W w')
    (h : Below W0.heap.size W0 W ∧ W.cell? ⟨P, j, none⟩ = some y ∧ W.cell? ⟨P, k, none⟩ = some x ∧ W.cell? ⟨b, p, none⟩ = some a0 ∧ W.cell? ⟨b, p + 1, none⟩ = some a1 ∧ W.cell? ⟨b, p + 2, none⟩ = some a2 ∧ W.cell? ⟨b, p + 3, none⟩ = some a3 ∧ W.cell? ⟨b, q, none⟩ = some c0 ∧ W.cell? ⟨b, q + 1, none⟩ = some c1 ∧ W.cell? ⟨b, q + 2, none⟩ = some c2 ∧ W.cell? ⟨b, q + 3, none⟩ = some c3) :
    Below W0.heap.size W0 w' ∧ w'.cell? ⟨P, j, none⟩ = some y ∧ w'.cell? ⟨P, k, none⟩ = some x ∧ w'.cell? ⟨b, p, none⟩ = some a0 ∧ w'.cell? ⟨b, p + 1, none⟩ = some a1 ∧ w'.cell? ⟨b, p + 2, none⟩ = some a2 ∧ w'.cell? ⟨b, p + 3, none⟩ = some a3 ∧ w'.cell? ⟨b, q, none⟩ = some c0 ∧ w'.cell? ⟨b, q + 1, none⟩ = some c1 ∧ w'.cell? ⟨b, q + 2, none⟩ = some c2 ∧ w'.cell? ⟨b, q + 3, none⟩ = some c3 := by
  obtain ⟨h0, h1, h2, h3, h4, h5, h6, h7, h8, h9, h10⟩ := h
  have k : ∀ {c o : Nat} {v : Value}, W.cell? ⟨c, o, none⟩ = some v → w'.cell? ⟨c, o, none⟩ = some v := fun {c o v} hv => (hb.cell (p := ⟨c, o, none⟩) (cell_lt hv)).trans hv
  exact ⟨h0.trans (hb.mono h0.size), k h1, k h2, k h3, k h4, k h5, k h6, k h7, k h8, k h9, k h10⟩

set_option maxHeartbeats 16000000 in
set_option maxRecDepth 100000 in
theorem places_some (b off cap : Nat) (cs : List C4) (w : World) (hb : b < w.heap.size) (h0 : 0 < cs.length) (hn : cs.length ≤ 200) (hC : CellsAt w b off cs) :
    Calls Try.prog 10 #[.slice (some ⟨b, off, none⟩) cs.length cap] w fun e w' => e = .returned (.bool true) ∧ Below w.heap.size w w' := by
  have hrw : ∀ w2, Below w.heap.size w w2 → Calls Try.prog 22 #[.slice (some ⟨b, off, none⟩) cs.length cap] w2 fun e w' => ∃ v, e = .returned v ∧ w'.ownsRow w2.heap.size 49 5 v cs.length (flat cs) ∧ Below w2.heap.size w2 w' := fun w2 hB =>
    rows_any cs b off cap w2 (Nat.lt_of_lt_of_le hb hB.size) hn fun i hi => by
      obtain ⟨r0, r1, r2, r3⟩ := hC i hi
      exact ⟨(hB.cell (p := ⟨b, off + i * 4, none⟩) hb).trans r0, (hB.cell (p := ⟨b, off + i * 4 + 1, none⟩) hb).trans r1, (hB.cell (p := ⟨b, off + i * 4 + 2, none⟩) hb).trans r2, (hB.cell (p := ⟨b, off + i * 4 + 3, none⟩) hb).trans r3⟩
  obtain ⟨n, hnn⟩ : ∃ n, n = cs.length := ⟨_, rfl⟩
  have HN : Hid (n = cs.length) := hnn
  have HR : Aside _ := hrw
  have hlz : ¬ (200 : Int) < (n : Int) := by omega
  have hd : decide ((n : Int) > 200) = false := decide_eq_false hlz
  rw [← hnn] at HR h0 hn ⊢
  clear hnn hrw
  have hm2 := run_make_row' (P := Try.prog) 45 3 (.int .i64 0) 8 Try.underlying45 info_int rfl .i64 .i64 n (by omega) (by omega)
  go_enter Try.func10, Try.ntmps10
  go_wp2_with (go_at_call 11; refine (known_any _).mono ?_; rintro e w2 ⟨rfl, hb2⟩)
  refine (HR.out w2 hb2).mono ?_
  rintro e w3 ⟨v, rfl, hown3, hb3⟩
  obtain ⟨g, cap3, hv, hg1, hg2⟩ := row_form hown3 h0
  subst hv
  have hR3 : RowsAt w3 g 0 cs := by
    have e := HN.out
    rw [e] at hown3
    exact rowsAt_of hown3
  have B3 : Aside (Below w.heap.size w w3) := hb2.trans (hb3.mono hb2.size)
  have hO := order_some cs g 0 cap3 w3 (by rw [← HN.out]; exact h0) hg2 (by rw [← HN.out]; omega) hR3
  rw [← HN.out] at hO
  clear hb2 hb3 hown3 HR hR3
  go_wp2_with fail
  refine hO.mono ?_
  rintro e w4 ⟨rfl, hb4, l, hl, hll, hz4, hc4⟩
  have HL : Aside (IsOrd cs l) := hl
  have HLL : Hid (l.length = n) := hll
  have HC4 : Aside _ := hc4
  have B4 : Aside (Below w.heap.size w w4) := B3.out.trans (hb4.mono B3.out.size)
  have S4 : Aside (PL w (w3.heap.size + 1 + 1) w4.heap.size n l 0 (w4.alloc (.cells (madeCells #[.int .i64 0] n) 3))) :=
    PL.start B4.out hz4 fun i hi => by rw [(HC4.out i hi).1, getElem!_pos l i hi]
  have hPS : w3.heap.size + 1 + 1 < w4.heap.size := hz4
  have hWS : w.heap.size ≤ w4.heap.size := B4.out.size
  have HX : Aside (∀ i (h : i < l.length), l[i] < n) := fun i h => by rw [HN.out]; exact List.mem_range.1 (HL.out.1.mem_iff.1 (List.getElem_mem h))
  have HD : Aside (∀ i (h : i < l.length), l[i] ∉ l.take i) := fun i h hm => by
    have hnd : l.Nodup := HL.out.1.nodup_iff.2 List.nodup_range
    obtain ⟨j, hj, e⟩ := List.getElem_of_mem hm
    simp only [List.length_take] at hj
    rw [List.getElem_take] at e
    exact (List.pairwise_iff_getElem.1 hnd) j i (by omega) h (by omega) e
  have HK : Aside (∀ i (h : i + 1 < l.length), key cs (l[i]'(by omega)) < key cs l[i + 1]) := fun i h => List.pairwise_iff_getElem.1 HL.out.2 i (i + 1) (by omega) h (by omega)
  clear hO hb4 hl hc4 B3 hll HC4 B4 hz4 HL
  go_wp2_with fail
  go_loopg [5, 6] n (fun g1 vi vn wr => ∃ (k : Nat), vi = .int .i64 k ∧ k ≤ n ∧ n - k ≤ g1 ∧ Aside (PL w (w3.heap.size + 1 + 1) w4.heap.size n l k wr))
  case atStart => exact ⟨0, rfl, Nat.zero_le _, Nat.le_refl _, S4⟩
  case round =>
    clear S4
    obtain ⟨k, rfl, hk, hg1', SK⟩ := hrel
    by_cases hlt : k < n
    · have hltz : (k : Int) < (n : Int) := by omega
      have hkl : k < l.length := by rw [HLL.out]; exact hlt
      obtain ⟨x, hx⟩ : ∃ x, x = l[k] := ⟨_, rfl⟩
      have hxn : x < n := by rw [hx]; exact HX.out k hkl
      have hxz : (x : Int) < (n : Int) := by omega
      have ca : wr.cell? ⟨w3.heap.size + 1 + 1, k, none⟩ = some (.int .i64 (x : Nat)) := by rw [hx]; exact SK.out.pl k hkl
      obtain ⟨cs0, fs0⟩ := SK.out.sn x hxn
      rw [if_neg (by rw [hx]; exact HD.out k hkl)] at cs0
      have d1 : decide ((x : Int) < 0) = false := decide_eq_false (by omega)
      have d2 : decide ((x : Int) ≥ (n : Int)) = false := decide_eq_false (by omega)
      have S2 : Aside (PL w (w3.heap.size + 1 + 1) w4.heap.size n l (k + 1) (wr.setCell ⟨w4.heap.size, x, none⟩ (.int .i64 1))) := SK.out.mark hPS hWS hkl hx hxn
      by_cases hk0 : k = 0
      · as_aux_lemma =>
          subst hk0
          clear SK hx
          go_wp2_with fail
          go_roundg (n - 1)
          case measure => omega
          case rel => exact ⟨1, by go_num, by omega, by omega, S2⟩
      · have hk0b : ((k : Int) == 0) = false := by rw [beq_eq_false_iff_ne]; omega
        have HXX : Hid (x = l[k]) := hx
        clear hx
        go_upto_region 12 with fail
        clear ca cs0 fs0 SK
        generalize wr.setCell ⟨w4.heap.size, x, none⟩ (.int .i64 1) = w5 at S2 ⊢
        obtain ⟨j, hj⟩ : ∃ j, j + 1 = k := ⟨k - 1, by omega⟩
        have hjl : j < l.length := by omega
        obtain ⟨y, hy⟩ : ∃ y, y = l[j] := ⟨_, rfl⟩
        have hyn : y < n := by rw [hy]; exact HX.out j hjl
        have cx : w5.cell? ⟨w3.heap.size + 1 + 1, k, none⟩ = some (.int .i64 (x : Nat)) := by rw [HXX.out]; exact S2.out.pl k hkl
        have cy : w5.cell? ⟨w3.heap.size + 1 + 1, j, none⟩ = some (.int .i64 (y : Nat)) := by rw [hy]; exact S2.out.pl j hjl
        have hkey : key cs y < key cs x := by
          have := HK.out j (by omega)
          rw [hy, HXX.out]
          simpa [hj] using this
        have hm : mhc cs y ≤ mhc cs x := mhc_of_key (by omega) hkey
        have hxy : mhc cs y = mhc cs x → ¬ x < y := fun e h => by
          have e1 : key cs x = mhc cs x * 18446744073709551616 + x := rfl
          have e2 : key cs y = mhc cs y * 18446744073709551616 + y := rfl
          omega
        obtain ⟨p1, p2, p3, p4⟩ := hC y (by rw [← HN.out]; exact hyn)
        obtain ⟨q1, q2, q3, q4⟩ := hC x (by rw [← HN.out]; exact hxn)
        have hbw := S2.out.bel
        rw [← hbw.cell (p := ⟨b, off + y * 4, none⟩) hb] at p1
        rw [← hbw.cell (p := ⟨b, off + y * 4 + 1, none⟩) hb] at p2
        rw [← hbw.cell (p := ⟨b, off + y * 4 + 2, none⟩) hb] at p3
        rw [← hbw.cell (p := ⟨b, off + y * 4 + 3, none⟩) hb] at p4
        rw [← hbw.cell (p := ⟨b, off + x * 4, none⟩) hb] at q1
        rw [← hbw.cell (p := ⟨b, off + x * 4 + 1, none⟩) hb] at q2
        rw [← hbw.cell (p := ⟨b, off + x * 4 + 2, none⟩) hb] at q3
        rw [← hbw.cell (p := ⟨b, off + x * 4 + 3, none⟩) hb] at q4
        obtain ⟨cv, hcv⟩ : ∃ c, cmpH (mh (nth cs y).n (nth cs y).s) (mh (nth cs x).n (nth cs x).s) = c := ⟨_, rfl⟩
        have HV : Hid ((cv = -1 ∧ mhc cs y < mhc cs x) ∨ (cv = 0 ∧ ¬ x < y)) := by
          rcases Nat.lt_or_ge (mhc cs y) (mhc cs x) with h | h
          · exact .inl ⟨by rw [← hcv]; exact cmpH_lt h, h⟩
          · refine .inr ⟨?_, hxy (by omega)⟩
            rw [← hcv, show mh (nth cs y).n (nth cs y).s = mh (nth cs x).n (nth cs x).s from (by omega : mhc cs y = mhc cs x)]
            exact cmpH_self _
        generalize ht1 : (nth cs y).n = t1 at p1 hcv
        generalize ht2 : (nth cs y).s = t2 at p2 hcv
        generalize (nth cs y).lo = t3 at p3
        generalize (nth cs y).hi = t4 at p4
        generalize ht5 : (nth cs x).n = t5 at q1 hcv
        generalize ht6 : (nth cs x).s = t6 at q2 hcv
        generalize (nth cs x).lo = t7 at q3
        generalize (nth cs x).hi = t8 at q4
        have HJ : Hid (j + 1 = k) := hj
        have wkj : IntKind.i64.wrap ((k : Int) - 1) = (j : Int) := by rw [IntKind.wrap_i64]; omega
        have wkj2 : wrap64 ((k : Int) - 1) = (j : Int) := by unfold wrap64; omega
        have b0 : (0 : Int) ≤ (j : Int) := by omega
        have bj : (j : Int) < (n : Int) := by omega
        have by' : (y : Int) < (n : Int) := by omega
        clear ht1 ht2 ht5 ht6 hbw hkey hm hxy hy hj
        go_region_held3 (fun w' => Below w5.heap.size w5 w' ∧ w'.cell? ⟨w3.heap.size + 1 + 1, j, none⟩ = some (.int .i64 (y : Nat)) ∧ w'.cell? ⟨w3.heap.size + 1 + 1, k, none⟩ = some (.int .i64 (x : Nat)) ∧ w'.cell? ⟨b, off + y * 4, none⟩ = some (.int .i64 t1) ∧ w'.cell? ⟨b, off + y * 4 + 1, none⟩ = some (.int .i64 t2) ∧ w'.cell? ⟨b, off + y * 4 + 2, none⟩ = some (.int .i64 t3) ∧ w'.cell? ⟨b, off + y * 4 + 3, none⟩ = some (.int .i64 t4) ∧ w'.cell? ⟨b, off + x * 4, none⟩ = some (.int .i64 t5) ∧ w'.cell? ⟨b, off + x * 4 + 1, none⟩ = some (.int .i64 t6) ∧ w'.cell? ⟨b, off + x * 4 + 2, none⟩ = some (.int .i64 t7) ∧ w'.cell? ⟨b, off + x * 4 + 3, none⟩ = some (.int .i64 t8))
          (first | assumption | (exact ⟨(Below.refl _ _).drew, cy, cx, p1, p2, p3, p4, q1, q2, q3, q4⟩) | (exact ⟨Below.refl _ _, cy, cx, p1, p2, p3, p4, q1, q2, q3, q4⟩) | (refine cmp_keep2 (W0 := w5) (P := w3.heap.size + 1 + 1) (j := j) (k := k) (b := b) (p := off + y * 4) (q := off + x * 4) (y := .int .i64 (y : Nat)) (x := .int .i64 (x : Nat)) (a0 := .int .i64 t1) (a1 := .int .i64 t2) (a2 := .int .i64 t3) (a3 := .int .i64 t4) (c0 := .int .i64 t5) (c1 := .int .i64 t6) (c2 := .int .i64 t7) (c3 := .int .i64 t8) hb2 ?_; assumption))
          (first | (go_at_call 13; with_reducible refine (mean_any t1 t2 t3 t4 _).mono ?_; rintro e w2 ⟨m1, hm1, rfl, hb2⟩) | (go_at_call 13; with_reducible refine (mean_any t5 t6 t7 t8 _).mono ?_; rintro e w2 ⟨m2, hm2, rfl, hb2⟩) | (go_at_call 12; refine (cmp_mean t1 t2 t5 t6 m1 m2 cv hm1 hm2 hcv _).mono ?_; rintro e w2 ⟨rfl, rfl⟩))
        have hS : Below w5.heap.size w5 w2 := by apply And.left; assumption
        have S6 : Aside (PL w (w3.heap.size + 1 + 1) w4.heap.size n l (k + 1) w2) := S2.out.after hPS hS
        have cx2 : w2.cell? ⟨w3.heap.size + 1 + 1, k, none⟩ = some (.int .i64 (x : Nat)) := (hS.cell (p := ⟨w3.heap.size + 1 + 1, k, none⟩) (cell_lt cx)).trans cx
        have cy2 : w2.cell? ⟨w3.heap.size + 1 + 1, j, none⟩ = some (.int .i64 (y : Nat)) := (hS.cell (p := ⟨w3.heap.size + 1 + 1, j, none⟩) (cell_lt cy)).trans cy
        have ekj : (k : Int) - 1 = (j : Int) := by have := HJ.out; omega
        clear wkj wkj2 S2 hS cx cy p1 p2 p3 p4 q1 q2 q3 q4 hcv
        rcases HV.out with ⟨rfl, _⟩ | ⟨rfl, hnl⟩
        · as_aux_lemma =>
            clear HV
            go_wp2_with fail
            go_quiet (fail)
            have S7 : Aside (PL w (w3.heap.size + 1 + 1) w4.heap.size n l (k + 1) (w2.drewN nq)) := S6.out.drewN nq
            clear S6 cx2 cy2
            generalize w2.drewN nq = w7 at S7 ⊢
            go_wp2
            go_roundg (n - (k + 1))
            case measure => omega
            case rel => exact ⟨k + 1, by go_num, by omega, by omega, S7⟩
        · as_aux_lemma =>
            have hnz : ¬ (x : Int) < (y : Int) := by omega
            have hnd : decide ((x : Int) < (y : Int)) = false := decide_eq_false hnz
            clear HV
            go_wp2_with fail
            go_quiet (fail)
            have S7 : Aside (PL w (w3.heap.size + 1 + 1) w4.heap.size n l (k + 1) (w2.drewN nq)) := S6.out.drewN nq
            clear S6 cx2 cy2
            generalize w2.drewN nq = w7 at S7 ⊢
            go_wp2
            go_roundg (n - (k + 1))
            case measure => omega
            case rel => exact ⟨k + 1, by go_num, by omega, by omega, S7⟩
    · as_aux_lemma =>
        have hltz : ¬ (k : Int) < (n : Int) := by omega
        go_wp2
        go_ret
        exact ⟨rfl, SK.out.bel⟩

theorem places_walk (a : Option Addr) (len cap : Nat) (w : World) (h : CellsIn w a len) :
    Calls Try.prog 10 #[.slice a len cap] w fun e w' => e = .returned (.bool true) ∧ Below w.heap.size w w' := by
  by_cases hl : 200 < len
  · exact places_long a len cap w hl
  · by_cases h0 : len = 0
    · subst h0; exact places_none a cap w
    · rcases h with h | ⟨b, off, cs, rfl, hb, rfl, hC⟩
      · exact absurd h h0
      · exact places_some b off cap cs w hb (by omega) (by omega) hC
end Go.Proofs.Ytpaelakaolggmaa.rank
