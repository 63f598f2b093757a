/-
  The contracts of dice.same (a list as it is, in memory of its own) and of the statements' own 'same' (are two lists one?) and 'ints'.
-/
import Derived.Test.YthbjfbkjbggkbaaDiceLeaf
import Derived.Test.YthbjfbkjbggkbaaDimsKey
namespace Go.Proofs.Ythbjfbkjbggkbaa.dice
open Go.ChangeShapes Go.WideShapes Go.ChangeAt Go.RowKit Go.Deep
open Go.Proofs.Ythbjfbkjbggkbaa.dims
set_option linter.unusedVariables false
set_option maxRecDepth 100000

theorem size_int : (Try.prog.info? 3).map (·.size) = some 1 := by kernel_rfl

theorem ints_news {W : World} {b off : Nat} {l : List Int} (h : ∀ i, i < l.length → W.cell? ⟨b, off + i, none⟩ = some (.int .i64 (nth l i))) : ∀ j u, (vals l)[j]? = some u → W.cell? ((⟨b, off, none⟩ : Addr).add j) = some u := by
  intro j u hj
  have hl : j < l.length := by
    have := (List.getElem?_eq_some_iff.1 hj).1
    rw [vals_len] at this; exact this
  rw [vals_get hl] at hj
  rw [addr_add, h j hl, ← hj]

set_option maxHeartbeats 4000000 in
theorem dsame_any (a : Option Addr) (n c : Nat) (l : List Int) (w : World) (hI : Ints w a l) (hn : l.length = n) (hm : n ≤ 100000) :
    Calls Try.prog 26 #[.slice a n c] w fun e w' => e = .returned (.slice (some ⟨w.heap.size, 0, none⟩) n n) ∧ w'.ownsRow w.heap.size 3 1 (.slice (some ⟨w.heap.size, 0, none⟩) n n) n (vals l) ∧ Below w.heap.size w w' := by
  have hmk := run_make_row' (P := Try.prog) 26 3 (.int .i64 0) 8 Try.underlying26 info_int rfl .i64 .i64 n (by omega) (by omega)
  have HI : Aside (Ints w a l ∧ l.length = n) := ⟨hI, hn⟩
  have HG : Aside ((w.alloc (.cells (madeCells #[.int .i64 0] n) 3)).heap[w.heap.size]? = some (.cells (List.replicate n (Value.int .i64 0)).toArray 3 (0, 0))) := by
    have := heap_alloc_new w (.cells (madeCells #[.int .i64 0] n) 3)
    show _ = _
    rw [this, ← toList_madeCells_one]
  have HB : Aside (Below w.heap.size w (w.alloc (.cells (madeCells #[.int .i64 0] n) 3))) := (Below.refl _ _).alloc (Nat.le_refl _) _
  have HP : Aside (0 < (vals l).length → ∃ ad, a = some ad ∧ ∀ j v, (vals l)[j]? = some v → (w.alloc (.cells (madeCells #[.int .i64 0] n) 3)).cell? (ad.add j) = some v) := by
    intro h0
    rw [vals_len] at h0
    obtain ⟨b, off, ha, hc⟩ := (HI.out.1.keep HB.out).get h0
    exact ⟨_, ha, ints_news hc⟩
  have q1 : Aside ((vals l).length = Nat.min n n) := by show _ = _; rw [vals_len, hn]; exact (Nat.min_self n).symm
  have q2 : Aside (0 + (vals l).length ≤ (List.replicate n (Value.int .i64 0)).length) := by show _ ≤ _; rw [vals_len, hn]; simp
  clear hI hn
  go_enter Try.func26, Try.ntmps26
  go_wp2_with (first | (refine wpList_copy_splice rfl (.tmp 7) (.tmp 8) 26 26 rfl 3 Try.underlying26 size_int (some ⟨w.heap.size, 0, none⟩) a n n n c rfl rfl w.heap.size 0 (List.replicate n (Value.int .i64 0)) 3 HG.out (vals l) q1.out (fun h => ⟨rfl, HP.out h⟩) q2.out (vals_one l) w.heap.size w HB.out (Nat.le_refl _) ?_) | go_in)
  · intro w2 hg2 hb2
    have S : Aside (w2.ownsRow w.heap.size 3 1 (.slice (some ⟨w.heap.size, 0, none⟩) n n) n (vals l) ∧ Below w.heap.size w w2) := by
      refine ⟨⟨by rw [vals_len, HI.out.2]; omega, .inr ⟨w.heap.size, n, _, rfl, Nat.le_refl _, hg2.out, Nat.le_refl _, by unfold maxLen; omega, ?_, ?_⟩⟩, hb2⟩
      · simp only [List.size_toArray]
        rw [length_splice _ _ _ (by rw [vals_len, HI.out.2]; simp)]; simp
      · simp only [splice, List.take_zero, List.nil_append, Nat.zero_add]
        rw [List.drop_of_length_le (by rw [vals_len, HI.out.2]; simp), List.append_nil, List.take_of_length_le (by rw [vals_len, HI.out.2]; omega)]
    clear hg2 hb2
    go_wp2
    go_ret
    exact ⟨rfl, S.out⟩

set_option maxHeartbeats 4000000 in
theorem lawSame_any (a1 a2 : Option Addr) (n1 n2 c1 c2 : Nat) (l m : List Int) (r : Bool) (w : World) (h1 : Ints w a1 l) (e1 : l.length = n1) (h2 : Ints w a2 m) (e2 : m.length = n2) (hm : n1 ≤ 9223372036854775807) (hr : decide (l = m) = r) :
    Calls Try.prog 15 #[.slice a1 n1 c1, .slice a2 n2 c2] w fun e w' => e = .returned (.bool r) ∧ Below w.heap.size w w' := by
  by_cases hl : n1 = n2
  · subst hl
    have H1 : Aside (Ints w a1 l ∧ l.length = n1) := ⟨h1, e1⟩
    have H2 : Aside (Ints w a2 m ∧ m.length = n1) := ⟨h2, e2⟩
    have HR : Hid (decide (l = m) = r) := hr
    clear h1 h2 e1 e2 hr
    go_enter Try.func15, Try.ntmps15
    go_wp2_with fail
    go_loopg [5] n1 (fun g1 vi wr => ∃ (k : Nat), vi = .int .i64 k ∧ k ≤ n1 ∧ n1 - k ≤ g1 ∧ Aside (Below w.heap.size w wr ∧ ∀ i, i < k → nth l i = nth m i))
    case atStart => exact ⟨0, rfl, Nat.zero_le _, Nat.le_refl _, Below.refl _ _, fun i hi => by omega⟩
    case round =>
      obtain ⟨k, rfl, hk, hg1, SK⟩ := hrel
      by_cases hlt : k < n1
      · have hltz : (k : Int) < (n1 : Int) := by omega
        obtain ⟨b1, o1, ha1, hc1⟩ := (H1.out.1.keep SK.out.1).get (k := k) (by rw [H1.out.2]; exact hlt)
        obtain ⟨b2, o2, ha2, hc2⟩ := (H2.out.1.keep SK.out.1).get (k := k) (by rw [H2.out.2]; exact hlt)
        subst ha1
        subst ha2
        have r1 := hc1 k (by rw [H1.out.2]; exact hlt)
        have r2 := hc2 k (by rw [H2.out.2]; exact hlt)
        clear hc1 hc2
        by_cases g1 : nth l k = nth m k
        · have S2 : Aside (∀ i, i < k + 1 → nth l i = nth m i) := fun i hi => by
            by_cases e : i = k
            · subst e; exact g1
            · exact SK.out.2 i (by omega)
          rw [g1] at r1
          generalize nth m k = x at r1 r2
          clear g1
          have d1 : (x == x) = true := by simp
          go_wp2_with fail
          go_quiet (fail)
          have SB : Aside _ := below_drewN SK.out.1 nq
          go_wp2
          go_roundg (n1 - (k + 1))
          case measure => omega
          case rel => exact ⟨k + 1, by go_num, by omega, by omega, SB.out, S2.out⟩
        · have E : Hid (r = false) := by
            show _ = _
            rw [← HR.out]
            exact decide_eq_false (fun e => g1 (by rw [e]))
          have d1 : (nth l k == nth m k) = false := by simpa using g1
          generalize nth m k = x at r2 d1
          generalize nth l k = y at r1 d1
          clear g1
          go_wp2_with fail
          go_quiet (fail)
          go_wp2
          go_ret
          exact ⟨ret_bool E.out.symm, below_drewN SK.out.1 nq⟩
      · have hltz : ¬ (k : Int) < (n1 : Int) := by omega
        have E : Hid (r = true) := by
          show _ = _
          rw [← HR.out]
          exact decide_eq_true (nth_ext (by rw [H1.out.2, H2.out.2]) fun i hi => SK.out.2 i (by have := H2.out.2; omega))
        go_wp2
        go_ret
        exact ⟨ret_bool E.out.symm, SK.out.1⟩
  · have b12 : ((n1 : Int) == (n2 : Int)) = false := by simp; omega
    have E : Hid (r = false) := by
      show _ = _
      rw [← hr]
      exact decide_eq_false (fun e => hl (by rw [← e1, ← e2, e]))
    clear h1 h2 e1 e2 hl hr
    go_enter Try.func15, Try.ntmps15
    go_wp2
    go_ret
    exact ⟨ret_bool E.out.symm, Below.refl _ _⟩

set_option maxHeartbeats 4000000 in
theorem ints_any (a : Option Addr) (n c : Nat) (l : List Int) (w : World) (hC : Nums .u8 w a n c l) (hm : n ≤ 100000) :
    Calls Try.prog 20 #[.slice a n c] w fun e w' => ∃ v, e = .returned v ∧ KeyRes w l v w' := by
  obtain ⟨i0, hi, hz0, hz1, hz2⟩ := info_parts info_int
  have HC : Aside (Nums .u8 w a n c l) := hC
  clear hC
  go_enter Try.func20, Try.ntmps20
  go_wp2_with fail
  go_loopg [3, 4] n (fun g1 v vi wr => ∃ (j : Nat), vi = .int .i64 j ∧ j ≤ n ∧ n - j ≤ g1 ∧ Aside (wr.ownsRow w.heap.size 3 1 v j (vals (l.take j)) ∧ Below w.heap.size w wr))
  case atStart => exact ⟨0, rfl, Nat.zero_le _, Nat.le_refl _, World.ownsRow_nil _ _ _ _, Below.refl _ _⟩
  case round =>
    obtain ⟨j, rfl, hj, hg1, SK⟩ := hrel
    by_cases hlt : j < n
    · have hltz : (j : Int) < (n : Int) := by omega
      have hbl := SK.out.2
      have hjl : j < l.length := by rw [HC.out.eln]; exact hlt
      obtain ⟨b2, o2, ha2, hc2⟩ := (HC.out.mem.keep hbl).get hjl
      subst ha2
      have r2 := hc2 j hjl
      have hw := u8_of_wf (HC.out.wf j hjl)
      have HT : Hid (vals (l.take (j + 1)) = vals (l.take j) ++ [.int .i64 (nth l j)]) := by
        show _ = _
        rw [List.take_succ_eq_append_getElem hjl, vals_app]
        simp [vals, nth, hjl]
      have hown := SK.out.1
      have hsz := hbl.size
      clear hc2 hbl
      generalize nth l j = x at r2 hw HT
      go_wp2_with (first | (at_builtin; refine wpList_append_lies _ rfl (.tmp 11) (.tmp 17) 26 rfl w.heap.size 3 i0 _ 1 8 Try.underlying26 hi hz0 hz1 hz2 rfl (by decide) _ _ _ rfl (hown.alloc _) ⟨wr.heap.size, 0, none⟩ 1 1 [.int .i64 x] rfl rfl (cell_one_new _ _ _) (by intro u hu; simp at hu; subst hu; rfl) (by decide) (by unfold maxLen; omega) (by omega) (by simp; omega) _ rfl ?_) | go_in)
      intro g cap3 w3 hown3 hgrow hat hglt
      have S3 : Aside (w3.ownsRow w.heap.size 3 1 (.slice (some ⟨g, 0, none⟩) (j + 1) cap3) (j + 1) (vals (l.take (j + 1))) ∧ Below w.heap.size w w3) :=
        ⟨by rw [HT.out]; exact hown3, (SK.out.2.alloc hsz _).grown hgrow (by simp; omega) fun q hq => (SK.out.1.lt q hq).1⟩
      clear hown3 hgrow hat hglt hown SK
      go_wp2
      go_roundg (n - (j + 1))
      case measure => omega
      case rel => exact ⟨j + 1, by go_num, by omega, by omega, S3⟩
    · have hltz : ¬ (j : Int) < (n : Int) := by omega
      have hown := SK.out.1
      rw [List.take_of_length_le (by rw [HC.out.eln]; omega), show j = l.length by rw [HC.out.eln]; omega] at hown
      have HO : Aside _ := hown
      clear hown
      go_wp2
      go_ret
      exact ⟨_, rfl, HO.out, SK.out.2⟩
end Go.Proofs.Ythbjfbkjbggkbaa.dice
