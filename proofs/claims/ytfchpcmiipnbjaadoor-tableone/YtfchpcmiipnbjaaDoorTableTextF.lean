/-
  The contract of table.text: the text of a key.
-/
import Derived.Test.YtfchpcmiipnbjaaDoorTableMap
import Derived.Test.YtfchpcmiipnbjaaDoorTableLayText
import Derived.Laws.IdiomStrings
namespace Go.Proofs.YtfchpcmiipnbjaaDoor.table
open Go.ChangeShapes Go.WideShapes Go.ChangeAt Go.RowKit Go.Deep
open Go.Proofs.YtfchpcmiipnbjaaDoor.dims (nth Ints cell_lt)
open Go.Proofs.YtfchpcmiipnbjaaDoor.cell (C4 mrg all one zero In64)
set_option linter.unusedVariables false
set_option maxRecDepth 100000

theorem appendInt_any (B n : Nat) (i : Int) (h : In64 i) (sv : Value) (xs : List Value) (w : World) (hown : w.ownsRow B 5 1 sv n xs) (hB : B ≤ w.heap.size) (hl : n + 21 ≤ 140737488355328) (w0 : World) (hB0 : B = w0.heap.size) (hb : Below w0.heap.size w0 w) (hp : Pow w0) :
    Calls Tryd.prog 62 #[sv, .int .i64 i, .int .i64 10] w fun e w' => ∃ v', e = .returned v' ∧ w'.ownsRow B 5 1 v' (n + (Lib.itoa i).length) (xs ++ Lib.byteCells (Lib.itoa i)) ∧ Below B w w' := by
  subst hB0
  have hc := Any.strconv_AppendInt_10 Tryd.laysText w0.heap.size n i h.1 h.2 sv xs w hown hB hl (hp.below.on hb)
  change Calls Tryd.prog 62 _ _ _ at hc
  exact hc.mono fun e w' ⟨v', e1, e2, e3, _⟩ => ⟨v', e1, e2, e3⟩

theorem take_nthK (l : List Int) (k : Nat) (h : k < l.length) : l.take (k + 1) = l.take k ++ [nth l k] := by
  rw [List.take_succ_eq_append_getElem h]
  simp [nth, h]

set_option maxHeartbeats 4000000 in
theorem text_any (a : Option Addr) (n cap : Nat) (l : List Int) (w : World) (h : KeyOk w a n cap l) (hp : Pow w) (hn : n ≤ 1000000) :
    Calls Tryd.prog 45 #[.slice a n cap] w fun e w' => e = .returned (.string (kstr l)) ∧ Below w.heap.size w w' := by
  obtain ⟨i0, hi, hz0, hz1, hz2⟩ := info_parts info_u8
  have H : Aside (KeyOk w a n cap l ∧ Pow w) := ⟨h, hp⟩
  clear h hp
  go_enter Tryd.func45, Tryd.ntmps45
  go_wp2_with (at_make; refine wpList_make_own _ rfl _ _ 48 rfl w.heap.size 5 i0 (.int .u8 0) 1 Tryd.underlying48 hi hz0 hz1 .i64 .i64 _ (8 * n) rfl rfl (by omega) (by rw [hz2]; omega) (by unfold maxLen; omega) (Nat.le_refl _) ?_; intro w1 hown1 hg1; refine Hid.out ?_)
  refine Lib.hid ?_
  have S1 : Aside (w1.ownsRow w.heap.size 5 1 (.slice (some ⟨w.heap.size, 0, none⟩) 0 (8 * n)) (ktext (l.take 0)).length (Lib.byteCells (ktext (l.take 0))) ∧ Below w.heap.size w w1 ∧ Value.slice (some ⟨w.heap.size, 0, none⟩) 0 (8 * n) ≠ .slice none 0 0) :=
    ⟨by simpa [ktext, Lib.byteCells] using hown1, (Below.refl _ _).grown hg1 (Nat.le_refl _) (fun q hq => by cases hq), by simp⟩
  clear hown1 hg1
  go_wp2_with fail
  go_loopg [3, 12] n (fun g1 v vi wr => ∃ (k : Nat), vi = .int .i64 k ∧ k ≤ n ∧ n - k ≤ g1 ∧ Aside (wr.ownsRow w.heap.size 5 1 v (ktext (l.take k)).length (Lib.byteCells (ktext (l.take k))) ∧ Below w.heap.size w wr ∧ v ≠ .slice none 0 0))
  case atStart => exact ⟨0, rfl, Nat.zero_le _, Nat.le_refl _, S1⟩
  case round =>
    clear S1
    obtain ⟨k, rfl, hk, hg1, SK⟩ := hrel
    by_cases hlt : k < n
    · have hltz : (k : Int) < (n : Int) := by omega
      have hkl : k < l.length := by rw [H.out.1.len]; exact hlt
      obtain ⟨b, off, ha, hc⟩ := (H.out.1.keep SK.out.2.1).mem.get hkl
      subst ha
      have r0 := hc k hkl
      clear hc
      have hmem : nth l k ∈ l := by simp [nth, hkl]
      have h64 := H.out.1.wf _ hmem
      have HT : Hid (ktext (l.take (k + 1)) = ktext (l.take k) ++ (Lib.itoa (nth l k) ++ [44])) := by show _ = _; rw [take_nthK l k hkl, ktext_snoc]
      have hlen : (ktext (l.take k)).length ≤ 22000000 := by
        have h1 := ktext_len (l.take k) fun v hv => H.out.1.wf v (List.mem_of_mem_take hv)
        have h2 : (l.take k).length ≤ k := List.length_take_le _ _
        omega
      have hil : (Lib.itoa (nth l k)).length ≤ 21 := Lib.itoa_length_le _ h64.1 h64.2
      have hC := fun v (hv : wr.ownsRow w.heap.size 5 1 v (ktext (l.take k)).length (Lib.byteCells (ktext (l.take k)))) => appendInt_any w.heap.size _ (nth l k) h64 v _ wr hv SK.out.2.1.size (by omega) w rfl SK.out.2.1 H.out.2
      generalize nth l k = x at r0 hC HT hil
      generalize hT : ktext (l.take k) = t at SK HT hlen hC
      clear h64 hT hmem
      obtain ⟨m, hm⟩ : ∃ m, t.length = m := ⟨_, rfl⟩
      rw [hm] at SK hC hlen
      have HM : Hid (t.length = m) := hm
      clear hm
      go_wp2_with fail
      refine (hC _ SK.out.1).mono ?_
      rintro e w2 ⟨v2, rfl, hown2, hb2⟩
      have hbw : Below w.heap.size w w2 := SK.out.2.1.trans hb2
      have hsz := hbw.size
      obtain ⟨y, hy⟩ : ∃ y, (Lib.itoa x).length = y := ⟨_, rfl⟩
      have HY : Hid ((Lib.itoa x).length = y) := hy
      rw [hy] at hown2 hil
      clear hy hC r0
      go_wp2_with (at_builtin; refine wpList_append_own _ rfl _ _ 48 rfl w.heap.size 5 i0 (.int .u8 0) 1 1 Tryd.underlying48 hi hz0 hz1 hz2 rfl (by decide) _ _ _ rfl (hown2.alloc _) ⟨w2.heap.size, 0, none⟩ 1 1 [Value.int .u8 44] rfl rfl (cell_one_new _ _ _) (by intro u hu; simp at hu; subst hu; rfl) (by unfold maxLen; omega) (by omega) (by simp; omega) ?_; intro v3 w3 hown3 hg3 hnil3)
      have S2 : Aside (w3.ownsRow w.heap.size 5 1 v3 (ktext (l.take (k + 1))).length (Lib.byteCells (ktext (l.take (k + 1)))) ∧ Below w.heap.size w w3 ∧ v3 ≠ .slice none 0 0) := by
        refine ⟨?_, (hbw.alloc hsz _).grown hg3 (by simp; omega) (fun q hq => (hown2.lt q hq).1), fun e => by have := hnil3.1 e; omega⟩
        rw [HT.out]
        have e1 : (t ++ (Lib.itoa x ++ [44])).length = m + y + 1 := by simp [HM.out, HY.out]; omega
        have e2 : Lib.byteCells (t ++ (Lib.itoa x ++ [44])) = Lib.byteCells t ++ Lib.byteCells (Lib.itoa x) ++ [Value.int .u8 44] := by simp [Lib.byteCells]
        rw [e1, e2]; exact hown3
      clear hown3 hg3 hnil3 hown2 SK HT
      go_wp2
      go_roundg (n - (k + 1))
      case measure => omega
      case rel => exact ⟨k + 1, by go_num, by omega, by omega, S2⟩
    · have hltz : ¬ (k : Int) < (n : Int) := by omega
      have e : l.take k = l := List.take_of_length_le (by rw [H.out.1.len]; omega)
      have S3 := SK.out
      rw [e] at S3
      obtain ⟨h1, h2, h3⟩ := S3
      obtain ⟨t, ht⟩ : ∃ t, ktext l = t := ⟨_, rfl⟩
      have HTT : Hid (ktext l = t) := ht
      rw [ht] at h1
      clear SK e ht
      rcases h1.2 with ⟨h4, _⟩ | ⟨g, c2, cur, rfl, r⟩
      · exact absurd h4 h3
      · have hcv := run_convert_bytes_back (P := Tryd.prog) wr 48 9 5 ⟨g, 0, none⟩ c2 t Tryd.underlying48 Tryd.underlying5 Tryd.underlying9 (fun j hj => h1.cells (g := g) rfl j _ (by simp [Lib.byteCells, hj]))
        have HB : Aside _ := h2
        clear h1 h2 h3 r
        go_wp2
        go_ret
        have e := HTT.out
        subst e
        exact ⟨rfl, HB.out⟩
end Go.Proofs.YtfchpcmiipnbjaaDoor.table
