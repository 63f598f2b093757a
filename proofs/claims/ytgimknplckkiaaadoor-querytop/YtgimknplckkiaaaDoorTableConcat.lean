/-
  The contracts of slices.Grow of no rows, of slices.Concat of two lists of rows, and of table.Merge.
-/
import Derived.Test.YtgimknplckkiaaaDoorTableBK
import Derived.Test.YtgimknplckkiaaaDoorTableLayGrow
import Derived.Test.YtgimknplckkiaaaDoorTableRefLay
namespace Go.Proofs.YtgimknplckkiaaaDoor.table
open Go.ChangeShapes Go.WideShapes Go.ChangeAt Go.RowKit Go.Deep
open Go.Proofs.YtgimknplckkiaaaDoor.dims (nth Ints cell_lt cmpL own_below)
open Go.Proofs.YtgimknplckkiaaaDoor.cell (C4 mrg all one zero In64)
set_option linter.unusedVariables false
set_option maxRecDepth 100000

theorem grow_any (n : Nat) (w : World) (hn : n ≤ 1000000) :
    Calls Tryd.prog 80 #[.slice none 0 0, .int .i64 n] w fun e w' => ∃ v, e = .returned v ∧ w'.ownsRow w.heap.size 63 5 v 0 [] ∧ Below w.heap.size w w' := by
  obtain ⟨i0, hi, hz0, hz1, hz2⟩ := info_parts info_row
  by_cases h0 : n = 0
  · subst h0
    have h := Any8.slices_Grow_room Tryd.laysGrow none 0 0 0 w (by omega) (by omega) (by omega) (by omega)
    change Calls Tryd.prog 80 _ _ _ at h
    refine h.mono ?_
    rintro e w' ⟨rfl, rfl⟩
    exact ⟨_, rfl, World.ownsRow_nil _ _ _ _, Below.refl _ _⟩
  · have h := Any8.slices_Grow_grow Tryd.laysGrow i0 _ hi hz0 (by omega) none 0 0 n [] w (by omega) (by omega) (by rw [hz2]; omega) (by omega) (by simp) (fun _ => rfl) (fun a ha => by cases ha)
    change Calls Tryd.prog 80 _ _ _ at h
    refine h.mono ?_
    rintro e w' ⟨rfl, rfl⟩
    refine ⟨_, rfl, ⟨rfl, .inr ⟨w.heap.size, _, _, rfl, Nat.le_refl _, heap_alloc_new _ _, Nat.zero_le _, grownCap_le_maxLen _ _ _ _ (by unfold maxLen; omega), ?_, by simp⟩⟩, ?_⟩
    · rw [Array.size_append, Array.size_append, size_zeroCells, size_zeroCells]
      have hg := grownCap_ge w (0 + n) 0 63
      show (0 : Nat) + (0 + n - 0) * 5 + (grownCap w (0 + n) 0 63 - (0 + n)) * 5 = grownCap w (0 + n) 0 63 * 5
      omega
    · exact ((Below.refl _ _).drew).alloc (Nat.le_refl _) _

/-- the first lists of two -/
def pick2 (rs qs : List Rw) : Nat → List Rw
  | 0 => []
  | 1 => rs
  | _ => rs ++ qs
structure CS (w : World) (rs qs : List Rw) (k : Nat) (v : Value) (W : World) : Prop where
  own : W.ownsRow w.heap.size 63 5 v (pick2 rs qs k).length (flatR (pick2 rs qs k))
  bel : Below w.heap.size w W
theorem CS.step {w W W1 : World} {rs qs : List Rw} {k g cap : Nat} {v : Value} {os : List Rw} (h : CS w rs qs k v W) (hk : pick2 rs qs (k + 1) = pick2 rs qs k ++ os)
    (ho : W1.ownsRow w.heap.size 63 5 (.slice (some ⟨g, 0, none⟩) ((pick2 rs qs k).length + os.length) cap) ((pick2 rs qs k).length + os.length) (flatR (pick2 rs qs k) ++ flatR os)) (hg : W.grownBy W1 v.ownBlock) : CS w rs qs (k + 1) (.slice (some ⟨g, 0, none⟩) ((pick2 rs qs k).length + os.length) cap) W1 := by
  refine ⟨?_, h.bel.grown hg h.bel.size fun q hq => (h.own.lt q hq).1⟩
  rw [hk, flatR_append, List.length_append]; exact ho
theorem CS.same {w W : World} {rs qs : List Rw} {k : Nat} {v : Value} (h : CS w rs qs k v W) (hk : pick2 rs qs (k + 1) = pick2 rs qs k) : CS w rs qs (k + 1) v W := ⟨by rw [hk]; exact h.own, h.bel⟩

set_option maxHeartbeats 4000000 in
theorem concat_any (bb : Nat) (a1 a2 : Option Addr) (n1 n2 c1 c2 : Nat) (rs qs : List Rw) (w : World) (d0 : w.cell? ⟨bb, 0, none⟩ = some (.slice a1 n1 c1)) (d1 : w.cell? ⟨bb, 1, none⟩ = some (.slice a2 n2 c2)) (h1 : RowsIn w a1 rs) (e1 : rs.length = n1) (m1 : n1 ≤ 100000) (h2 : RowsIn w a2 qs) (e2 : qs.length = n2) (m2 : n2 ≤ 100000) :
    Calls Tryd.prog 65 #[.slice (some ⟨bb, 0, none⟩) 2 2] w fun e w' => ∃ v, e = .returned v ∧ CS w rs qs 2 v w' := by
  obtain ⟨i0, hi, hz0, hz1, hz2⟩ := info_parts info_row
  have HH : Aside (RowsIn w a1 rs ∧ rs.length = n1 ∧ RowsIn w a2 qs ∧ qs.length = n2) := ⟨h1, e1, h2, e2⟩
  have hbl := cell_lt d0
  clear h1 e1 h2 e2
  go_enter Tryd.func65, Tryd.ntmps65
  go_wp2_with fail
  go_loopg [3, 5, 11] 2 (fun g1 v s vi wr => ∃ (k : Nat), v = .int .i64 ((if k = 0 then 0 else if k = 1 then n1 else n1 + n2 : Nat) : Int) ∧ vi = .int .i64 k ∧ k ≤ 2 ∧ 2 - k ≤ g1 ∧ wr = w)
  case atStart => exact ⟨0, rfl, rfl, by omega, by omega, rfl⟩
  case round =>
    obtain ⟨k, rfl, rfl, hk, hg1, rfl⟩ := hrel
    have hk3 : k = 0 ∨ k = 1 ∨ k = 2 := by omega
    rcases hk3 with rfl | rfl | rfl
    · go_wp2
      go_roundg 1
      case measure => omega
      case rel => exact ⟨1, by go_num, by go_num, by omega, by omega, rfl⟩
    · go_wp2
      go_roundg 0
      case measure => omega
      case rel => exact ⟨2, by go_num, by go_num, by omega, by omega, rfl⟩
    · obtain ⟨m, hm⟩ : ∃ m : Nat, (if (2 : Nat) = 0 then 0 else if (2 : Nat) = 1 then n1 else n1 + n2) = m := ⟨_, rfl⟩
      rw [hm]
      have hm2 : m ≤ 1000000 := by simp at hm; omega
      clear hm
      have hG := grow_any m wr hm2
      go_wp2_with (go_at_call 80; refine hG.mono ?_; rintro e w2 ⟨v2, rfl, hown2, hb2⟩; refine Hid.out ?_)
      refine Lib.hid ?_
      have S2 : Aside (CS wr rs qs 0 v2 w2) := ⟨hown2, hb2⟩
      clear hown2 hb2 hG
      obtain ⟨W0, hW0⟩ : ∃ W0, wr = W0 := ⟨_, rfl⟩
      have HW : Hid (wr = W0) := hW0
      rw [hW0] at S2 HH d0 d1 hbl
      clear hW0
      go_wp2_with fail
      go_loopg [6, 8, 27] 2 (fun g1 v s vi wr => ∃ (k : Nat), vi = .int .i64 k ∧ k ≤ 2 ∧ 2 - k ≤ g1 ∧ Aside (CS W0 rs qs k v wr))
      case atStart => exact ⟨0, rfl, by omega, by omega, S2⟩
      case round =>
        clear S2
        obtain ⟨k, rfl, hk, hg1, SK⟩ := hrel
        have f0 := (SK.out.bel.cell (p := ⟨bb, 0, none⟩) hbl).trans d0
        have f1 := (SK.out.bel.cell (p := ⟨bb, 1, none⟩) hbl).trans d1
        have hown := SK.out.own
        have hsz := SK.out.bel.size
        have hk3 : k = 0 ∨ k = 1 ∨ k = 2 := by omega
        rcases hk3 with rfl | rfl | rfl
        · by_cases h0 : n1 = 0
          · subst h0
            have hrs : rs = [] := List.eq_nil_of_length_eq_zero HH.out.2.1
            have S3 : Aside (CS W0 rs qs (0 + 1) u6 wr) := SK.out.same (by rw [hrs]; rfl)
            clear hrs SK
            go_wp2_with (at_builtin; refine wpList_append_zero rfl (.tmp 31) (.tmp 32) 23 rfl W0.heap.size 63 i0 5 Tryd.underlying23 hi _ _ _ rfl hown _ _ rfl ?_)
            go_roundg 1
            case measure => omega
            case rel => exact ⟨1, by go_num, by omega, by omega, S3⟩
          · obtain ⟨b, off, ha, -⟩ := HH.out.1.get (k := 0) (by rw [HH.out.2.1]; omega)
            subst ha
            have hnews := rows_news (HH.out.1.keep SK.out.bel) 0
            simp only [List.drop_zero, Nat.zero_mul, Nat.add_zero] at hnews
            have hlen : (flatR rs).length = n1 * 5 := by rw [flatR_len, HH.out.2.1]
            have hpl : (pick2 rs qs 0).length = 0 := rfl
            have S3 : Aside (∀ g cap W1, W1.ownsRow W0.heap.size 63 5 (.slice (some ⟨g, 0, none⟩) ((pick2 rs qs 0).length + n1) cap) ((pick2 rs qs 0).length + n1) (flatR (pick2 rs qs 0) ++ flatR rs) → wr.grownBy W1 u6.ownBlock → CS W0 rs qs (0 + 1) (.slice (some ⟨g, 0, none⟩) ((pick2 rs qs 0).length + n1) cap) W1) := fun g cap W1 ho hg => by
              rw [← HH.out.2.1] at ho ⊢
              exact SK.out.step rfl ho hg
            clear SK
            go_wp2_with (at_builtin; refine wpList_append_lies _ rfl (.tmp 31) (.tmp 32) 23 rfl W0.heap.size 63 i0 _ 5 56 Tryd.underlying23 hi hz0 hz1 hz2 rfl (by decide) _ _ _ rfl hown ⟨b, off, none⟩ n1 c1 (flatR rs) rfl hlen hnews (flatR_one rs) (by omega) (by unfold maxLen; omega) (by omega) hsz _ rfl ?_; intro g cap3 w3 hown3 hg3 _ _; refine Hid.out ?_)
            refine Lib.hid ?_
            have S4 : Aside (CS W0 rs qs 1 (.slice (some ⟨g, 0, none⟩) n1 cap3) w3) := by
              have h := S3.out g cap3 w3 hown3 hg3
              rw [hpl, Nat.zero_add, Nat.zero_add] at h
              exact h
            clear hown3 hg3 S3 hown hnews
            go_wp2
            go_roundg 1
            case measure => omega
            case rel => exact ⟨1, by go_num, by omega, by omega, S4⟩
        · by_cases h0 : n2 = 0
          · subst h0
            have hqs : qs = [] := List.eq_nil_of_length_eq_zero HH.out.2.2.2
            have S3 : Aside (CS W0 rs qs (1 + 1) u6 wr) := SK.out.same (by rw [hqs]; show rs ++ [] = rs; simp)
            clear hqs SK
            go_wp2_with (at_builtin; refine wpList_append_zero rfl (.tmp 31) (.tmp 32) 23 rfl W0.heap.size 63 i0 5 Tryd.underlying23 hi _ _ _ rfl hown _ _ rfl ?_)
            go_roundg 0
            case measure => omega
            case rel => exact ⟨2, by go_num, by omega, by omega, S3⟩
          · obtain ⟨b, off, ha, -⟩ := HH.out.2.2.1.get (k := 0) (by rw [HH.out.2.2.2]; omega)
            subst ha
            have hnews := rows_news (HH.out.2.2.1.keep SK.out.bel) 0
            simp only [List.drop_zero, Nat.zero_mul, Nat.add_zero] at hnews
            have hlen : (flatR qs).length = n2 * 5 := by rw [flatR_len, HH.out.2.2.2]
            have hpl : (pick2 rs qs 1).length = n1 := HH.out.2.1
            rw [hpl] at hown
            have S3 : Aside (∀ g cap W1, W1.ownsRow W0.heap.size 63 5 (.slice (some ⟨g, 0, none⟩) ((pick2 rs qs 1).length + n2) cap) ((pick2 rs qs 1).length + n2) (flatR (pick2 rs qs 1) ++ flatR qs) → wr.grownBy W1 u6.ownBlock → CS W0 rs qs (1 + 1) (.slice (some ⟨g, 0, none⟩) ((pick2 rs qs 1).length + n2) cap) W1) := fun g cap W1 ho hg => by
              rw [← HH.out.2.2.2] at ho ⊢
              exact SK.out.step rfl ho hg
            clear SK
            go_wp2_with (at_builtin; refine wpList_append_lies _ rfl (.tmp 31) (.tmp 32) 23 rfl W0.heap.size 63 i0 _ 5 56 Tryd.underlying23 hi hz0 hz1 hz2 rfl (by decide) _ _ _ rfl hown ⟨b, off, none⟩ n2 c2 (flatR qs) rfl hlen hnews (flatR_one qs) (by omega) (by unfold maxLen; omega) (by omega) hsz _ rfl ?_; intro g cap3 w3 hown3 hg3 _ _; refine Hid.out ?_)
            refine Lib.hid ?_
            have S4 : Aside (CS W0 rs qs 2 (.slice (some ⟨g, 0, none⟩) (n1 + n2) cap3) w3) := by
              have h := S3.out g cap3 w3 (by rw [hpl]; exact hown3) hg3
              rw [hpl] at h
              exact h
            clear hown3 hg3 S3 hown hnews
            go_wp2
            go_roundg 0
            case measure => omega
            case rel => exact ⟨2, by go_num, by omega, by omega, S4⟩
        · go_wp2
          go_ret
          refine ⟨_, rfl, ?_⟩
          rw [HW.out]; exact SK.out

/-- what Concat hands out, as rows -/
theorem CS.rows {w W : World} {rs qs : List Rw} {v : Value} (h : CS w rs qs 2 v W) (hk : ∀ r ∈ rs ++ qs, KeyOk w r.a r.k.length r.cap r.k) : ∃ a cap, v = .slice a (rs ++ qs).length cap ∧ RowsIn W a (rs ++ qs) := by
  have ho : W.ownsRow w.heap.size 63 5 v (rs ++ qs).length (flatR (rs ++ qs)) := h.own
  rcases ho.2 with ⟨hv, h0⟩ | ⟨g, cap, cur, hv, _, _, hc, hm, _⟩
  · exact ⟨none, 0, by rw [hv, h0], .inl (List.eq_nil_of_length_eq_zero h0)⟩
  · refine ⟨some ⟨g, 0, none⟩, cap, hv, .inr ⟨g, 0, rfl, fun i hi => ⟨?_, (hk _ (rwn_mem hi)).keep h.bel⟩⟩⟩
    rw [hv] at ho
    have c : ∀ j, j < 5 → W.cell? ⟨g, i * 5 + j, none⟩ = (rowCells (rwn (rs ++ qs) i))[j]? := fun j hj => by
      rw [World.ownsRow.cellAt ho (i * 5 + j) (by omega), flatR_get _ i j hi hj]
    unfold CellsAt
    rw [Nat.zero_add]
    exact ⟨c 0 (by omega), c 1 (by omega), c 2 (by omega), c 3 (by omega), c 4 (by omega)⟩

theorem rows_keys {w : World} {a : Option Addr} {rs : List Rw} (h : RowsIn w a rs) : ∀ r ∈ rs, KeyOk w r.a r.k.length r.cap r.k := fun r hr => by
  obtain ⟨i, hi, rfl⟩ := List.mem_iff_getElem.1 hr
  obtain ⟨b, off, ha, hc⟩ := h.get hi
  have := (hc i hi).2
  rwa [rwn_eq hi] at this
theorem told_rows (rs : List Rw) : told (fun l => l) rs = rs.map plain := rfl

set_option maxHeartbeats 4000000 in
theorem merge_any (a1 a2 : Option Addr) (n1 n2 c1 c2 : Nat) (rs qs : List Rw) (w : World) (hp : Pow w) (h1 : RowsIn w a1 rs) (e1 : rs.length = n1) (m1 : n1 ≤ 10000) (h2 : RowsIn w a2 qs) (e2 : qs.length = n2) (m2 : n2 ≤ 10000) (k1 : ∀ r ∈ rs, r.k.length ≤ 1000000) (k2 : ∀ r ∈ qs, r.k.length ≤ 1000000) :
    Calls Tryd.prog 38 #[.slice a1 n1 c1, .slice a2 n2 c2] w fun e w' => ∃ v, e = .returned v ∧ TabOut w' v (tab (rs.map plain ++ qs.map plain)) ∧ Below w.heap.size w w' := by
  have hB : ∀ o, Below w.heap.size w (w.alloc o) := fun o => (Below.refl _ _).alloc (Nat.le_refl _) _
  have hC := concat_any w.heap.size a1 a2 n1 n2 c1 c2 rs qs (w.alloc (.cells #[.slice a1 n1 c1, .slice a2 n2 c2] 23)) (by simp [go_sem]) (by simp [go_sem]) (h1.keep (hB _)) e1 (by omega) (h2.keep (hB _)) e2 (by omega)
  have HH : Aside (Pow w ∧ (∀ r ∈ rs ++ qs, KeyOk w r.a r.k.length r.cap r.k) ∧ (∀ r ∈ rs ++ qs, r.k.length ≤ 1000000) ∧ (rs ++ qs).length ≤ 100000) := ⟨hp, fun r hr => (List.mem_append.1 hr).elim (rows_keys h1 r) (rows_keys h2 r), fun r hr => (List.mem_append.1 hr).elim (k1 r) (k2 r), by simp; omega⟩
  clear hp h1 e1 h2 e2 k1 k2
  go_enter Tryd.func38, Tryd.ntmps38
  go_wp2_with (go_at_call 65; refine hC.mono ?_; rintro e w1 ⟨v1, rfl, hS⟩; refine Hid.out ?_)
  refine Lib.hid ?_
  obtain ⟨a3, c3, rfl, hR⟩ := hS.rows (fun r hr => (HH.out.2.1 r hr).keep (hB _))
  have B1 : Aside (Below w.heap.size w w1) := (hB _).trans (hS.bel.mono (by simp))
  have hG := gather_any a3 (rs ++ qs).length c3 (rs ++ qs) 66 #[] (fun l => l) w1 (HH.out.1.keep B1.out) hR rfl HH.out.2.2.2 (enters_of Tryd.func66 (by kernel_rfl) rfl)
    (fun W r hW hr => same_any _ _ _ _ W (((HH.out.2.1 r hr).keep B1.out).keep hW) (HH.out.2.2.1 r hr)) (fun r hr => HH.out.2.2.1 r hr)
  rw [told_rows, List.map_append] at hG
  generalize (rs ++ qs).length = n3 at hG ⊢
  clear hC hS hR hB
  go_wp2_with (go_at_call 47; refine hG.mono ?_; rintro e w5 ⟨v, rfl, hT, hb5⟩)
  go_ret
  exact ⟨_, rfl, hT, B1.out.trans (hb5.mono B1.out.size)⟩
end Go.Proofs.YtgimknplckkiaaaDoor.table
