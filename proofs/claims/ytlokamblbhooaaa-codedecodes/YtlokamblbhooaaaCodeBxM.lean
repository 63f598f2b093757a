/-
  The chapter's reader: how many there are to be.
-/
import Derived.Test.YtlokamblbhooaaaCodeBx
namespace Go.Proofs.Ytlokamblbhooaaa.code
open Go.ChangeShapes Go.WideShapes Go.ChangeAt Go.RowKit Go.Deep
open Go.Proofs.Ytlokamblbhooaaa.dims (nth Ints cell_lt vals vals_len vals_get vals_one vals_app own_below own_mono own_out own_apart RowOut ret_bool ret_int)
set_option linter.unusedVariables false
set_option maxRecDepth 100000
set_option linter.unusedSimpArgs false

theorem rdGet_len (k : Nat) (s : Rd) : (rdGet k s).2.1.length ≤ s.1.length := by
  unfold rdGet
  split
  · exact Nat.le_refl _
  · simp only [List.length_drop]; omega
theorem rdGet_lt {k : Nat} (s : Rd) (h8 : k ≤ 8) : (rdGet k s).1 < 18446744073709551616 := by
  unfold rdGet
  split
  · simp
  · have h2 := valB_lt (s.1.take k)
    have h3 : 256 ^ (s.1.take k).length ≤ 256 ^ 8 := Nat.pow_le_pow_right (by omega) (by rw [List.length_take]; omega)
    have h4 : (256 : Nat) ^ 8 = 18446744073709551616 := by decide
    simp only; omega
theorem rdMany_len (k least : Nat) (s : Rd) : (rdMany k least s).2.1.length ≤ s.1.length := by
  have h := rdGet_len k s
  unfold rdMany
  simp only
  split
  · exact h
  · exact h
theorem rdMany_le (k least : Nat) (s : Rd) : (rdMany k least s).1 ≤ s.1.length := by
  have h := rdGet_len k s
  unfold rdMany
  simp only
  split
  · simp
  · have := Nat.div_le_self (rdGet k s).2.1.length least
    omega

set_option maxHeartbeats 4000000 in
theorem many_any (R k least : Nat) (w : World) (s : Rd) (h : BxL R w s) (h1 : 1 ≤ k) (h8 : k ≤ 8) (l1 : 1 ≤ least) (l9 : least ≤ 9) (hl : s.1.length ≤ 60000) :
    Calls Try.prog 71 #[.pointer (some ⟨R, 0, none⟩), .int .i64 k, .int .i64 least] w fun e w' => e = .returned (.int .i64 ((rdMany k least s).1 : Nat)) ∧ Wb R w w' (rdMany k least s).2 := by
  have hG := get_any R k w s h h1 h8
  have h2 := rdGet_len k s
  have h3 := rdGet_lt s h8
  unfold rdMany
  generalize rdGet k s = g at hG h2 h3 ⊢
  obtain ⟨m, l, b⟩ := g
  simp only at hG h2 h3 ⊢
  obtain ⟨q, hq⟩ : ∃ q, l.length / least = q := ⟨_, rfl⟩
  have HQ : Hid (l.length / least = q) := hq
  have hq6 : q ≤ 60000 := by rw [← hq]; exact Nat.le_trans (Nat.div_le_self _ _) (by omega)
  have hl6 : l.length ≤ 60000 := by omega
  rw [hq]
  clear h2 hq
  by_cases hgt : q < m
  · rw [if_pos hgt]
    have hgz : (q : Int) < (m : Int) := by omega
    go_enter Try.func71, Try.ntmps71
    go_wp2_with (go_at_call 68; refine hG.mono ?_; rintro e w1 ⟨rfl, hW⟩; refine Hid.out ?_)
    refine hid ?_
    obtain ⟨a, n, c, hB⟩ := hW.rdr
    have hn : l.length = n := hB.len
    have c0 := hB.cell0
    have f1 := hB.frz 1
    have c1 := hB.cell1
    have hz : ¬ (least : Int) = 0 := by omega
    have hd1 : wrap64 ((n : Int) / (least : Int)) = (q : Int) := by
      have e : (n : Int) / (least : Int) = (q : Int) := by rw [← HQ.out, hn]; rfl
      rw [e]; unfold wrap64; omega
    have hd3 : IntKind.u64.wrap (q : Int) = (q : Int) := by rw [IntKind.wrap_u64]; omega
    have H : Aside (Wb R w (w1.setCell ⟨R, 1, none⟩ (.bool true)) (l, true)) := ⟨⟨a, n, c, hB.miss⟩, grown_trans hW.grown (grown_set1 _ _ _)⟩
    clear hG hW hB hn
    go_wp2
    go_ret
    exact ⟨rfl, H.out⟩
  · rw [if_neg hgt]
    have hgz : ¬ (q : Int) < (m : Int) := by omega
    go_enter Try.func71, Try.ntmps71
    go_wp2_with (go_at_call 68; refine hG.mono ?_; rintro e w1 ⟨rfl, hW⟩; refine Hid.out ?_)
    refine hid ?_
    obtain ⟨a, n, c, hB⟩ := hW.rdr
    have hn : l.length = n := hB.len
    have c0 := hB.cell0
    have hz : ¬ (least : Int) = 0 := by omega
    have hd1 : wrap64 ((n : Int) / (least : Int)) = (q : Int) := by
      have e : (n : Int) / (least : Int) = (q : Int) := by rw [← HQ.out, hn]; rfl
      rw [e]; unfold wrap64; omega
    have hd3 : IntKind.u64.wrap (q : Int) = (q : Int) := by rw [IntKind.wrap_u64]; omega
    have H : Aside (Wb R w w1 (l, b)) := hW
    clear hG hW hB hn
    go_wp2
    go_ret
    exact ⟨by first | rfl | (exact ret_int (by unfold wrap64; omega)), H.out⟩
end Go.Proofs.Ytlokamblbhooaaa.code
