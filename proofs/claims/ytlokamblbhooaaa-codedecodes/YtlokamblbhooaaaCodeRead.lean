/-
  Numbers read: the program's read at each of its types.
-/
import Derived.Test.YtlokamblbhooaaaCodeTake
namespace Go.Proofs.Ytlokamblbhooaaa.code
open Go.ChangeShapes Go.WideShapes Go.ChangeAt Go.RowKit Go.Deep
open Go.Proofs.Ytlokamblbhooaaa.dims (nth Ints cell_lt vals vals_len vals_get vals_one vals_app own_below own_mono own_out own_apart RowOut ret_bool ret_int)
set_option linter.unusedVariables false
set_option maxRecDepth 100000

set_option maxHeartbeats 4000000 in
theorem read_u8 (R n c : Nat) (w : World) (a : Option Addr) (l : List UInt8) (h : Rdr R w a n c l) (k : Nat) (h1 : 1 ≤ k) (h8 : k ≤ 1) (hk : k ≤ n) :
    Calls Try.prog 57 #[.pointer (some ⟨R, 0, none⟩), .int .i64 k] w fun e w' => e = .returned (.int .u8 ((valB (l.take k) : Nat) : Int)) ∧ Went R w w' (l.drop k) := by
  have hT := take_ok R n c k w a l h hk h1
  have hl := h.len
  obtain ⟨b, off, ha, hcc⟩ := h.mem.get (by omega)
  subst ha
  have hlow : b < R := h.low (by rintro rfl; simp at hl; omega) _ rfl
  have HLEN : Hid (l.length = n) := hl
  go_enter Try.func57, Try.ntmps57
  go_wp2_with (go_at_call 75; refine hT.mono ?_; rintro e w1 ⟨rfl, hR1⟩; refine Hid.out ?_)
  refine hid ?_
  have HC : Aside (∀ i, i < k → w1.cell? ⟨b, off + i, none⟩ = some (.int .u8 (bth l i))) := fun i hi => by
    exact hR1.grown.cell (a := ⟨b, off + i, none⟩) (hcc i (by omega)) (by simp only [ne_eq, Option.some.injEq]; omega)
  have HG : Aside (Went R w w1 (l.drop k)) := hR1
  clear hT hcc hR1 h hl
  go_wp2_with fail
  go_loopg [5, 12] k (fun g1 vv vi wr => ∃ (i v : Nat), vi = .int .i64 i ∧ i ≤ k ∧ k - i ≤ g1 ∧ Aside (wr = w1) ∧ vv = .int .u64 (v : Nat) ∧ Aside (v = valB (l.take i)))
  case atStart => exact ⟨0, 0, rfl, Nat.zero_le _, Nat.le_refl _, rfl, rfl, rfl⟩
  case round =>
    obtain ⟨i, v, rfl, hi, hg1, HW, rfl, HV⟩ := hrel
    have hww := HW.out
    subst hww
    have hbnd : Aside (v < 256 ^ i) := by
      have h2 := valB_lt (l.take i)
      rw [List.length_take, Nat.min_eq_left (by have := HLEN.out; omega), ← HV.out] at h2
      exact h2
    by_cases hlt : i < k
    · have hltz : (i : Int) < (k : Int) := by omega
      have r0 := HC.out i hlt
      obtain ⟨x, hx⟩ : ∃ x : Nat, (l.getD i 0).toNat = x := ⟨_, rfl⟩
      have hx2 : x < 256 := by rw [← hx]; exact UInt8.toNat_lt _
      have HX : Hid ((l.getD i 0).toNat = x) := hx
      unfold bth at r0
      rw [hx] at r0
      have hv2 : v * 256 + x < 18446744073709551616 := by
        have h3 : 256 ^ i ≤ 256 ^ 7 := Nat.pow_le_pow_right (by omega) (by omega)
        have h4 : (256 : Nat) ^ 7 = 72057594037927936 := by decide
        have := hbnd.out
        omega
      have hor := byte_or v x hx2 hv2
      have hor2 := byte_or2 v x hx2 hv2
      clear hx
      go_wp2
      go_roundg (k - (i + 1))
      case measure => omega
      case rel =>
        refine ⟨i + 1, v * 256 + x, by go_num, by omega, by omega, rfl, ?_, ?_⟩
        · first | rfl | (rw [hor]) | (rw [hor2]) | (congr 1; omega) | (simp; omega)
        · show _ = _
          rw [valB_take (by have := HLEN.out; omega), ← HV.out, HX.out]
    · have hltz : ¬ (i : Int) < (k : Int) := by omega
      obtain rfl : i = k := by omega
      have hbv : v < 256 ^ 1 := Nat.lt_of_lt_of_le hbnd.out (Nat.pow_le_pow_right (by omega) h8)
      go_wp2
      go_ret
      refine ⟨?_, HG.out⟩
      rw [← HV.out]
      have e : (v : Int) % 256 = v := by omega
      first | rfl | (rw [e]) | (simp [IntKind.wrap, IntKind.signed, IntKind.bits]; omega)

set_option maxHeartbeats 4000000 in
theorem read_u32 (R n c : Nat) (w : World) (a : Option Addr) (l : List UInt8) (h : Rdr R w a n c l) (k : Nat) (h1 : 1 ≤ k) (h8 : k ≤ 4) (hk : k ≤ n) :
    Calls Try.prog 58 #[.pointer (some ⟨R, 0, none⟩), .int .i64 k] w fun e w' => e = .returned (.int .u32 ((valB (l.take k) : Nat) : Int)) ∧ Went R w w' (l.drop k) := by
  have hT := take_ok R n c k w a l h hk h1
  have hl := h.len
  obtain ⟨b, off, ha, hcc⟩ := h.mem.get (by omega)
  subst ha
  have hlow : b < R := h.low (by rintro rfl; simp at hl; omega) _ rfl
  have HLEN : Hid (l.length = n) := hl
  go_enter Try.func58, Try.ntmps58
  go_wp2_with (go_at_call 75; refine hT.mono ?_; rintro e w1 ⟨rfl, hR1⟩; refine Hid.out ?_)
  refine hid ?_
  have HC : Aside (∀ i, i < k → w1.cell? ⟨b, off + i, none⟩ = some (.int .u8 (bth l i))) := fun i hi => by
    exact hR1.grown.cell (a := ⟨b, off + i, none⟩) (hcc i (by omega)) (by simp only [ne_eq, Option.some.injEq]; omega)
  have HG : Aside (Went R w w1 (l.drop k)) := hR1
  clear hT hcc hR1 h hl
  go_wp2_with fail
  go_loopg [5, 12] k (fun g1 vv vi wr => ∃ (i v : Nat), vi = .int .i64 i ∧ i ≤ k ∧ k - i ≤ g1 ∧ Aside (wr = w1) ∧ vv = .int .u64 (v : Nat) ∧ Aside (v = valB (l.take i)))
  case atStart => exact ⟨0, 0, rfl, Nat.zero_le _, Nat.le_refl _, rfl, rfl, rfl⟩
  case round =>
    obtain ⟨i, v, rfl, hi, hg1, HW, rfl, HV⟩ := hrel
    have hww := HW.out
    subst hww
    have hbnd : Aside (v < 256 ^ i) := by
      have h2 := valB_lt (l.take i)
      rw [List.length_take, Nat.min_eq_left (by have := HLEN.out; omega), ← HV.out] at h2
      exact h2
    by_cases hlt : i < k
    · have hltz : (i : Int) < (k : Int) := by omega
      have r0 := HC.out i hlt
      obtain ⟨x, hx⟩ : ∃ x : Nat, (l.getD i 0).toNat = x := ⟨_, rfl⟩
      have hx2 : x < 256 := by rw [← hx]; exact UInt8.toNat_lt _
      have HX : Hid ((l.getD i 0).toNat = x) := hx
      unfold bth at r0
      rw [hx] at r0
      have hv2 : v * 256 + x < 18446744073709551616 := by
        have h3 : 256 ^ i ≤ 256 ^ 7 := Nat.pow_le_pow_right (by omega) (by omega)
        have h4 : (256 : Nat) ^ 7 = 72057594037927936 := by decide
        have := hbnd.out
        omega
      have hor := byte_or v x hx2 hv2
      have hor2 := byte_or2 v x hx2 hv2
      clear hx
      go_wp2
      go_roundg (k - (i + 1))
      case measure => omega
      case rel =>
        refine ⟨i + 1, v * 256 + x, by go_num, by omega, by omega, rfl, ?_, ?_⟩
        · first | rfl | (rw [hor]) | (rw [hor2]) | (congr 1; omega) | (simp; omega)
        · show _ = _
          rw [valB_take (by have := HLEN.out; omega), ← HV.out, HX.out]
    · have hltz : ¬ (i : Int) < (k : Int) := by omega
      obtain rfl : i = k := by omega
      have hbv : v < 256 ^ 4 := Nat.lt_of_lt_of_le hbnd.out (Nat.pow_le_pow_right (by omega) h8)
      go_wp2
      go_ret
      refine ⟨?_, HG.out⟩
      rw [← HV.out]
      have e : (v : Int) % 4294967296 = v := by omega
      first | rfl | (rw [e]) | (simp [IntKind.wrap, IntKind.signed, IntKind.bits]; omega)

set_option maxHeartbeats 4000000 in
theorem read_int (R n c : Nat) (w : World) (a : Option Addr) (l : List UInt8) (h : Rdr R w a n c l) (k : Nat) (h1 : 1 ≤ k) (h8 : k ≤ 4) (hk : k ≤ n) :
    Calls Try.prog 65 #[.pointer (some ⟨R, 0, none⟩), .int .i64 k] w fun e w' => e = .returned (.int .i64 ((valB (l.take k) : Nat) : Int)) ∧ Went R w w' (l.drop k) := by
  have hT := take_ok R n c k w a l h hk h1
  have hl := h.len
  obtain ⟨b, off, ha, hcc⟩ := h.mem.get (by omega)
  subst ha
  have hlow : b < R := h.low (by rintro rfl; simp at hl; omega) _ rfl
  have HLEN : Hid (l.length = n) := hl
  go_enter Try.func65, Try.ntmps65
  go_wp2_with (go_at_call 75; refine hT.mono ?_; rintro e w1 ⟨rfl, hR1⟩; refine Hid.out ?_)
  refine hid ?_
  have HC : Aside (∀ i, i < k → w1.cell? ⟨b, off + i, none⟩ = some (.int .u8 (bth l i))) := fun i hi => by
    exact hR1.grown.cell (a := ⟨b, off + i, none⟩) (hcc i (by omega)) (by simp only [ne_eq, Option.some.injEq]; omega)
  have HG : Aside (Went R w w1 (l.drop k)) := hR1
  clear hT hcc hR1 h hl
  go_wp2_with fail
  go_loopg [5, 12] k (fun g1 vv vi wr => ∃ (i v : Nat), vi = .int .i64 i ∧ i ≤ k ∧ k - i ≤ g1 ∧ Aside (wr = w1) ∧ vv = .int .u64 (v : Nat) ∧ Aside (v = valB (l.take i)))
  case atStart => exact ⟨0, 0, rfl, Nat.zero_le _, Nat.le_refl _, rfl, rfl, rfl⟩
  case round =>
    obtain ⟨i, v, rfl, hi, hg1, HW, rfl, HV⟩ := hrel
    have hww := HW.out
    subst hww
    have hbnd : Aside (v < 256 ^ i) := by
      have h2 := valB_lt (l.take i)
      rw [List.length_take, Nat.min_eq_left (by have := HLEN.out; omega), ← HV.out] at h2
      exact h2
    by_cases hlt : i < k
    · have hltz : (i : Int) < (k : Int) := by omega
      have r0 := HC.out i hlt
      obtain ⟨x, hx⟩ : ∃ x : Nat, (l.getD i 0).toNat = x := ⟨_, rfl⟩
      have hx2 : x < 256 := by rw [← hx]; exact UInt8.toNat_lt _
      have HX : Hid ((l.getD i 0).toNat = x) := hx
      unfold bth at r0
      rw [hx] at r0
      have hv2 : v * 256 + x < 18446744073709551616 := by
        have h3 : 256 ^ i ≤ 256 ^ 7 := Nat.pow_le_pow_right (by omega) (by omega)
        have h4 : (256 : Nat) ^ 7 = 72057594037927936 := by decide
        have := hbnd.out
        omega
      have hor := byte_or v x hx2 hv2
      have hor2 := byte_or2 v x hx2 hv2
      clear hx
      go_wp2
      go_roundg (k - (i + 1))
      case measure => omega
      case rel =>
        refine ⟨i + 1, v * 256 + x, by go_num, by omega, by omega, rfl, ?_, ?_⟩
        · first | rfl | (rw [hor]) | (rw [hor2]) | (congr 1; omega) | (simp; omega)
        · show _ = _
          rw [valB_take (by have := HLEN.out; omega), ← HV.out, HX.out]
    · have hltz : ¬ (i : Int) < (k : Int) := by omega
      obtain rfl : i = k := by omega
      have hbv : v < 256 ^ 4 := Nat.lt_of_lt_of_le hbnd.out (Nat.pow_le_pow_right (by omega) h8)
      go_wp2
      go_ret
      refine ⟨?_, HG.out⟩
      rw [← HV.out]
      first | rfl | (simp [IntKind.wrap, IntKind.signed, IntKind.bits]; omega) | (congr 2; unfold wrap64; omega) | (congr 2; rw [IntKind.wrap_i64]; omega)

set_option maxHeartbeats 4000000 in
theorem read_int64 (R n c : Nat) (w : World) (a : Option Addr) (l : List UInt8) (h : Rdr R w a n c l) (k : Nat) (h1 : 1 ≤ k) (h8 : k ≤ 8) (hk : k ≤ n) :
    Calls Try.prog 77 #[.pointer (some ⟨R, 0, none⟩), .int .i64 k] w fun e w' => e = .returned (.int .i64 (asI64 (valB (l.take k)))) ∧ Went R w w' (l.drop k) := by
  have hT := take_ok R n c k w a l h hk h1
  have hl := h.len
  obtain ⟨b, off, ha, hcc⟩ := h.mem.get (by omega)
  subst ha
  have hlow : b < R := h.low (by rintro rfl; simp at hl; omega) _ rfl
  have HLEN : Hid (l.length = n) := hl
  go_enter Try.func77, Try.ntmps77
  go_wp2_with (go_at_call 75; refine hT.mono ?_; rintro e w1 ⟨rfl, hR1⟩; refine Hid.out ?_)
  refine hid ?_
  have HC : Aside (∀ i, i < k → w1.cell? ⟨b, off + i, none⟩ = some (.int .u8 (bth l i))) := fun i hi => by
    exact hR1.grown.cell (a := ⟨b, off + i, none⟩) (hcc i (by omega)) (by simp only [ne_eq, Option.some.injEq]; omega)
  have HG : Aside (Went R w w1 (l.drop k)) := hR1
  clear hT hcc hR1 h hl
  go_wp2_with fail
  go_loopg [5, 12] k (fun g1 vv vi wr => ∃ (i v : Nat), vi = .int .i64 i ∧ i ≤ k ∧ k - i ≤ g1 ∧ Aside (wr = w1) ∧ vv = .int .u64 (v : Nat) ∧ Aside (v = valB (l.take i)))
  case atStart => exact ⟨0, 0, rfl, Nat.zero_le _, Nat.le_refl _, rfl, rfl, rfl⟩
  case round =>
    obtain ⟨i, v, rfl, hi, hg1, HW, rfl, HV⟩ := hrel
    have hww := HW.out
    subst hww
    have hbnd : Aside (v < 256 ^ i) := by
      have h2 := valB_lt (l.take i)
      rw [List.length_take, Nat.min_eq_left (by have := HLEN.out; omega), ← HV.out] at h2
      exact h2
    by_cases hlt : i < k
    · have hltz : (i : Int) < (k : Int) := by omega
      have r0 := HC.out i hlt
      obtain ⟨x, hx⟩ : ∃ x : Nat, (l.getD i 0).toNat = x := ⟨_, rfl⟩
      have hx2 : x < 256 := by rw [← hx]; exact UInt8.toNat_lt _
      have HX : Hid ((l.getD i 0).toNat = x) := hx
      unfold bth at r0
      rw [hx] at r0
      have hv2 : v * 256 + x < 18446744073709551616 := by
        have h3 : 256 ^ i ≤ 256 ^ 7 := Nat.pow_le_pow_right (by omega) (by omega)
        have h4 : (256 : Nat) ^ 7 = 72057594037927936 := by decide
        have := hbnd.out
        omega
      have hor := byte_or v x hx2 hv2
      have hor2 := byte_or2 v x hx2 hv2
      clear hx
      go_wp2
      go_roundg (k - (i + 1))
      case measure => omega
      case rel =>
        refine ⟨i + 1, v * 256 + x, by go_num, by omega, by omega, rfl, ?_, ?_⟩
        · first | rfl | (rw [hor]) | (rw [hor2]) | (congr 1; omega) | (simp; omega)
        · show _ = _
          rw [valB_take (by have := HLEN.out; omega), ← HV.out, HX.out]
    · have hltz : ¬ (i : Int) < (k : Int) := by omega
      obtain rfl : i = k := by omega
      have hbv : v < 256 ^ 8 := Nat.lt_of_lt_of_le hbnd.out (Nat.pow_le_pow_right (by omega) h8)
      go_wp2
      go_ret
      refine ⟨?_, HG.out⟩
      rw [← HV.out]
      have e8 : (256 : Nat) ^ 8 = 18446744073709551616 := by decide
      rw [← wrap_asI64 (v := v) (by omega)]
      rfl

set_option maxHeartbeats 4000000 in
theorem miss_u8 (R n c : Nat) (w : World) (a : Option Addr) (l : List UInt8) (h : Rdr R w a n c l) (k : Nat) (h8 : k ≤ 8) (hk : n < k) :
    Calls Try.prog 57 #[.pointer (some ⟨R, 0, none⟩), .int .i64 k] w fun e w' => (∃ m, e = .panicked [{ v := .iface 74 (.int .i64 m), recovered := false }]) ∧ w' = w := by
  have hT := take_bad R n c k w a l h hk h8
  clear h
  go_enter Try.func57, Try.ntmps57
  go_wp2_with (go_at_call 75; refine hT.mono ?_; rintro e w1 ⟨⟨m, rfl⟩, rfl⟩)
  exact ⟨rfl, ⟨_, rfl⟩, rfl⟩

set_option maxHeartbeats 4000000 in
theorem miss_u32 (R n c : Nat) (w : World) (a : Option Addr) (l : List UInt8) (h : Rdr R w a n c l) (k : Nat) (h8 : k ≤ 8) (hk : n < k) :
    Calls Try.prog 58 #[.pointer (some ⟨R, 0, none⟩), .int .i64 k] w fun e w' => (∃ m, e = .panicked [{ v := .iface 74 (.int .i64 m), recovered := false }]) ∧ w' = w := by
  have hT := take_bad R n c k w a l h hk h8
  clear h
  go_enter Try.func58, Try.ntmps58
  go_wp2_with (go_at_call 75; refine hT.mono ?_; rintro e w1 ⟨⟨m, rfl⟩, rfl⟩)
  exact ⟨rfl, ⟨_, rfl⟩, rfl⟩

set_option maxHeartbeats 4000000 in
theorem miss_int (R n c : Nat) (w : World) (a : Option Addr) (l : List UInt8) (h : Rdr R w a n c l) (k : Nat) (h8 : k ≤ 8) (hk : n < k) :
    Calls Try.prog 65 #[.pointer (some ⟨R, 0, none⟩), .int .i64 k] w fun e w' => (∃ m, e = .panicked [{ v := .iface 74 (.int .i64 m), recovered := false }]) ∧ w' = w := by
  have hT := take_bad R n c k w a l h hk h8
  clear h
  go_enter Try.func65, Try.ntmps65
  go_wp2_with (go_at_call 75; refine hT.mono ?_; rintro e w1 ⟨⟨m, rfl⟩, rfl⟩)
  exact ⟨rfl, ⟨_, rfl⟩, rfl⟩

set_option maxHeartbeats 4000000 in
theorem miss_int64 (R n c : Nat) (w : World) (a : Option Addr) (l : List UInt8) (h : Rdr R w a n c l) (k : Nat) (h8 : k ≤ 8) (hk : n < k) :
    Calls Try.prog 77 #[.pointer (some ⟨R, 0, none⟩), .int .i64 k] w fun e w' => (∃ m, e = .panicked [{ v := .iface 74 (.int .i64 m), recovered := false }]) ∧ w' = w := by
  have hT := take_bad R n c k w a l h hk h8
  clear h
  go_enter Try.func77, Try.ntmps77
  go_wp2_with (go_at_call 75; refine hT.mono ?_; rintro e w1 ⟨⟨m, rfl⟩, rfl⟩)
  exact ⟨rfl, ⟨_, rfl⟩, rfl⟩
end Go.Proofs.Ytlokamblbhooaaa.code
