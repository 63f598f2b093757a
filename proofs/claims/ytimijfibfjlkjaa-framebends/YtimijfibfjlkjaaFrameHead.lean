/-
  The contracts of a frame's head and sum: headOf, count and tailOf.
-/
import Derived.Test.YtimijfibfjlkjaaByteGrow
import Derived.Test.YtimijfibfjlkjaaFrameMath
import Derived.Test.YtimijfibfjlkjaaSumKnown
namespace Go.Proofs.Ytimijfibfjlkjaa.frame
open Go.ChangeShapes Go.WideShapes Go.ChangeAt Go.RowKit Go.Deep
open Go.Proofs.Ytimijfibfjlkjaa.bytes
open Go.Proofs.Ytimijfibfjlkjaa.code (putB putB_len putB_append valB valB_put)
open Go.Proofs.Ytimijfibfjlkjaa.sum (sumB sum_u32 sum2)
set_option linter.unusedVariables false
set_option maxRecDepth 100000

theorem bth_lt (l : List UInt8) (i : Nat) : 0 ≤ bth l i ∧ bth l i < 256 := by
  unfold bth
  have := (l.getD i 0).toNat_lt
  omega
theorem put3 (n : Nat) : bth (putB n 3) 0 = ((n / 65536 % 256 : Nat) : Int) ∧ bth (putB n 3) 1 = ((n / 256 % 256 : Nat) : Int) ∧ bth (putB n 3) 2 = ((n % 256 : Nat) : Int) := by
  refine ⟨?_, ?_, ?_⟩ <;> simp [bth, putB]
theorem put4 (n : Nat) : bth (putB n 4) 0 = ((n / 16777216 % 256 : Nat) : Int) ∧ bth (putB n 4) 1 = ((n / 65536 % 256 : Nat) : Int) ∧ bth (putB n 4) 2 = ((n / 256 % 256 : Nat) : Int) ∧ bth (putB n 4) 3 = ((n % 256 : Nat) : Int) := by
  refine ⟨?_, ?_, ?_, ?_⟩ <;> simp [bth, putB]
def hv (h : List UInt8) : Value := .agg #[.int .u8 (bth h 0), .int .u8 (bth h 1), .int .u8 (bth h 2)]
def tv (h : List UInt8) : Value := .agg #[.int .u8 (bth h 0), .int .u8 (bth h 1), .int .u8 (bth h 2), .int .u8 (bth h 3)]
theorem ret_v {a b : Value} (h : a = b) : Ending.returned a = .returned b := by rw [h]

set_option maxHeartbeats 1000000 in
theorem headOf_any (n c : Nat) (a : Option Addr) (w : World) (hn : n ≤ 60000) :
    Calls Try.prog 17 #[.slice a n c] w fun e w' => e = .returned (hv (putB n 3)) ∧ Below w.heap.size w w' := by
  go_enter Try.func17, Try.ntmps17
  go_wp2
  (try simp only [Exit.inBlock, Exit.then])
  refine bodyPost_ret (results_cell_row rfl _ _ w.heap.size 42 _ (0, 0) (.array 3 5) rfl (heap_alloc_new _ _) Try.underlying42 rfl (by kernel_rfl)) rfl ?_
  refine ⟨ret_v ?_, (Below.refl _ _).alloc (Nat.le_refl _) _⟩
  obtain ⟨h0, h1, h2⟩ := put3 n
  unfold hv
  rw [h0, h1, h2]
  have e0 : (n : Int) / 65536 = ((n / 65536 % 256 : Nat) : Int) := by omega
  have e1 : (n : Int) / 256 = ((n / 256 % 256 : Nat) : Int) := by omega
  have e2 : (n : Int) % 256 = ((n % 256 : Nat) : Int) := by omega
  rw [e0, e1, e2]

theorem or_i64 (x y k : Nat) (hx : x < 2 ^ k) (hk : y * 2 ^ k + x < 9223372036854775808) : bits .or .i64 ((y * 2 ^ k : Nat) : Int) (x : Int) = ((y * 2 ^ k + x : Nat) : Int) := by
  have h0 := Nat.two_pow_add_eq_or_of_lt (i := k) (b := x) hx y
  rw [Nat.mul_comm (2 ^ k) y] at h0
  have h1 : (BitVec.ofInt 64 ((y * 2 ^ k : Nat) : Int)).toNat = y * 2 ^ k := by
    rw [BitVec.ofInt_natCast, BitVec.toNat_ofNat]; exact Nat.mod_eq_of_lt (by omega)
  have h2 : (BitVec.ofInt 64 (x : Int)).toNat = x := by
    rw [BitVec.ofInt_natCast, BitVec.toNat_ofNat]; exact Nat.mod_eq_of_lt (by omega)
  show IntKind.i64.wrap ((BitVec.ofInt 64 ((y * 2 ^ k : Nat) : Int) ||| BitVec.ofInt 64 (x : Int)).toNat : Int) = _
  rw [BitVec.toNat_or, h1, h2, IntKind.wrap_i64, ← h0]
  omega
theorem valB3 {h : List UInt8} (hh : h.length = 3) : (valB h : Int) = bth h 0 * 65536 + bth h 1 * 256 + bth h 2 := by
  match h, hh with
  | [x, y, z], _ => simp [valB, bth]; omega
set_option maxHeartbeats 1000000 in
theorem count_any (h : List UInt8) (hh : h.length = 3) (w : World) :
    Calls Try.prog 32 #[hv h] w fun e w' => e = .returned (.int .i64 (valB h : Nat)) ∧ Below w.heap.size w w' := by
  have hV := valB3 hh
  unfold hv
  obtain ⟨x, hx⟩ : ∃ x : Nat, bth h 0 = x := ⟨_, rfl⟩
  obtain ⟨y, hy⟩ : ∃ y : Nat, bth h 1 = y := ⟨_, rfl⟩
  obtain ⟨z, hz⟩ : ∃ z : Nat, bth h 2 = z := ⟨_, rfl⟩
  have bx := bth_lt h 0
  have bY := bth_lt h 1
  have bz := bth_lt h 2
  rw [hx, hy, hz] at hV
  rw [hx] at bx
  rw [hy] at bY
  rw [hz] at bz
  rw [hx, hy, hz]
  have hx2 : x < 256 := by omega
  have hy2 : y < 256 := by omega
  have hz2 : z < 256 := by omega
  clear hx hy hz bx bY bz hh
  generalize valB h = v at hV ⊢
  have hO : Aside (bits .or .i64 (bits .or .i64 ((x : Int) * 65536) ((y : Int) * 256)) (z : Int) = (v : Int)) := by
    show _ = _
    have e1 := or_i64 (y * 256) x 16 (by omega) (by omega)
    have e2 := or_i64 z (x * 256 + y) 8 (by omega) (by omega)
    simp only [Nat.reducePow] at e1 e2
    rw [show ((x : Int) * 65536) = ((x * 65536 : Nat) : Int) by omega, show ((y : Int) * 256) = ((y * 256 : Nat) : Int) by omega, e1, show x * 65536 + y * 256 = (x * 256 + y) * 256 by omega, e2]
    omega
  clear hV
  go_enter Try.func32, Try.ntmps32
  go_wp2
  go_ret
  exact ⟨ret_v (by first | rfl | (rw [hO.out]; rfl)), (Below.refl _ _).alloc (Nat.le_refl _) _⟩

set_option maxHeartbeats 2000000 in
theorem tailOf_any (h : List UInt8) (hh : h.length = 3) (n c : Nat) (a : Option Addr) (l : List UInt8) (w : World) (hs : Sl w a n c l) :
    Calls Try.prog 18 #[hv h, .slice a n c] w fun e w' => e = .returned (tv (putB (sumB (h ++ l)) 4)) ∧ Below w.heap.size w w' := by
  obtain ⟨w2, hw2⟩ : ∃ w2, (w.alloc (.cells #[.int .u8 (bth h 0), .int .u8 (bth h 1), .int .u8 (bth h 2)] 42)).alloc (.cells #[.int .u8 0, .int .u8 0, .int .u8 0, .int .u8 0] 45) = w2 := ⟨_, rfl⟩
  have hb2 : Below w.heap.size w w2 := by rw [← hw2]; exact ((Below.refl _ _).alloc (Nat.le_refl _) _).alloc (by simp) _
  have hs2 : w2.heap.size = w.heap.size + 2 := by rw [← hw2]; simp
  have hbx : Boxed w2 w.heap.size #[.int .u8 (bth h 0), .int .u8 (bth h 1), .int .u8 (bth h 2)] 42 := by
    rw [← hw2]; exact (Boxed.new w _ _).below ((Below.refl _ _).alloc (Nat.le_refl _) _)
  have hbt : Boxed w2 (w.heap.size + 1) #[.int .u8 0, .int .u8 0, .int .u8 0, .int .u8 0] 45 := by
    rw [← hw2]
    have := Boxed.new (w.alloc (.cells #[.int .u8 (bth h 0), .int .u8 (bth h 1), .int .u8 (bth h 2)] 42)) #[.int .u8 0, .int .u8 0, .int .u8 0, .int .u8 0] 45
    rwa [World.size_alloc] at this
  have hS : Sl w2 (some ⟨w.heap.size, 0, none⟩) 3 3 h := by
    refine ⟨⟨.inr ⟨w.heap.size, 0, rfl, fun i hi => ?_⟩, fun _ p hp => by injection hp with hp; subst hp; show w.heap.size < _; omega, hh, Nat.le_refl _⟩, by omega⟩
    rw [Nat.zero_add]
    rw [hh] at hi
    match i, hi with
    | 0, _ => exact hbx.cell rfl
    | 1, _ => exact hbx.cell rfl
    | 2, _ => exact hbx.cell rfl
  have hC := sum2 hS (hs.keep hb2)
  have hT := put4 (sumB (h ++ l))
  have hu := sum_u32 (h ++ l)
  generalize sumB (h ++ l) = u at hC hT hu ⊢
  rw [← hw2] at hC
  simp only [World.size_alloc] at hC
  have H : Aside (Below w.heap.size w w2 ∧ Boxed w2 (w.heap.size + 1) #[.int .u8 0, .int .u8 0, .int .u8 0, .int .u8 0] 45 ∧ w2.heap.size = w.heap.size + 2) := ⟨hb2, hbt, hs2⟩
  have HT : Aside (tv (putB u 4) = .agg #[.int .u8 ((u : Int) / 16777216), .int .u8 ((u : Int) / 65536 % 256), .int .u8 ((u : Int) / 256 % 256), .int .u8 ((u : Int) % 256)]) := by
    show _ = _
    unfold tv
    obtain ⟨t0, t1, t2, t3⟩ := hT
    rw [t0, t1, t2, t3]
    rw [show (u : Int) / 16777216 = ((u / 16777216 % 256 : Nat) : Int) by omega, show (u : Int) / 65536 % 256 = ((u / 65536 % 256 : Nat) : Int) by omega, show (u : Int) / 256 % 256 = ((u / 256 % 256 : Nat) : Int) by omega, show (u : Int) % 256 = ((u % 256 : Nat) : Int) by omega]
  have HW : Hid (_ = w2) := hw2
  clear hT hb2 hbx hbt hS hs hw2
  unfold hv
  go_enter Try.func18, Try.ntmps18
  go_wp2_with (go_at_call 25; refine hC.mono ?_; rintro e w3 ⟨rfl, hb3⟩; refine Hid.out ?_)
  refine hid ?_
  have hb4 : Below w2.heap.size w2 w3 := by rw [← HW.out]; simpa using hb3
  have H2 : Aside (Below w.heap.size w w3) := H.out.1.trans (hb4.mono H.out.1.size)
  have hct := H.out.2.1.below hb4
  have c0 := hct.cell (j := 0) rfl
  have c1 := hct.cell (j := 1) rfl
  have c2 := hct.cell (j := 2) rfl
  have c3 := hct.cell (j := 3) rfl
  have f0 := hct.frz 0
  have f1 := hct.frz 1
  have f2 := hct.frz 2
  have f3 := hct.frz 3
  have HX : Aside (Boxed w3 (w.heap.size + 1) #[.int .u8 0, .int .u8 0, .int .u8 0, .int .u8 0] 45) := hct
  clear hct hb3 hb4 hC HW H
  go_wp2
  (try simp only [Exit.inBlock, Exit.then])
  have hP := (((HX.out.put 0 (.int .u8 ((u : Int) / 16777216))).put 1 (.int .u8 ((u : Int) / 65536 % 256))).put 2 (.int .u8 ((u : Int) / 256 % 256))).put 3 (.int .u8 ((u : Int) % 256))
  refine bodyPost_ret (results_cell_row rfl _ _ (w.heap.size + 1) 45 #[.int .u8 ((u : Int) / 16777216), .int .u8 ((u : Int) / 65536 % 256), .int .u8 ((u : Int) / 256 % 256), .int .u8 ((u : Int) % 256)] (0, 0) (.array 4 5) rfl hP Try.underlying45 rfl (by kernel_rfl)) rfl ?_
  refine ⟨ret_v HT.out.symm, ?_⟩
  exact (((H2.out.setCell (p := ⟨w.heap.size + 1, 0, none⟩) (by simp) _).setCell (p := ⟨w.heap.size + 1, 1, none⟩) (by simp) _).setCell (p := ⟨w.heap.size + 1, 2, none⟩) (by simp) _).setCell (p := ⟨w.heap.size + 1, 3, none⟩) (by simp) _
end Go.Proofs.Ytimijfibfjlkjaa.frame
