/-
 The contracts of a frame's head and sum: headOf, count and tailOf.
 The contract of frame.first: what the frame at the front holds.
-/
import Derived.Test.YtlcjllgfpfldlaaGreatByteGrow
import Derived.Test.YtlcjllgfpfldlaaGreatWalZ06K
import Derived.Laws.Cover3
import Derived.Laws.StructEq
import Derived.Laws.Tables
import Derived.Laws.Cover2
set_option maxHeartbeats 8000000
open Go.ChangeShapes Go.WideShapes Go.ChangeAt Go.RowKit Go.Deep
set_option linter.unusedVariables false
set_option maxRecDepth 100000
namespace Go.Proofs.YtlcjllgfpfldlaaGreat
namespace frame
open bytes
open code (putB putB_len valB valB_put)
open sum (sumB sum_u32 sum2)
theorem bth_lt (l : List UInt8) (i : Nat) : 0 ≤ bth l i ∧ bth l i < 256 := by
 unfold bth
 have := (l.getD i 0).toNat_lt
 omega
theorem put3 (n : Nat) : bth (putB n 3) 0 = ((n / 65536 % 256 : Nat) : Int) ∧ bth (putB n 3) 1 = ((n / 256 % 256 : Nat) : Int) ∧ bth (putB n 3) 2 = ((n % 256 : Nat) : Int) := by
 refine ⟨?_, ?_, ?_⟩ <;> simp [bth, putB]
theorem put4 (n : Nat) : bth (putB n 4) 0 = ((n / 16777216 % 256 : Nat) : Int) ∧ bth (putB n 4) 1 = ((n / 65536 % 256 : Nat) : Int) ∧ bth (putB n 4) 2 = ((n / 256 % 256 : Nat) : Int) ∧ bth (putB n 4) 3 = ((n % 256 : Nat) : Int) := by
 refine ⟨?_, ?_, ?_, ?_⟩ <;> simp [bth, putB]
def hv (h : List UInt8) : Value := .agg #[.int .u8 (bth h 0), .int .u8 (bth h 1), .int .u8 (bth h 2)]
def tv (h : List UInt8) : Value := .agg #[.int .u8 (bth h 0), .int .u8 (bth h 1), .int .u8 (bth h 2), .int .u8 (bth h 3)]
theorem ret_v {a b : Value} (h : a = b) : Ending.returned a = .returned b := by rw [h]

theorem headOf_any (n c : Nat) (a : Option Addr) (w : World) (hn : n ≤ 60000) :
  Calls Tryz.prog 106 #[.slice a n c] w fun e w' => e = .returned (hv (putB n 3)) ∧ Below w.heap.size w w' := by
 go_enter Tryz.func106, Tryz.ntmps106
 go_wp2
 (try simp only [Exit.inBlock, Exit.then])
 refine bodyPost_ret (results_cell_row rfl _ _ w.heap.size 159 _ (0, 0) (.array 3 5) rfl (heap_alloc_new _ _) Tryz.underlying159 rfl (by kernel_rfl)) rfl ?_
 refine ⟨ret_v ?_, (Below.refl _ _).alloc (Nat.le_refl _) _⟩
 obtain ⟨h0, h1, h2⟩ := put3 n
 unfold hv
 rw [h0, h1, h2]
 have e0 : (n : Int) / 65536 = ((n / 65536 % 256 : Nat) : Int) := by omega
 have e1 : (n : Int) / 256 = ((n / 256 % 256 : Nat) : Int) := by omega
 have e2 : (n : Int) % 256 = ((n % 256 : Nat) : Int) := by omega
 rw [e0, e1, e2]

theorem or_i64 (x y k : Nat) (hx : x < 2 ^ k) (hk : y * 2 ^ k + x < 9223372036854775808) : bits .or .i64 ((y * 2 ^ k : Nat) : Int) (x : Int) = ((y * 2 ^ k + x : Nat) : Int) := by
 have h0 := Nat.two_pow_add_eq_or_of_lt (i := k) (b := x) hx y
 rw [Nat.mul_comm (2 ^ k) y] at h0
 have h1 : (BitVec.ofInt 64 ((y * 2 ^ k : Nat) : Int)).toNat = y * 2 ^ k := by
  rw [BitVec.ofInt_natCast, BitVec.toNat_ofNat]; exact Nat.mod_eq_of_lt (by omega)
 have h2 : (BitVec.ofInt 64 (x : Int)).toNat = x := by
  rw [BitVec.ofInt_natCast, BitVec.toNat_ofNat]; exact Nat.mod_eq_of_lt (by omega)
 show IntKind.i64.wrap ((BitVec.ofInt 64 ((y * 2 ^ k : Nat) : Int) ||| BitVec.ofInt 64 (x : Int)).toNat : Int) = _
 rw [BitVec.toNat_or, h1, h2, IntKind.wrap_i64, ← h0]
 omega
theorem valB3 {h : List UInt8} (hh : h.length = 3) : (valB h : Int) = bth h 0 * 65536 + bth h 1 * 256 + bth h 2 := by
 match h, hh with
 | [x, y, z], _ => simp [valB, bth]; omega
theorem count_any (h : List UInt8) (hh : h.length = 3) (w : World) :
  Calls Tryz.prog 110 #[hv h] w fun e w' => e = .returned (.int .i64 (valB h : Nat)) ∧ Below w.heap.size w w' := by
 have hV := valB3 hh
 unfold hv
 obtain ⟨x, hx⟩ : ∃ x : Nat, bth h 0 = x := ⟨_, rfl⟩
 obtain ⟨y, hy⟩ : ∃ y : Nat, bth h 1 = y := ⟨_, rfl⟩
 obtain ⟨z, hz⟩ : ∃ z : Nat, bth h 2 = z := ⟨_, rfl⟩
 have bx := bth_lt h 0
 have bY := bth_lt h 1
 have bz := bth_lt h 2
 rw [hx, hy, hz] at hV
 rw [hx] at bx
 rw [hy] at bY
 rw [hz] at bz
 rw [hx, hy, hz]
 have hx2 : x < 256 := by omega
 have hy2 : y < 256 := by omega
 have hz2 : z < 256 := by omega
 clear hx hy hz bx bY bz hh
 generalize valB h = v at hV ⊢
 have hO : Aside (bits .or .i64 (bits .or .i64 ((x : Int) * 65536) ((y : Int) * 256)) (z : Int) = (v : Int)) := by
  show _ = _
  have e1 := or_i64 (y * 256) x 16 (by omega) (by omega)
  have e2 := or_i64 z (x * 256 + y) 8 (by omega) (by omega)
  simp only [Nat.reducePow] at e1 e2
  rw [show ((x : Int) * 65536) = ((x * 65536 : Nat) : Int) by omega, show ((y : Int) * 256) = ((y * 256 : Nat) : Int) by omega, e1, show x * 65536 + y * 256 = (x * 256 + y) * 256 by omega, e2]
  omega
 clear hV
 go_enter Tryz.func110, Tryz.ntmps110
 go_wp2
 go_ret
 exact ⟨ret_v (by first | rfl | (rw [hO.out]; rfl)), (Below.refl _ _).alloc (Nat.le_refl _) _⟩

theorem tailOf_any (h : List UInt8) (hh : h.length = 3) (n c : Nat) (a : Option Addr) (l : List UInt8) (w : World) (hs : Sl w a n c l) :
  Calls Tryz.prog 107 #[hv h, .slice a n c] w fun e w' => e = .returned (tv (putB (sumB (h ++ l)) 4)) ∧ Below w.heap.size w w' := by
 obtain ⟨w2, hw2⟩ : ∃ w2, (w.alloc (.cells #[.int .u8 (bth h 0), .int .u8 (bth h 1), .int .u8 (bth h 2)] 159)).alloc (.cells #[.int .u8 0, .int .u8 0, .int .u8 0, .int .u8 0] 162) = w2 := ⟨_, rfl⟩
 have hb2 : Below w.heap.size w w2 := by rw [← hw2]; exact ((Below.refl _ _).alloc (Nat.le_refl _) _).alloc (by simp) _
 have hs2 : w2.heap.size = w.heap.size + 2 := by rw [← hw2]; simp
 have hbx : bytes.Boxed w2 w.heap.size #[.int .u8 (bth h 0), .int .u8 (bth h 1), .int .u8 (bth h 2)] 159 := by
  rw [← hw2]; exact (bytes.Boxed.new w _ _).below ((Below.refl _ _).alloc (Nat.le_refl _) _)
 have hbt : bytes.Boxed w2 (w.heap.size + 1) #[.int .u8 0, .int .u8 0, .int .u8 0, .int .u8 0] 162 := by
  rw [← hw2]
  have := bytes.Boxed.new (w.alloc (.cells #[.int .u8 (bth h 0), .int .u8 (bth h 1), .int .u8 (bth h 2)] 159)) #[.int .u8 0, .int .u8 0, .int .u8 0, .int .u8 0] 162
  rwa [World.size_alloc] at this
 have hS : Sl w2 (some ⟨w.heap.size, 0, none⟩) 3 3 h := by
  refine ⟨⟨.inr ⟨w.heap.size, 0, rfl, fun i hi => ?_⟩, fun _ p hp => by injection hp with hp; subst hp; show w.heap.size < _; omega, hh, Nat.le_refl _⟩, by omega⟩
  rw [Nat.zero_add]
  rw [hh] at hi
  match i, hi with
  | 0, _ => exact hbx.cell rfl
  | 1, _ => exact hbx.cell rfl
  | 2, _ => exact hbx.cell rfl
 have hC := sum2 hS (hs.keep hb2)
 have hT := put4 (sumB (h ++ l))
 have hu := sum_u32 (h ++ l)
 generalize sumB (h ++ l) = u at hC hT hu ⊢
 rw [← hw2] at hC
 simp only [World.size_alloc] at hC
 have H : Aside (Below w.heap.size w w2 ∧ bytes.Boxed w2 (w.heap.size + 1) #[.int .u8 0, .int .u8 0, .int .u8 0, .int .u8 0] 162 ∧ w2.heap.size = w.heap.size + 2) := ⟨hb2, hbt, hs2⟩
 have HT : Aside (tv (putB u 4) = .agg #[.int .u8 ((u : Int) / 16777216), .int .u8 ((u : Int) / 65536 % 256), .int .u8 ((u : Int) / 256 % 256), .int .u8 ((u : Int) % 256)]) := by
  show _ = _
  unfold tv
  obtain ⟨t0, t1, t2, t3⟩ := hT
  rw [t0, t1, t2, t3]
  rw [show (u : Int) / 16777216 = ((u / 16777216 % 256 : Nat) : Int) by omega, show (u : Int) / 65536 % 256 = ((u / 65536 % 256 : Nat) : Int) by omega, show (u : Int) / 256 % 256 = ((u / 256 % 256 : Nat) : Int) by omega, show (u : Int) % 256 = ((u % 256 : Nat) : Int) by omega]
 have HW : Hid (_ = w2) := hw2
 clear hT hb2 hbx hbt hS hs hw2
 unfold hv
 go_enter Tryz.func107, Tryz.ntmps107
 go_wp2_with (go_at_call 115; refine hC.mono ?_; rintro e w3 ⟨rfl, hb3⟩; refine Hid.out ?_)
 refine hid ?_
 have hb4 : Below w2.heap.size w2 w3 := by rw [← HW.out]; simpa using hb3
 have H2 : Aside (Below w.heap.size w w3) := H.out.1.trans (hb4.mono H.out.1.size)
 have hct := H.out.2.1.below hb4
 have c0 := hct.cell (j := 0) rfl
 have c1 := hct.cell (j := 1) rfl
 have c2 := hct.cell (j := 2) rfl
 have c3 := hct.cell (j := 3) rfl
 have f0 := hct.frz 0
 have f1 := hct.frz 1
 have f2 := hct.frz 2
 have f3 := hct.frz 3
 have HX : Aside (bytes.Boxed w3 (w.heap.size + 1) #[.int .u8 0, .int .u8 0, .int .u8 0, .int .u8 0] 162) := hct
 clear hct hb3 hb4 hC HW H
 go_wp2
 (try simp only [Exit.inBlock, Exit.then])
 have hP := (((HX.out.put 0 (.int .u8 ((u : Int) / 16777216))).put 1 (.int .u8 ((u : Int) / 65536 % 256))).put 2 (.int .u8 ((u : Int) / 256 % 256))).put 3 (.int .u8 ((u : Int) % 256))
 refine bodyPost_ret (results_cell_row rfl _ _ (w.heap.size + 1) 162 #[.int .u8 ((u : Int) / 16777216), .int .u8 ((u : Int) / 65536 % 256), .int .u8 ((u : Int) / 256 % 256), .int .u8 ((u : Int) % 256)] (0, 0) (.array 4 5) rfl hP Tryz.underlying162 rfl (by kernel_rfl)) rfl ?_
 refine ⟨ret_v HT.out.symm, ?_⟩
 exact (((H2.out.setCell (p := ⟨w.heap.size + 1, 0, none⟩) (by simp) _).setCell (p := ⟨w.heap.size + 1, 1, none⟩) (by simp) _).setCell (p := ⟨w.heap.size + 1, 2, none⟩) (by simp) _).setCell (p := ⟨w.heap.size + 1, 3, none⟩) (by simp) _
end frame
namespace frame
open bytes
open code (putB putB_len valB valB_put valB_lt)
open sum (sumB sum_u32)
set_option linter.unusedSimpArgs false
theorem valB_inj : ∀ {l k : List UInt8}, l.length = k.length → valB l = valB k → l = k
 | [], [], _, _ => rfl
 | [], _ :: _, h, _ => by simp at h
 | _ :: _, [], h, _ => by simp at h
 | x :: l, y :: k, h, e => by
  have hl : l.length = k.length := by simpa using h
  rw [code.valB_cons, code.valB_cons, ← hl] at e
  have h1 := valB_lt l
  have h2 := valB_lt k
  rw [← hl] at h2
  generalize 256 ^ l.length = p at e h1 h2
  have hp : 0 < p := by omega
  have ex : x.toNat = y.toNat := by
   have a1 : (x.toNat * p + valB l) / p = x.toNat := by rw [Nat.mul_comm, Nat.mul_add_div hp, Nat.div_eq_of_lt h1, Nat.add_zero]
   have a2 : (y.toNat * p + valB k) / p = y.toNat := by rw [Nat.mul_comm, Nat.mul_add_div hp, Nat.div_eq_of_lt h2, Nat.add_zero]
   rw [← a1, e, a2]
  have exy := UInt8.toNat_inj.1 ex
  subst exy
  rw [valB_inj hl (by omega)]
theorem putB_valB {h : List UInt8} (hh : h.length = 3) : putB (valB h) 3 = h := by
 refine valB_inj (by rw [putB_len, hh]) ?_
 rw [valB_put]
 have := valB_lt h
 rw [hh] at this
 exact Nat.mod_eq_of_lt this
theorem take_parts (l : List UInt8) (m : Nat) : l.take (m + 7) = l.take 3 ++ ((l.drop 3).take m ++ (l.drop (3 + m)).take 4) := by
 have e1 : l.take (m + 7) = (l.take (3 + m + 4)) := by congr 1; omega
 rw [e1, List.take_add, List.take_add, List.append_assoc]
theorem first_says {l hd : List UInt8} {m : Nat} (h3 : l.take 3 = hd) (hh : hd.length = 3) (hm : valB hd = m) (h0 : m + 7 ≤ l.length) (h1 : m ≤ 60000) :
  firstB l = if putB (sumB (hd ++ (l.drop 3).take m)) 4 = (l.drop (3 + m)).take 4 then some ((l.drop 3).take m) else none := by
 have hlen : ((l.drop 3).take m).length = m := by rw [List.length_take, List.length_drop]; omega
 unfold firstB
 rw [h3, hm, if_neg (by omega), if_neg (by omega), take_parts, h3]
 have e : wrapB ((l.drop 3).take m) = hd ++ ((l.drop 3).take m ++ putB (sumB (hd ++ (l.drop 3).take m)) 4) := by
  unfold wrapB headB
  rw [hlen, ← hm, putB_valB hh, List.append_assoc]
 rw [e]
 by_cases hp : putB (sumB (hd ++ (l.drop 3).take m)) 4 = (l.drop (3 + m)).take 4
 ·rw [if_pos hp, if_pos (by rw [hp])]
 ·rw [if_neg hp, if_neg (fun q => hp (List.append_cancel_left (List.append_cancel_left q)))]
theorem first_big {l hd : List UInt8} {m : Nat} (h3 : l.take 3 = hd) (hm : valB hd = m) (h : 60000 < m ∨ l.length < m + 7) : firstB l = none := by
 unfold firstB
 split
 ·rfl
 ·rw [h3, hm, if_pos (by omega)]
theorem four {t : List UInt8} (ht : t.length = 4) {u : List UInt8} (hu : u.length = 4) : t = u ↔ (bth u 0 = bth t 0 ∧ bth u 1 = bth t 1 ∧ bth u 2 = bth t 2 ∧ bth u 3 = bth t 3) := by
 match t, ht, u, hu with
 | [a, b, c, d], _, [p, q, r, s], _ =>
  simp only [List.cons.injEq, and_true, bth, List.getD_cons_zero, List.getD_cons_succ]
  constructor
  ·rintro ⟨rfl, rfl, rfl, rfl⟩; exact ⟨rfl, rfl, rfl, rfl⟩
  ·rintro ⟨h1, h2, h3, h4⟩
   exact ⟨UInt8.toNat_inj.1 (by omega), UInt8.toNat_inj.1 (by omega), UInt8.toNat_inj.1 (by omega), UInt8.toNat_inj.1 (by omega)⟩

theorem first_short_any (n c : Nat) (a : Option Addr) (w : World) (hn : n < 7) :
  Calls Tryz.prog 87 #[.slice a n c] w fun e w' => e = .returned (.tuple #[.slice none 0 0, .bool false]) ∧ w' = w := by
 have hz : (n : Int) < 7 := by omega
 go_enter Tryz.func87, Tryz.ntmps87
 go_wp2
 go_ret2
 exact ⟨rfl, rfl⟩

theorem seven_of {w w' : World} {a0 a1 a2 a3 a4 a5 a6 : Addr} {x0 x1 x2 x3 x4 x5 x6 : Value} (h : Below w.heap.size w w') (hr : w.cell? a0 = some x0 ∧ w.cell? a1 = some x1 ∧ w.cell? a2 = some x2 ∧ w.cell? a3 = some x3 ∧ w.cell? a4 = some x4 ∧ w.cell? a5 = some x5 ∧ w.cell? a6 = some x6) :
  Below w.heap.size w w' ∧ w'.cell? a0 = some x0 ∧ w'.cell? a1 = some x1 ∧ w'.cell? a2 = some x2 ∧ w'.cell? a3 = some x3 ∧ w'.cell? a4 = some x4 ∧ w'.cell? a5 = some x5 ∧ w'.cell? a6 = some x6 := by
 have k : ∀ {a : Addr} {x : Value}, w.cell? a = some x → w'.cell? a = some x := fun {a x} hx => (h.cell (World.block_lt_of_cell? w a hx)).trans hx
 obtain ⟨h0, h1, h2, h3, h4, h5, h6⟩ := hr
 exact ⟨h, k h0, k h1, k h2, k h3, k h4, k h5, k h6⟩
theorem eq_tail (a0 a1 a2 a3 c0 c1 c2 c3 : Int) (w : World) : (Op.equalIn 10000 162 (.agg #[.int .u8 a0, .int .u8 a1, .int .u8 a2, .int .u8 a3]) (.agg #[.int .u8 c0, .int .u8 c1, .int .u8 c2, .int .u8 c3])).run Tryz.prog w = .ok (a0 == c0 && (a1 == c1 && (a2 == c2 && a3 == c3))) w := by
 have u3 := Tryz.underlying5
 have a3' := Tryz.isAgg5
 have z3' := Tryz.sizeOf5
 rw [show (10000 : Nat) = 9999 + 1 from rfl, Op.equalIn]
 simp only [Sem.run_bind, run_underlying Tryz.underlying162, Result.andThen_ok]
 simp only [Std.Legacy.Range.forIn_eq_forIn_range', Std.Legacy.Range.size, Nat.sub_zero, Nat.add_sub_cancel, Nat.div_one, List.range'_succ, List.range'_zero, List.forIn_cons, List.forIn_nil]
 go_simp
 by_cases h1 : a0 = c0 <;> by_cases h2 : a1 = c1 <;> by_cases h3 : a2 = c2 <;> by_cases h4 : a3 = c3 <;> simp [h1, h2, h3, h4]
def firstV (a : Option Addr) : Option (List UInt8) → Value
 | none => .tuple #[.slice none 0 0, .bool false]
 | some x => .tuple #[.slice (shift a (3 + x.length) 3) x.length x.length, .bool true]
theorem first_any (n c : Nat) (a : Option Addr) (l : List UInt8) (w : World) (h : Sl w a n c l) :
  Calls Tryz.prog 87 #[.slice a n c] w fun e w' => e = .returned (firstV a (firstB l)) ∧ Below w.heap.size w w' := by
 have hl := h.at_.len
 by_cases h7 : n < 7
 ·have e : firstB l = none := by unfold firstB; rw [if_pos (by omega)]
  refine (first_short_any n c a w h7).mono ?_
  rintro e' w' ⟨rfl, rfl⟩
  rw [e]
  exact ⟨rfl, Below.refl _ _⟩
 have hz : ¬ (n : Int) < 7 := by omega
 obtain ⟨b, off, ha, hc⟩ := h.at_.mem.get (by omega)
 subst ha
 have c0 := hc 0 (by omega)
 have c1 := hc 1 (by omega)
 have c2 := hc 2 (by omega)
 have hd3 : (l.take 3).length = 3 := by rw [List.length_take]; omega
 have t0 : bth l 0 = bth (l.take 3) 0 := (bth_take (by omega)).symm
 have t1 : bth l 1 = bth (l.take 3) 1 := (bth_take (by omega)).symm
 have t2 : bth l 2 = bth (l.take 3) 2 := (bth_take (by omega)).symm
 rw [t0] at c0
 rw [t1] at c1
 rw [t2] at c2
 clear t0 t1 t2
 have hV : valB (l.take 3) < 16777216 := by have := valB_lt (l.take 3); rw [hd3, p3] at this; exact this
 obtain ⟨hd, hhd⟩ : ∃ hd, l.take 3 = hd := ⟨_, rfl⟩
 have hcnt := fun w => count_any (l.take 3) hd3 w
 rw [hhd] at c0 c1 c2 hcnt hV
 unfold hv at hcnt
 have H : Aside (Sl w (some ⟨b, off, none⟩) n c l ∧ l.take 3 = hd ∧ hd.length = 3) := ⟨h, hhd, by rw [← hhd]; exact hd3⟩
 have hcap := h.at_.cap
 have hmx := h.max
 clear h hl hc hd3 hhd
 simp only [Nat.add_zero] at c0
 obtain ⟨m, hm⟩ : ∃ m, valB hd = m := ⟨_, rfl⟩
 rw [hm] at hV hcnt
 have HM : Hid (valB hd = m) := hm
 clear hm
 have hat3 := fun (a : Option Addr) (cap : Nat) (w : World) => run_arrayAt (P := Tryz.prog) w 159 _ 3 a 3 cap Tryz.underlying159 (by omega)
 have hat4 := fun (a : Option Addr) (cap : Nat) (w : World) => run_arrayAt (P := Tryz.prog) w 162 _ 4 a 4 cap Tryz.underlying162 (by omega)
 go_enter Tryz.func87, Tryz.ntmps87
 go_upto_region 4 with fail
 have hw1 : ∃ w1, w.alloc (.cells #[.int .u8 (bth hd 0), .int .u8 (bth hd 1), .int .u8 (bth hd 2)] 159) = w1 := ⟨_, rfl⟩
 obtain ⟨w1, hw1⟩ := hw1
 have hx1 : bytes.Boxed w1 w.heap.size #[.int .u8 (bth hd 0), .int .u8 (bth hd 1), .int .u8 (bth hd 2)] 159 := by rw [← hw1]; exact bytes.Boxed.new _ _ _
 have hb1 : Below w.heap.size w w1 := by rw [← hw1]; exact (Below.refl _ _).alloc (Nat.le_refl _) _
 rw [hw1]
 clear hw1 c0 c1 c2
 have H1 : Aside (bytes.Boxed w1 w.heap.size #[.int .u8 (bth hd 0), .int .u8 (bth hd 1), .int .u8 (bth hd 2)] 159 ∧ Below w.heap.size w w1) := ⟨hx1, hb1⟩
 have d0 := hx1.cell (j := 0) rfl
 have d1 := hx1.cell (j := 1) rfl
 have d2 := hx1.cell (j := 2) rfl
 simp only [List.getElem_toArray, List.getElem_cons_zero, List.getElem_cons_succ] at d0 d1 d2
 clear hx1 hb1
 go_upto_region 5 with (go_at_call 110; refine (hcnt _).mono ?_; rintro e w2 ⟨rfl, hb2⟩; refine Hid.out ?_)
 refine hid ?_
 have H2 : Aside (bytes.Boxed w2 w.heap.size #[.int .u8 (bth hd 0), .int .u8 (bth hd 1), .int .u8 (bth hd 2)] 159 ∧ Below w.heap.size w w2 ∧ Sl w2 (some ⟨b, off, none⟩) n c l) := by
  have hb3 := H1.out.2.trans (hb2.mono H1.out.2.size)
  exact ⟨H1.out.1.below hb2, hb3, H.out.1.keep hb3⟩
 clear H1 hb2 d0 d1 d2 hcnt
 by_cases hm1 : 60000 < m
 ·have hmz : (60000 : Int) < (m : Int) := by omega
  go_wp2
  go_ret2
  refine ⟨ret_v ?_, H2.out.2.1⟩
  rw [first_big H.out.2.1 HM.out (.inl hm1)]
  rfl
 have hmz : ¬ (60000 : Int) < (m : Int) := by omega
 by_cases hm2 : n < m + 7
 ·have hmy : (n : Int) - 3 - 4 < (m : Int) := by omega
  go_wp2
  go_ret2
  refine ⟨ret_v ?_, H2.out.2.1⟩
  rw [first_big H.out.2.1 HM.out (.inr (by rw [H.out.1.at_.len]; exact hm2))]
  rfl
 have hmy : ¬ (n : Int) - 3 - 4 < (m : Int) := by omega
 have HF : Hid (firstB l = _) := first_says H.out.2.1 H.out.2.2 HM.out (by rw [H.out.1.at_.len]; omega) (by omega)
 have e33 : 3 + m - 3 = m := by omega
 go_upto_region 9 with fail
 have hav : shift (some ⟨b, off, none⟩) (3 + m) 3 = (if 3 + m = 3 then some ⟨b, off, none⟩ else some ⟨b, off + 3, none⟩) := by
  unfold shift
  split
  ·rfl
  ·simp [addr_add]
 have hSl : Sl w2 (shift (some ⟨b, off, none⟩) (3 + m) 3) m m ((l.drop 3).take m) := by
  have := (H2.out.2.2.cut (3 + m) (by omega)).back 3 (by omega)
  rw [e33] at this
  rwa [show (l.take (3 + m)).drop 3 = (l.drop 3).take m by rw [List.drop_take, e33]] at this
 rw [hav] at hSl
 generalize (if 3 + m = 3 then some (⟨b, off, none⟩ : Addr) else some ⟨b, off + 3, none⟩) = av at hav hSl ⊢
 rw [e33]
 obtain ⟨q, hq⟩ : ∃ q, 3 + m = q := ⟨_, rfl⟩
 rw [show (3 + (m : Int)) = (q : Int) by omega]
 have hlen := H.out.1.at_.len
 have hu4 : ((l.drop (3 + m)).take 4).length = 4 := by rw [List.length_take, List.length_drop]; omega
 obtain ⟨b', off', ha', hcc⟩ := H2.out.2.2.at_.mem.get (by omega)
 simp only [Option.some.injEq, Addr.mk.injEq, and_true] at ha'
 obtain ⟨rfl, rfl⟩ := ha'
 have r0 := hcc q (by omega)
 have r1 := hcc (q + 1) (by omega)
 have r2 := hcc (q + 2) (by omega)
 have r3 := hcc (q + 3) (by omega)
 simp only [← Nat.add_assoc] at r1 r2 r3
 have u0 : bth ((l.drop (3 + m)).take 4) 0 = bth l q := by rw [bth_take (by omega), bth_drop, hq]; rfl
 have u1 : bth ((l.drop (3 + m)).take 4) 1 = bth l (q + 1) := by rw [bth_take (by omega), bth_drop, hq]
 have u2 : bth ((l.drop (3 + m)).take 4) 2 = bth l (q + 2) := by rw [bth_take (by omega), bth_drop, hq]
 have u3 : bth ((l.drop (3 + m)).take 4) 3 = bth l (q + 3) := by rw [bth_take (by omega), bth_drop, hq]
 have hT4 := putB_len (sumB (hd ++ (l.drop 3).take m)) 4
 have hI := four hT4 hu4
 rw [u0, u1, u2, u3] at hI
 have hC : ∀ W, Below w2.heap.size w2 W → Calls Tryz.prog 107 #[.agg #[.int .u8 (bth hd 0), .int .u8 (bth hd 1), .int .u8 (bth hd 2)], .slice av m m] W fun e w' => e = .returned (tv (putB (sumB (hd ++ (l.drop 3).take m)) 4)) ∧ Aside (Below w2.heap.size w2 w') := fun W hb =>
  (tailOf_any hd H.out.2.2 m m av ((l.drop 3).take m) W (hSl.keep hb)).mono fun e w' ⟨g1, g2⟩ => ⟨g1, hb.trans (g2.mono hb.size)⟩
 unfold tv at hC
 have hheld : ((l.drop 3).take m).length = m := by rw [List.length_take, List.length_drop]; omega
 have HZ : Aside (firstV (some ⟨b, off, none⟩) (firstB l) = if (bth l q = bth (putB (sumB (hd ++ (l.drop 3).take m)) 4) 0 ∧ bth l (q + 1) = bth (putB (sumB (hd ++ (l.drop 3).take m)) 4) 1 ∧ bth l (q + 2) = bth (putB (sumB (hd ++ (l.drop 3).take m)) 4) 2 ∧ bth l (q + 3) = bth (putB (sumB (hd ++ (l.drop 3).take m)) 4) 3) then .tuple #[.slice av m m, .bool true] else .tuple #[.slice none 0 0, .bool false]) := by
  show _ = _
  rw [HF.out]
  by_cases hp : putB (sumB (hd ++ (l.drop 3).take m)) 4 = (l.drop (3 + m)).take 4
  ·rw [if_pos hp, if_pos (hI.1 hp)]
   show Value.tuple #[.slice (shift (some ⟨b, off, none⟩) (3 + ((l.drop 3).take m).length) 3) ((l.drop 3).take m).length ((l.drop 3).take m).length, .bool true] = _
   rw [hheld, hav]
  ·rw [if_neg hp, if_neg (fun h => hp (hI.2 h))]
   rfl
 have HB2 : Aside (Below w.heap.size w w2) := H2.out.2.1
 have k0 := H2.out.1.cell (j := 0) rfl
 have k1 := H2.out.1.cell (j := 1) rfl
 have k2 := H2.out.1.cell (j := 2) rfl
 simp only [List.getElem_toArray, List.getElem_cons_zero, List.getElem_cons_succ] at k0 k1 k2
 have hqn : q + 4 ≤ n := by omega
 clear hav hSl hcc u0 u1 u2 u3 hI hT4 hu4 hlen hheld H2 HF HM H h7 hV hm1 hmz hm2 hmy e33 hq hat3
 generalize bth (putB (sumB (hd ++ (l.drop 3).take m)) 4) 0 = y0 at hC HZ
 generalize bth (putB (sumB (hd ++ (l.drop 3).take m)) 4) 1 = y1 at hC HZ
 generalize bth (putB (sumB (hd ++ (l.drop 3).take m)) 4) 2 = y2 at hC HZ
 generalize bth (putB (sumB (hd ++ (l.drop 3).take m)) 4) 3 = y3 at hC HZ
 generalize bth l q = x0 at r0 HZ
 generalize bth l (q + 1) = x1 at r1 HZ
 generalize bth l (q + 2) = x2 at r2 HZ
 generalize bth l (q + 3) = x3 at r3 HZ
 generalize bth hd 0 = z0 at hC k0 ⊢
 generalize bth hd 1 = z1 at hC k1 ⊢
 generalize bth hd 2 = z2 at hC k2 ⊢
 have hcq : ¬ c = q := by omega
 have hcq2 : q ≤ c := by omega
 have b1 : (q : Int) + 4 ≤ (n : Int) := by omega
 have b2 : (0 : Int) ≤ (q : Int) := by omega
 have b5 : IntKind.i64.wrap ((q : Int) + 4) = ((q + 4 : Nat) : Int) := by rw [IntKind.wrap_i64]; omega
 have b6 : (q : Int) + 4 ≤ (c : Int) := by omega
 have b7 : (q : Int) ≤ (q : Int) + 4 := by omega
 have b8 : (0 : Int) ≤ (q : Int) + 4 := by omega
 have e44 : q + 4 - q = 4 := by omega
 have e45 : ((q : Int) + 4).toNat - q = 4 := by omega
 have heq := fun (w : World) => eq_tail x0 x1 x2 x3 y0 y1 y2 y3 w
 have HR : Aside (w2.cell? ⟨b, off + q, none⟩ = some (.int .u8 x0) ∧ w2.cell? ⟨b, off + q + 1, none⟩ = some (.int .u8 x1) ∧ w2.cell? ⟨b, off + q + 2, none⟩ = some (.int .u8 x2) ∧ w2.cell? ⟨b, off + q + 3, none⟩ = some (.int .u8 x3) ∧ w2.cell? ⟨w.heap.size, 0, none⟩ = some (.int .u8 z0) ∧ w2.cell? ⟨w.heap.size, 1, none⟩ = some (.int .u8 z1) ∧ w2.cell? ⟨w.heap.size, 2, none⟩ = some (.int .u8 z2)) := ⟨r0, r1, r2, r3, k0, k1, k2⟩
 go_region_held3 (fun w' => Below w2.heap.size w2 w' ∧ w'.cell? ⟨b, off + q, none⟩ = some (.int .u8 x0) ∧ w'.cell? ⟨b, off + q + 1, none⟩ = some (.int .u8 x1) ∧ w'.cell? ⟨b, off + q + 2, none⟩ = some (.int .u8 x2) ∧ w'.cell? ⟨b, off + q + 3, none⟩ = some (.int .u8 x3) ∧ w'.cell? ⟨w.heap.size, 0, none⟩ = some (.int .u8 z0) ∧ w'.cell? ⟨w.heap.size, 1, none⟩ = some (.int .u8 z1) ∧ w'.cell? ⟨w.heap.size, 2, none⟩ = some (.int .u8 z2))
  (first | with_reducible assumption | (refine seven_of ?_ HR.out; first | with_reducible exact hw3.out | (with_reducible exact (Below.refl _ _).drew)))
  ((go_at_call 107; with_reducible refine (hC _ ?_).mono ?_; (focus (apply And.left; assumption)); rintro e w3 ⟨rfl, hw3⟩))
 all_goals
  by_cases hz : x0 = y0 ∧ x1 = y1 ∧ x2 = y2 ∧ x3 = y3
  ·have hZ := HZ.out
   rw [if_pos hz] at hZ
   obtain ⟨rfl, rfl, rfl, rfl⟩ := hz
   clear HZ
   have HZ2 : Aside (_ = _) := hZ
   clear hZ
   simp only [beq_self_eq_true, Bool.not_true, Bool.or_self, Bool.or_false, Bool.false_or]
   go_wp2
   go_ret2
   exact ⟨ret_v HZ2.out.symm, HB2.out.trans (hw3.out.mono HB2.out.size)⟩
  ·have hZ := HZ.out
   rw [if_neg hz] at hZ
   have hB : (!x0 == y0 || (!x1 == y1 || (!x2 == y2 || !x3 == y3))) = true := by
    simp
    omega
   rw [hB]
   clear HZ hB
   have HZ2 : Aside (_ = _) := hZ
   clear hZ hz
   go_wp2
   go_ret2
   exact ⟨ret_v HZ2.out.symm, HB2.out.trans (hw3.out.mono HB2.out.size)⟩
end frame
end Go.Proofs.YtlcjllgfpfldlaaGreat
