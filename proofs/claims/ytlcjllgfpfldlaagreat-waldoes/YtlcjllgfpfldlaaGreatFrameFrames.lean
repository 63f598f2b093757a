/-
 The contracts of frame.frames and of the function that it tells of the frames with.
-/
import Derived.RangeFuncNested
import Derived.RangeFuncBound
import Derived.RangeFuncCalls
import Derived.RangeFuncLeaves
import Derived.Shelf.Abstract
import Derived.Shelf.RegionOpen
import Derived.OwnWalkIn
import Derived.TacticsInMore
import Derived.LoopNIn
import Derived.LoopIn
import Derived.Test.YtlcjllgfpfldlaaGreatWalZ07K
set_option maxHeartbeats 4000000
open Go.ChangeShapes Go.WideShapes Go.ChangeAt Go.RowKit Go.Deep Go.Shelf
set_option linter.unusedVariables false
set_option maxRecDepth 100000
set_option linter.unusedSimpArgs false
namespace Go.Proofs.YtlcjllgfpfldlaaGreat
namespace frame
open bytes
abbrev Fr (n : Nat) : Type := { x : Nat × Nat // x.1 + x.2 + 7 ≤ n }
def heldB (l : List UInt8) {n : Nat} (x : Fr n) : List UInt8 := (l.drop (x.1.1 + 3)).take x.1.2
def held (a : Option Addr) (c : Nat) {n : Nat} (x : Fr n) : Option Addr := shift (shift a c x.1.1) (3 + x.1.2) 3
def encs (a : Option Addr) (c : Nat) {n : Nat} (x : Fr n) : Array Value := #[.slice (held a c x) x.1.2 x.1.2, .int .i64 ((x.1.1 + x.1.2 + 7 : Nat) : Int)]
def endOf {n : Nat} (xs : List (Fr n)) : Nat := xs.foldl (fun _ x => x.1.1 + x.1.2 + 7) 0
theorem endOf_snoc {n : Nat} (xs : List (Fr n)) (x : Fr n) : endOf (xs ++ [x]) = x.1.1 + x.1.2 + 7 := by simp [endOf]
theorem held_sl {w : World} {a : Option Addr} {n c : Nat} {l : List UInt8} (h : Sl w a n c l) (x : Fr n) : Sl w (held a c x) x.1.2 x.1.2 (heldB l x) := by
 have hx := x.2
 have h1 := ((h.back x.1.1 (by omega)).cut (3 + x.1.2) (by omega)).back 3 (by omega)
 have e : 3 + x.1.2 - 3 = x.1.2 := by omega
 rw [e, List.drop_take, e, List.drop_drop] at h1
 exact h1
structure Told (l : List UInt8) {n : Nat} (pre : List (Fr n)) (k : Nat) : Prop where
 le : k ≤ n
 end_ : endOf pre = k
 len : (rowsB (pre.map (heldB l))).length = k
 all : pre.map (heldB l) ++ scanB (l.drop k) = scanB l
theorem Told.start (l : List UInt8) (n : Nat) : Told l ([] : List (Fr n)) 0 := ⟨Nat.zero_le _, rfl, rfl, by simp⟩
theorem Told.count {l : List UInt8} {n : Nat} {pre : List (Fr n)} {k : Nat} (h : Told l pre k) : pre.length < n + 1 := by
 have h1 : pre.length ≤ (rowsB (pre.map (heldB l))).length := by
  clear h
  induction pre with
  | nil => simp
  | cons x pre ih =>
   have : rowsB ((x :: pre).map (heldB l)) = wrapB (heldB l x) ++ rowsB (pre.map (heldB l)) := by simp [rowsB]
   rw [this, List.length_append, wrapB_len, List.length_cons]
   omega
 have := h.len
 have := h.le
 omega
theorem Told.step {l : List UInt8} {n : Nat} (hl : l.length = n) {pre : List (Fr n)} {k : Nat} (h : Told l pre k) {x : List UInt8} (hx : firstB (l.drop k) = some x) :
  ∃ hb : k + x.length + 7 ≤ n, heldB l (⟨(k, x.length), hb⟩ : Fr n) = x ∧ Told l (pre ++ [⟨(k, x.length), hb⟩]) (k + x.length + 7) := by
 obtain ⟨h1, h2, h3⟩ := first_some hx
 rw [List.length_drop, hl] at h3
 have hle := h.le
 have hb : k + x.length + 7 ≤ n := by omega
 have hh : heldB l (⟨(k, x.length), hb⟩ : Fr n) = x := by
  unfold heldB
  show (l.drop (k + 3)).take x.length = x
  rw [← List.drop_drop, h2]
  exact wrap_mid _
 refine ⟨hb, hh, hb, endOf_snoc _ _, ?_, ?_⟩
 ·rw [List.map_append, List.map_cons, List.map_nil, hh]
  have : rowsB (pre.map (heldB l) ++ [x]) = rowsB (pre.map (heldB l)) ++ wrapB x := by simp [rowsB]
  rw [this, List.length_append, h.len, wrapB_len]; omega
 ·rw [List.map_append, List.map_cons, List.map_nil, hh, ← h.all, scan_some hx, List.drop_drop, List.append_assoc]
  rfl
theorem Told.done {l : List UInt8} {n : Nat} {pre : List (Fr n)} {k : Nat} (h : Told l pre k) (hx : firstB (l.drop k) = none) : pre.map (heldB l) = scanB l ∧ endOf pre = (rowsB (scanB l)).length := by
 have h1 := h.all
 rw [scan_none hx, List.append_nil] at h1
 exact ⟨h1, by rw [← h1, h.len, h.end_]⟩

def Keeps (n₀ B : Nat) (v : Value) (W W' : World) : Prop := Below n₀ W W' ∧ (Go.Boxed W B 54 v → Go.Boxed W' B 54 v)
theorem keeps_t {n₀ B : Nat} {v : Value} {W1 W2 W3 : World} (h : Keeps n₀ B v W1 W2) (k : Keeps n₀ B v W2 W3) : Keeps n₀ B v W1 W3 := ⟨h.1.trans k.1, fun q => k.2 (h.2 q)⟩
theorem keeps_b {n₀ B : Nat} {v : Value} {w : World} (hn : n₀ ≤ w.heap.size) (hB : B < w.heap.size) (W : World) (l : Nat) (o o' : Obj) (hl : w.heap.size ≤ l) (h : W.heap[l]? = some o) (hc : o.isCells = false) (hw : o.isWalk = false) : Keeps n₀ B v W (W.putObj l o') :=
 ⟨belowK_b hn W l o o' hl h hc hw, fun q => q.kept (grownBy_putObj' W l o') (fun e => by injection e with e; omega)⟩

attribute [local go_sem] Oper.semAt_some

theorem frames_in (n c : Nat) (a : Option Addr) (w : World) :
  Calls Tryz.prog 69 #[.slice a n c] w fun e w' => e = .returned (.func (.func 86) #[] #[.pointer (some ⟨w.heap.size, 0, none⟩)]) ∧ w' = w.alloc (.cells #[.slice a n c] 54) := by
 go_enter Tryz.func69, Tryz.ntmps69
 go_wp2
 go_ret
 exact ⟨rfl, rfl⟩
set_option maxRecDepth 100000 in
theorem frames1_in (d : Nat) (n c B n₀ li : Nat) (a : Option Addr) (l : List UInt8) (J Jx : List (Fr n) → World → Prop) (hl : l.length = n) (hn : n ≤ 1000000000000) (hd : 1 ≤ d)
  (W : World) (hS : Sl W a n c l) (hlow : l ≠ [] → ∀ p, a = some p → p.block < n₀) (hB : Go.Boxed W B 54 (.slice a n c))
  (hY : ∀ pre (x : Fr n) W1, J pre W1 → pre.length < n + 1 → YieldAt Fence.wide (d - 1) Tryz.prog li (encs a c x) W1 fun e W' =>
   (e = .returned (.bool true) ∧ J (pre ++ [x]) W' ∧ Keeps n₀ B (.slice a n c) W1 W') ∨ (e = .returned (.bool false) ∧ Jx (pre ++ [x]) W'))
  (hJ : ∀ pre W1 W2, J pre W1 → Below W1.heap.size W1 W2 → J pre W2) (h0 : J [] W) :
  CallsIn Fence.wide d Tryz.prog 86 #[.func (.yield li) #[] #[], .pointer (some ⟨B, 0, none⟩)] W fun e W' => (∃ v, e = .returned v) ∧
   ((∃ xs, (xs.map (heldB l) = scanB l ∧ endOf xs = (rowsB (scanB l)).length) ∧ J xs W') ∨ (∃ pre, True ∧ Jx pre W')) := by
 refine callsIn_of_wp Tryz.func86 rfl trivial ?_ rfl
 simp only [Tryz.ntmps86, List.size_toArray, List.length_cons, List.length_nil, Nat.reduceAdd, Nat.reduceSub, Array.replicate_succ, Array.replicate_zero, List.push_toArray, List.append_toArray, List.nil_append, List.cons_append]
 gi_wp2
 gi_loopw [3, 4, 5] (fun p q r wr => ∃ (pre : List (Fr n)) (k : Nat), p = .int .i64 k ∧ Told l pre k ∧ Sl wr a n c l ∧ Go.Boxed wr B 54 (.slice a n c) ∧ J pre wr)
  (fun p q r wr => n - (intOf p).toNat)
 case atStart => exact ⟨[], 0, rfl, Told.start _ _, hS, hB, h0⟩
 case round =>
  obtain ⟨pre, k, rfl, hT, hs, hb, hJs⟩ := hrel
  have hc := hb.cell
  have hkn := hT.le
  have hF := (callsIn_wide (n := d - 1)).2 (first_any (n - k) (c - k) (shift a c k) (l.drop k) wr (hs.back k hkn))
  have hkz : (k : Int) ≤ (n : Int) := by omega
  have hcap := hs.at_.cap
  have hkc : k ≤ c := by omega
  have hkcz : (k : Int) ≤ (c : Int) := by omega
  cases hx : firstB (l.drop k) with
  | none =>
   rw [hx] at hF
   unfold firstV shift at hF
   have HD : Aside (_ ∧ _) := hT.done hx
   have HH : Aside (∀ w2, Below wr.heap.size wr w2 → J pre w2) := fun w2 h => hJ _ _ _ hJs h
   clear hT hx hs hb hJs hY hJ h0
   by_cases hck : c = k
   ·rw [if_pos hck] at hF
    subst hck
    rw [show n - c = 0 by omega, Nat.sub_self] at hF
    gi_wp2_with (refine ⟨trivial, ?_⟩; gi_at_call 87; refine hF.mono ?_; rintro e w2 ⟨rfl, hb2⟩)
    refine bodyPost_ret (results_none rfl _ _ _) rfl ?_
    exact ⟨⟨_, rfl⟩, .inl ⟨pre, HD.out, HH.out w2 hb2⟩⟩
   ·rw [if_neg hck] at hF
    gi_wp2_with (refine ⟨trivial, ?_⟩; gi_at_call 87; refine hF.mono ?_; rintro e w2 ⟨rfl, hb2⟩)
    refine bodyPost_ret (results_none rfl _ _ _) rfl ?_
    exact ⟨⟨_, rfl⟩, .inl ⟨pre, HD.out, HH.out w2 hb2⟩⟩
  | some x =>
   rw [hx] at hF
   simp only [firstV] at hF
   obtain ⟨hb7, hhe, hT2⟩ := hT.step hl hx
   have hck : ¬ c = k := by omega
   have HH : Aside (∀ w2, Below wr.heap.size wr w2 → J pre w2) := fun w2 h => hJ _ _ _ hJs h
   have hsh : shift a c k = a.map fun x => x.add k := by unfold shift; rw [if_neg hck]
   rw [hsh] at hF
   have hE : encs a c (⟨(k, x.length), hb7⟩ : Fr n) = #[.slice (shift (a.map fun x => x.add k) (3 + x.length) 3) x.length x.length, .int .i64 ((k : Int) + (3 + (x.length : Int) + 4))] := by
    unfold encs held
    rw [hsh]
    simp only [Array.mk.injEq, List.cons.injEq, and_true, Value.int.injEq, true_and]
    omega
   obtain ⟨X, hX⟩ : ∃ X : Fr n, (⟨(k, x.length), hb7⟩ : Fr n) = X := ⟨_, rfl⟩
   rw [hX] at hE hT2
   obtain ⟨q, hq⟩ : ∃ q, shift (a.map fun x => x.add k) (3 + x.length) 3 = q := ⟨_, rfl⟩
   rw [hq] at hF hE
   have hx1 : k + x.length + 7 ≤ n := hb7
   obtain ⟨m, hm⟩ : ∃ m, x.length = m := ⟨_, rfl⟩
   rw [hm] at hF hE hx1 hT2
   have hcnt := hT.count
   have hl0 : ∀ w2, Below wr.heap.size wr w2 → YieldAt Fence.wide (d - 1) Tryz.prog li #[.slice q m m, .int .i64 ((k : Int) + (3 + (m : Int) + 4))] w2 fun e W' =>
     (e = .returned (.bool true) ∧ J (pre ++ [X]) W' ∧ Keeps n₀ B (.slice a n c) w2 W') ∨ (e = .returned (.bool false) ∧ Jx (pre ++ [X]) W') := fun w2 hb2 => by
    have := hY pre X w2 (HH.out w2 hb2) hcnt
    rwa [hE] at this
   have HG : Aside (∀ w2 W3, Below wr.heap.size wr w2 → Keeps n₀ B (.slice a n c) w2 W3 → Sl W3 a n c l ∧ Go.Boxed W3 B 54 (.slice a n c)) := fun w2 W3 hb2 hk => by
    refine ⟨(hs.keep hb2).low_keep hlow hk.1, hk.2 (Go.Boxed.kept (row := .none) hb ⟨hb2.os, hb2.tape, hb2.output, hb2.size, fun i hi _ => hb2.block i hi⟩ (by simp))⟩
   have HT2 : Aside (Told l (pre ++ [X]) (k + m + 7)) := hT2
   clear hT hx hs hb hJs hY hJ h0 hE hT2 hhe hX hsh HH hcnt hq hm
   gi_wp2_with (refine ⟨trivial, ?_⟩; gi_at_call 87; refine hF.mono ?_; rintro e w2 ⟨rfl, hb2⟩; obtain ⟨fn, tmps, assign, body, hy, hR⟩ := hl0 w2 hb2)
   refine hR.mono ?_
   rintro e W3 (⟨rfl, hJ3, hk3⟩ | ⟨rfl, hJx3⟩)
   ·have HG2 := HG.out w2 W3 hb2 hk3
    have HG3 : Aside (_ ∧ _) := HG2
    clear HG2 hk3 hR hy hl0 HG
    gi_wp2
    go_roundw
    case rel => exact ⟨pre ++ [X], k + m + 7, by go_num, HT2.out, HG3.out.1, HG3.out.2, hJ3⟩
    case measure => simp [intOf]; omega
   ·clear hR hy hl0 HG
    gi_wp2
    refine bodyPost_ret (results_none rfl _ _ _) rfl ?_
    exact ⟨⟨_, rfl⟩, .inr ⟨pre ++ [X], trivial, hJx3⟩⟩
end frame
end Go.Proofs.YtlcjllgfpfldlaaGreat
