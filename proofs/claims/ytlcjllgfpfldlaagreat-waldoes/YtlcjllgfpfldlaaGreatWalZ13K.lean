/-
 A disk in memory: its box, its row of bytes; what a call on it may change; two disks side by side.
 The contracts of the store's lay, force, leave and loose.
 The contracts of Halt, Halted, New and call; of what Append, Sync and Cut hand on.
-/
import Derived.Test.YtlcjllgfpfldlaaGreatByteGrow
import Derived.Test.YtlcjllgfpfldlaaGreatDiskMath
set_option maxHeartbeats 2000000
open Go.ChangeShapes Go.WideShapes Go.ChangeAt Go.RowKit Go.Deep
set_option linter.unusedVariables false
set_option maxRecDepth 100000
set_option linter.unusedSimpArgs false
namespace Go.Proofs.YtlcjllgfpfldlaaGreat
namespace disk
open bytes
theorem ret_i64 {a b : Int} (h : a = b) : Ending.returned (.int .i64 a) = .returned (.int .i64 b) := by rw [h]

theorem below_dn (B : Nat) (w : World) (n : Nat) : Below B w (w.drewN n) := ⟨rfl, rfl, rfl, Nat.le_refl _, fun _ _ => rfl⟩

/-! ### what a call on a disk may change: the disk's box, its row, new memory -/
structure Gd (k : Nat) (w : World) (v : Value) (w' : World) (v' : Value) : Prop where
 os : w'.os = w.os
 tape : w'.tape = w.tape
 output : w'.output = w.output
 size : w.heap.size ≤ w'.heap.size
 same : ∀ i, i < w.heap.size → i ≠ k → some i ≠ v.ownBlock → w'.heap[i]? = w.heap[i]?
 row : ∀ g, v'.ownBlock = some g → v.ownBlock = some g ∨ w.heap.size ≤ g
theorem Gd.refl (k : Nat) (w : World) (v : Value) : Gd k w v w v := ⟨rfl, rfl, rfl, Nat.le_refl _, fun _ _ _ _ => rfl, fun g h => .inl h⟩
theorem Gd.trans {k : Nat} {w w1 w2 : World} {v v1 v2 : Value} (h : Gd k w v w1 v1) (h2 : Gd k w1 v1 w2 v2) : Gd k w v w2 v2 := by
 refine ⟨h2.os.trans h.os, h2.tape.trans h.tape, h2.output.trans h.output, Nat.le_trans h.size h2.size, fun i hi hk hv => ?_, fun g hg => ?_⟩
 ·rw [h2.same i (Nat.lt_of_lt_of_le hi h.size) hk ?_, h.same i hi hk hv]
  intro e
  rcases h.row i e.symm with h1 | h1
  ·exact hv h1.symm
  ·omega
 ·rcases h2.row g hg with h1 | h1
  ·exact h.row g h1
  ·exact .inr (Nat.le_trans h.size h1)
theorem Gd.of_below (k : Nat) (v : Value) {w w' : World} (hb : Below w.heap.size w w') : Gd k w v w' v := ⟨hb.os, hb.tape, hb.output, hb.size, fun i hi _ _ => hb.block i hi, fun g h => .inl h⟩
theorem Gd.of_gr (k : Nat) {w w' : World} {v v' : Value} (h : Gr w v w' v') : Gd k w v w' v' := ⟨h.grown.os, h.grown.tape, h.grown.output, h.grown.size, fun i hi _ hv => h.grown.block i hi hv, h.row⟩
theorem Gd.set (k j : Nat) (w : World) (v : Value) (x : Value) : Gd k w v (w.setCell ⟨k, j, none⟩ x) v :=
 ⟨rfl, rfl, rfl, by simp [World.setCell], fun i _ hk _ => Below.heap_setCell _ _ _ i hk, fun g h => .inl h⟩
theorem Gd.front {k : Nat} {w w' : World} {v v1 v2 : Value} (h : Gd k w v w' v1) (hv : ∀ g, v2.ownBlock = some g → v1.ownBlock = some g) : Gd k w v w' v2 := ⟨h.os, h.tape, h.output, h.size, h.same, fun g hg => h.row g (hv g hg)⟩
theorem Gd.below {B k : Nat} {w w' : World} {v v' : Value} {l : List UInt8} (h : Gd k w v w' v') (hk : B ≤ k) (ho : Bs B w v l) (hB : B ≤ w.heap.size) : Below B w w' :=
 ⟨h.os, h.tape, h.output, h.size, fun i hi => h.same i (by omega) (by omega) fun e => by have := (ho.lt i e.symm).1; omega⟩
theorem Gd.boxed {k b : Nat} {w w' : World} {v v' : Value} {cs : Array Value} {t : TypeId} (h : Gd k w v w' v') (hb : bytes.Boxed w b cs t) (hk : b ≠ k) (hv : some b ≠ v.ownBlock) : bytes.Boxed w' b cs t := (h.same b hb.lt hk hv).trans hb

/-! ### the disk -/
structure DkIn (T : TypeId) (B : Nat) (w : World) (k : Nat) (v : Value) (d : Dk) : Prop where
 box : bytes.Boxed w k #[v, .int .i64 (d.lasts : Nat), .int .i64 (d.room : Nat), .int .i64 d.left] T
 low : B ≤ k
 own : Bs B w v d.b
 fit : Fit d
section
variable {T : TypeId} {B k : Nat} {w w' : World} {v v' : Value} {d : Dk}
theorem DkIn.lt (h : DkIn T B w k v d) : k < w.heap.size := h.box.lt
theorem DkIn.base (h : DkIn T B w k v d) : B ≤ w.heap.size := by have := h.lt; have := h.low; omega
theorem box_row {b : Nat} {cs : Array Value} {l : List UInt8} (h : bytes.Boxed w b cs T) (hT : T ≠ 5) (ho : Bs B w v l) : some b ≠ v.ownBlock := by
 rcases ho.2 with ⟨rfl, _⟩ | ⟨g, cap, cur, rfl, _, hg, _⟩
 ·intro e; cases e
 ·intro e
  simp only [Value.ownBlock, Option.some.injEq] at e
  subst e
  rw [show w.heap[b]? = _ from h] at hg
  injection hg with hg
  injection hg with _ hg _
  exact hT hg
theorem DkIn.apart (h : DkIn T B w k v d) (hT : T ≠ 5) : some k ≠ v.ownBlock := box_row h.box hT h.own
theorem DkIn.c0 (h : DkIn T B w k v d) : w.cell? ⟨k, 0, none⟩ = some v := h.box.cell rfl
theorem DkIn.c1 (h : DkIn T B w k v d) : w.cell? ⟨k, 1, none⟩ = some (.int .i64 (d.lasts : Nat)) := h.box.cell rfl
theorem DkIn.c2 (h : DkIn T B w k v d) : w.cell? ⟨k, 2, none⟩ = some (.int .i64 (d.room : Nat)) := h.box.cell rfl
theorem DkIn.c3 (h : DkIn T B w k v d) : w.cell? ⟨k, 3, none⟩ = some (.int .i64 d.left) := h.box.cell rfl
theorem DkIn.keep (h : DkIn T B w k v d) (hb : Below w.heap.size w w') : DkIn T B w' k v d := ⟨h.box.below hb, h.low, h.own.keep hb, h.fit⟩
theorem DkIn.below (h : DkIn T B w k v d) (g : Gd k w v w' v') : Below B w w' := g.below h.low h.own h.base
theorem own_set {l : List UInt8} (ho : Bs B w v l) (hk : some k ≠ v.ownBlock) (j : Nat) (x : Value) : Bs B (w.setCell ⟨k, j, none⟩ x) v l := by
 refine own_grown ho (row := some k) ⟨rfl, rfl, rfl, by simp [World.setCell], fun i _ hi => Below.heap_setCell _ _ _ i fun e => hi (by rw [e])⟩ fun g hg e => hk (by rw [hg, e])
theorem DkIn.set_left (h : DkIn T B w k v d) (hT : T ≠ 5) (n : Int) (hn : -1 ≤ n ∧ n ≤ 9223372036854775807) : DkIn T B (w.setCell ⟨k, 3, none⟩ (.int .i64 n)) k v ⟨d.b, d.lasts, d.room, n⟩ :=
 ⟨h.box.put 3 _, h.low, own_set h.own (h.apart hT) 3 _, ⟨h.fit.lasts, h.fit.len, h.fit.room, hn⟩⟩
theorem DkIn.set_lasts (h : DkIn T B w k v d) (hT : T ≠ 5) (n : Nat) (hn : n ≤ d.b.length) : DkIn T B (w.setCell ⟨k, 1, none⟩ (.int .i64 (n : Nat))) k v ⟨d.b, n, d.room, d.left⟩ :=
 ⟨h.box.put 1 _, h.low, own_set h.own (h.apart hT) 1 _, ⟨hn, h.fit.len, h.fit.room, h.fit.left⟩⟩
theorem DkIn.set_all {l : List UInt8} (hb : bytes.Boxed w k #[v, .int .i64 (d.lasts : Nat), .int .i64 (d.room : Nat), .int .i64 d.left] T) (hk : B ≤ k) (hT : T ≠ 5) (ho : Bs B w v' l) (hf : Fit ⟨l, d.lasts, d.room, d.left⟩) : DkIn T B (w.setCell ⟨k, 0, none⟩ v') k v' ⟨l, d.lasts, d.room, d.left⟩ :=
 ⟨hb.put 0 _, hk, own_set ho (box_row hb hT ho) 0 _, hf⟩
theorem DkIn.set_two {l : List UInt8} {n : Nat} (h : DkIn T B w k v d) (hT : T ≠ 5) (ho : Bs B w v' l) (hf : Fit ⟨l, n, d.room, d.left⟩) : DkIn T B ((w.setCell ⟨k, 0, none⟩ v').setCell ⟨k, 1, none⟩ (.int .i64 (n : Nat))) k v' ⟨l, n, d.room, d.left⟩ :=
 have hb := h.box.put 0 v'
 have h1 : Bs B (w.setCell ⟨k, 0, none⟩ v') v' l := own_set ho (box_row h.box hT ho) 0 _
 ⟨hb.put 1 _, h.low, own_set h1 (box_row hb hT h1) 1 _, hf⟩
end

theorem DkIn.far {T : TypeId} {B k : Nat} {w W : World} {v : Value} {d : Dk} {a : Option Addr} {n c : Nat} {y : List UInt8} (h : DkIn T B w k v d) (hS : Sl w a n c y) (hg : w.grownBy W (some k)) : Sl W a n c y := by
 have hk : ∀ b off, (∀ i, i < y.length → w.cell? ⟨b, off + i, none⟩ = some (.int .u8 (bth y i))) → y ≠ [] → b ≠ k := by
  intro b off hc h0 e
  subst e
  have hlen : 0 < y.length := List.length_pos_iff.2 h0
  have h1 := hc 0 hlen
  obtain ⟨va, vc, hv⟩ := h.own.form
  have hb : w.heap[b]? = _ := h.box
  simp only [World.cell?, hb, hv] at h1
  rcases off with _ | _ | _ | _ | off <;> simp at h1
 refine ⟨⟨?_, fun h0 p hp => Nat.lt_of_lt_of_le (hS.at_.low h0 p hp) hg.size, hS.at_.len, hS.at_.cap⟩, hS.max⟩
 rcases hS.at_.mem with h0 | ⟨b, off, ha, hc⟩
 ·exact .inl h0
 ·by_cases h0 : y = []
  ·exact .inl h0
  ·have hne := hk b off hc h0
   exact .inr ⟨b, off, ha, fun i hi => (hg.cell (a := ⟨b, off + i, none⟩) (hc i hi) (by simp; exact hne))⟩

/-! ### a front of a row of the call's own -/
theorem cut_block (a : Option Addr) (m n c : Nat) : (Value.slice a m c).ownBlock = (Value.slice a n c).ownBlock := by cases a <;> rfl
theorem Bs.cut {B : Nat} {w : World} {a : Option Addr} {n c : Nat} {l : List UInt8} (h : Bs B w (.slice a n c) l) (m : Nat) (hm : m ≤ l.length) : Bs B w (.slice a m c) (l.take m) := by
 refine ⟨by simp [Lib.byteCells], ?_⟩
 rcases h.2 with ⟨h1, h2⟩ | ⟨g, cap, cur, h1, hB, hg, hc, hcm, hsz, ht⟩
 ·injection h1 with e1 e2 e3
  subst e1 e3
  refine .inl ⟨?_, by simp; omega⟩
  have : m = 0 := by omega
  rw [this]
 ·injection h1 with e1 e2 e3
  subst e1 e3
  have hlen : (l.take m).length = m := by rw [List.length_take]; omega
  refine .inr ⟨g, c, cur, by rw [hlen], hB, hg, by omega, hcm, hsz, ?_⟩
  have hm2 : m ≤ l.length := hm
  rw [hlen]
  have e : List.take (m * 1) cur.toList = List.take (m * 1) (List.take (l.length * 1) cur.toList) := by
   rw [List.take_take]; congr 1; omega
  rw [e, ht]
  simp [Lib.byteCells, List.map_take]

/-! ### many bytes more, at the append -/
theorem wpList_bytes {w : World} {ops : Array Oper} {rest : List Oper} {o : Oper} {a : Act} {Q : Exit → Act → World → Prop} (hgd : o.guard = none) (s x : Operand)
  (ho : o.op = .call { callee := .builtin .append, args := #[s, x], argTypes := #[54, 54] })
  (B : Nat) (v : Value) (l : List UInt8) (hs : a.eval s = v) (hown : Bs B w v l) (ad : Option Addr) (m c : Nat) (y : List UInt8) (hx : a.eval x = .slice ad m c) (hS : Sl w ad m c y) (q : Nat) (hq : l.length + m = q) (hlen : q ≤ 1000000000) (hB : B ≤ w.heap.size)
  (h : ∀ a' c' w', Bs B w' (.slice a' q c') (l ++ y) → Gr w v w' (.slice a' q c') → wpList Tryz.prog ops Q rest (a.put o.dst (.slice a' q c')) w') : wpList Tryz.prog ops Q (o :: rest) a w := by
 obtain ⟨i0, hi, hz0, hz1, hz2⟩ := info_parts info_u8
 have hym := hS.at_.len
 subst hq
 by_cases h0 : m = 0
 ·subst h0
  have hy : y = [] := List.eq_nil_of_length_eq_zero hym
  subst hy
  rw [List.append_nil] at h
  refine wpList_append_zero hgd s x 54 ho B 5 i0 1 Tryz.underlying54 hi v l.length _ hs hown ad c hx ?_
  obtain ⟨a', c', rfl⟩ := hown.form
  exact h a' c' w hown (Gr.refl _ _)
 ·obtain ⟨b, off, rfl, hnews⟩ := hS.news (by omega)
  refine wpList_append_lies w hgd s x 54 ho B 5 i0 _ 1 1 Tryz.underlying54 hi hz0 hz1 hz2 rfl (by decide) v l.length _ hs hown ⟨b, off, none⟩ m c (Lib.byteCells y) hx (by rw [byteCells_len, hym]; omega) hnews (byteCells_one y) (by omega) (by unfold maxLen; omega) (by omega) hB _ rfl ?_
  intro g cap w3 hown3 hg3 hat3 _
  obtain ⟨p1, p2⟩ := Bs.pushes rfl hym hown3 hg3 hat3
  exact h (some ⟨g, 0, none⟩) cap w3 p1 p2
end disk
namespace disk
open bytes
theorem tk1 : 65 ≠ 5 := by decide

theorem tk2 : 57 ≠ 5 := by decide

theorem DkIn.len_max {T : TypeId} {B k : Nat} {w : World} {v : Value} {d : Dk} (h : DkIn T B w k v d) : d.b.length ≤ 1048576 := Nat.le_trans h.fit.len h.fit.room

theorem gr_boxed {b : Nat} {w w' : World} {v v' : Value} {cs : Array Value} {t : TypeId} (h : Gr w v w' v') (hb : bytes.Boxed w b cs t) (hv : some b ≠ v.ownBlock) : bytes.Boxed w' b cs t := (h.grown.block b hb.lt hv).trans hb

theorem lay_any (B k n c : Nat) (a : Option Addr) (y : List UInt8) (v : Value) (d : Dk) (w : World) (h : DkIn 65 B w k v d) (hS : Sl w a n c y) (hf : d.b.length + y.length ≤ d.room) :
  Calls Tryz.prog 45 #[.pointer (some ⟨k, 0, none⟩), .slice a n c] w fun e w' => e = .returned (.tuple #[]) ∧ ∃ v', DkIn 65 B w' k v' ⟨d.b ++ y, d.lasts, d.room, d.left⟩ ∧ Gd k w v w' v' := by
 have c0 := h.c0
 have hB := h.base
 have hmax := h.len_max
 have hr := h.fit.room
 have hn := hS.at_.len
 have hown := h.own
 have hne := h.apart tk1
 have H : Aside (DkIn 65 B w k v d) := h
 have HF : Aside (Fit ⟨d.b ++ y, d.lasts, d.room, d.left⟩) := ⟨by have := h.fit.lasts; show d.lasts ≤ (d.b ++ y).length; rw [List.length_append]; omega, by show (d.b ++ y).length ≤ d.room; rw [List.length_append]; exact hf, hr, h.fit.left⟩
 obtain ⟨q, hq⟩ : ∃ q, d.b.length + n = q := ⟨_, rfl⟩
 clear h
 go_enter Tryz.func45, Tryz.ntmps45
 go_wp2_with (at_builtin; refine wpList_bytes rfl (.tmp 8) (.tmp 9) rfl B v d.b rfl hown a n c y rfl hS q hq (by omega) hB ?_; intro a3 c3 w3 h3 g3; have hx3 := gr_boxed g3 H.out.box hne; have q3 := hx3.cell (j := 0) rfl; have z3 := hx3.frz 0)
 go_end0
 exact ⟨rfl, _, DkIn.set_all hx3 H.out.low tk1 h3 HF.out, ((Gd.of_gr k g3).trans (Gd.set k 0 _ _ _))⟩

theorem force_any (B k : Nat) (v : Value) (d : Dk) (w : World) (h : DkIn 65 B w k v d) :
  Calls Tryz.prog 40 #[.pointer (some ⟨k, 0, none⟩)] w fun e w' => e = .returned (.tuple #[]) ∧ DkIn 65 B w' k v ⟨d.b, d.b.length, d.room, d.left⟩ ∧ Gd k w v w' v := by
 obtain ⟨va, vc, rfl⟩ := h.own.form
 have c0 := h.c0
 have c1 := h.c1
 have z1 := h.box.frz 1
 have hS := h.set_lasts tk1 d.b.length (Nat.le_refl _)
 have hG := Gd.set k 1 w (.slice va d.b.length vc) (.int .i64 (d.b.length : Nat))
 have hE : Aside (DkIn 65 B (w.setCell ⟨k, 1, none⟩ (.int .i64 (d.b.length : Nat))) k (.slice va d.b.length vc) ⟨d.b, d.b.length, d.room, d.left⟩ ∧ Gd k w (.slice va d.b.length vc) (w.setCell ⟨k, 1, none⟩ (.int .i64 (d.b.length : Nat))) (.slice va d.b.length vc)) := ⟨hS, hG⟩
 clear h hS hG
 go_enter Tryz.func40, Tryz.ntmps40
 go_wp2
 go_end0
 exact ⟨rfl, hE.out⟩

theorem loose_any (B k : Nat) (v : Value) (d : Dk) (w : World) (h : DkIn 65 B w k v d) :
  Calls Tryz.prog 39 #[.pointer (some ⟨k, 0, none⟩)] w fun e w' => e = .returned (.int .i64 (d.b.length - d.lasts : Nat)) ∧ Below w.heap.size w w' := by
 obtain ⟨va, vc, rfl⟩ := h.own.form
 have c0 := h.c0
 have c1 := h.c1
 have hl := h.fit.lasts
 have hm := h.len_max
 clear h
 generalize d.b.length = n at c0 hl hm ⊢
 generalize d.lasts = m at c1 hl ⊢
 go_enter Tryz.func39, Tryz.ntmps39
 go_wp2
 go_region
 go_wp2
 go_ret
 exact ⟨ret_i64 (by omega), by (repeat (first | with_reducible exact Below.refl _ _ | (with_reducible refine Below.drew ?_) | (with_reducible refine Below.alloc ?_ (by first | omega | (simp; done) | (simp; omega)) _) | (with_reducible refine Below.setCell ?_ (by first | exact Nat.le_refl _ | omega | (simp; done) | (simp; omega)) _)))⟩

theorem leave_any (B k m : Nat) (v : Value) (d : Dk) (w : World) (h : DkIn 65 B w k v d) (hm : m ≤ d.b.length) :
  Calls Tryz.prog 38 #[.pointer (some ⟨k, 0, none⟩), .int .i64 (m : Nat)] w fun e w' => e = .returned (.tuple #[]) ∧ ∃ v', DkIn 65 B w' k v' ⟨d.b.take m, min d.lasts m, d.room, d.left⟩ ∧ Gd k w v w' v' := by
 obtain ⟨va, vc, rfl⟩ := h.own.form
 have hcap : d.b.length ≤ vc := by
  obtain ⟨a, c, e, hb⟩ := h.own.bytes
  injection e with e1 e2 e3
  subst e3; exact hb.cap
 have c0 := h.c0
 have c1 := h.c1
 have z0 := h.box.frz 0
 have z1 := h.box.frz 1
 have hmax := h.len_max
 have hlast := h.fit.lasts
 have H : Aside (DkIn 65 B w k (.slice va d.b.length vc) d) := h
 have e1 : (d.b.take m).length = m := by rw [List.length_take]; omega
 have HO : Aside (Bs B w (.slice va m vc) (d.b.take m)) := Bs.cut h.own m hm
 have hF : Fit ⟨d.b.take m, min d.lasts m, d.room, d.left⟩ := ⟨by show min d.lasts m ≤ (d.b.take m).length; rw [e1]; omega, by show (d.b.take m).length ≤ d.room; rw [e1]; have := h.fit.len; omega, h.fit.room, h.fit.left⟩
 have HR : Aside (∀ n, min d.lasts m = n → DkIn 65 B ((w.setCell ⟨k, 0, none⟩ (.slice va m vc)).setCell ⟨k, 1, none⟩ (.int .i64 (n : Nat))) k (.slice va m vc) ⟨d.b.take m, min d.lasts m, d.room, d.left⟩ ∧ Gd k w (.slice va d.b.length vc) ((w.setCell ⟨k, 0, none⟩ (.slice va m vc)).setCell ⟨k, 1, none⟩ (.int .i64 (n : Nat))) (.slice va m vc)) := fun n hn => by
  subst hn
  refine ⟨h.set_two tk1 HO.out hF, ((Gd.set k 0 _ _ _).trans (Gd.set k 1 _ _ _)).front fun g hg => by rw [cut_block va d.b.length m vc]; exact hg⟩
 clear h hF e1 HO H
 generalize d.b.length = n at c0 hmax hlast hm hcap HR ⊢
 generalize hs : d.lasts = s at c1 hlast HR ⊢
 generalize d.b.take m = tk at HR ⊢
 generalize d.room = rm at HR ⊢
 generalize d.left = lf at HR ⊢
 clear hs hlast
 go_enter Tryz.func38, Tryz.ntmps38
 go_wp2
 all_goals go_end0
 ·exact ⟨rfl, _, HR.out m (by omega)⟩
 ·exact ⟨rfl, _, HR.out s (by omega)⟩
theorem halted_any (B k : Nat) (v : Value) (d : Dk) (w : World) (h : DkIn 65 B w k v d) :
  Calls Tryz.prog 68 #[.pointer (some ⟨k, 0, none⟩)] w fun e w' => e = .returned (.bool (decide (d.left = 0))) ∧ w' = w := by
 have c3 := h.c3
 clear h
 generalize d.left = n at c3 ⊢
 go_enter Tryz.func68, Tryz.ntmps68
 go_wp2
 go_ret
 exact ⟨rfl, rfl⟩

theorem halt_any (B k : Nat) (n : Int) (v : Value) (d : Dk) (w : World) (h : DkIn 65 B w k v d) (hn : n ≤ 9223372036854775807) :
  Calls Tryz.prog 16 #[.pointer (some ⟨k, 0, none⟩), .int .i64 n] w fun e w' => e = .returned (.tuple #[]) ∧ DkIn 65 B w' k v (halt n d) ∧ Gd k w v w' v := by
 have c3 := h.c3
 have z3 := h.box.frz 3
 have HR : Aside (∀ m, max n (-1) = m → DkIn 65 B (w.setCell ⟨k, 3, none⟩ (.int .i64 m)) k v (halt n d) ∧ Gd k w v (w.setCell ⟨k, 3, none⟩ (.int .i64 m)) v) := fun m hm => by
  subst hm
  exact ⟨h.set_left tk1 _ ⟨by omega, by omega⟩, Gd.set k 3 _ _ _⟩
 clear h
 generalize halt n d = d2 at HR ⊢
 generalize d.left = l at c3
 go_enter Tryz.func16, Tryz.ntmps16
 go_wp2
 all_goals go_end0
 all_goals exact ⟨rfl, HR.out _ (by omega)⟩

theorem new_box {T : TypeId} (w : World) (m : Nat) (h : m ≤ 1048576) (B : Nat) (hB : B ≤ w.heap.size) : DkIn T B (w.alloc (.cells #[.slice none 0 0, .int .i64 0, .int .i64 (m : Nat), .int .i64 (-1)] T)) w.heap.size (.slice none 0 0) (new m) :=
 ⟨bytes.Boxed.new w _ _, hB, Bs.none _ _, Fit.new h⟩
theorem new_any (B m : Nat) (w : World) (h : m ≤ 1048576) (hB : B ≤ w.heap.size) :
  Calls Tryz.prog 7 #[.int .i64 (m : Nat)] w fun e w' => e = .returned (.pointer (some ⟨w.heap.size, 0, none⟩)) ∧ DkIn 65 B w' w.heap.size (.slice none 0 0) (new m) ∧ Below w.heap.size w w' := by
 have HR : Aside (DkIn 65 B (w.alloc (.cells #[.slice none 0 0, .int .i64 0, .int .i64 (m : Nat), .int .i64 (-1)] 65)) w.heap.size (.slice none 0 0) (new m)) := new_box w m h B hB
 have h0 : ¬ (m : Int) < 0 := by omega
 have h1 : ¬ 1048576 < (m : Int) := by omega
 go_enter Tryz.func7, Tryz.ntmps7
 go_wp2
 go_ret
 exact ⟨rfl, HR.out, by (repeat (first | with_reducible exact Below.refl _ _ | (with_reducible refine Below.drew ?_) | (with_reducible refine Below.alloc ?_ (by first | omega | (simp; done) | (simp; omega)) _) | (with_reducible refine Below.setCell ?_ (by first | exact Nat.le_refl _ | omega | (simp; done) | (simp; omega)) _)))⟩

theorem call_stop (B k g : Nat) (cb : Array Value) (v : Value) (d : Dk) (w : World) (h : DkIn 65 B w k v d) (h0 : d.left = 0) :
  Calls Tryz.prog 43 #[.pointer (some ⟨k, 0, none⟩), .func (.func g) #[] cb] w fun e w' => e = .returned (.int .u16 100) ∧ w' = w := by
 have hC := halted_any B k v d w h
 rw [h0] at hC
 simp only [decide_true] at hC
 clear h h0
 go_enter Tryz.func43, Tryz.ntmps43
 go_wp2_with (go_at_call 68; refine hC.mono ?_; rintro e w1 ⟨rfl, rfl⟩)
 go_ret
 exact ⟨rfl, rfl⟩

theorem call_go (B k g : Nat) (cb : Array Value) (v : Value) (d : Dk) (w : World) (h : DkIn 65 B w k v d) (h0 : d.left ≠ 0) (S : Int → World → Prop)
  (eg : ∀ args w, (callFunc g args).run Tryz.prog w = .ok (.enter g args) w)
  (hT : ∀ W, DkIn 65 B W k v (tick d) → Gd k w v W v → w.grownBy W (some k) → Calls Tryz.prog g cb W fun e w' => ∃ r, e = .returned (.int .u16 r) ∧ S r w') :
  Calls Tryz.prog 43 #[.pointer (some ⟨k, 0, none⟩), .func (.func g) #[] cb] w fun e w' => ∃ r, e = .returned (.int .u16 r) ∧ S r w' := by
 have hC := halted_any B k v d w h
 have hd : decide (d.left = 0) = false := decide_eq_false h0
 rw [hd] at hC
 have c3 := h.c3
 have z3 := h.box.frz 3
 have hl := h.fit.left
 by_cases h1 : d.left = -1
 ·have hT1 := hT w (by
   have e : tick d = d := by unfold tick less; rw [if_neg (by omega)]
   rw [e]; exact h) (Gd.refl _ _ _) ⟨rfl, rfl, rfl, Nat.le_refl _, fun _ _ _ => rfl⟩
  clear h hT hd h0
  rw [h1] at c3
  go_enter Tryz.func43, Tryz.ntmps43
  go_wp2_with (first | (go_at_call 68; refine hC.mono ?_; rintro e w1 ⟨rfl, rfl⟩) | (refine hT1.mono ?_; rintro e w2 ⟨r, rfl, hs⟩))
  go_ret
  exact ⟨r, rfl, hs⟩
 ·have hT1 := hT (w.setCell ⟨k, 3, none⟩ (.int .i64 (d.left - 1))) (by
   have e : tick d = ⟨d.b, d.lasts, d.room, d.left - 1⟩ := by unfold tick less; rw [if_pos (by omega)]
   rw [e]; exact h.set_left tk1 _ ⟨by omega, by omega⟩) (Gd.set k 3 _ _ _) ⟨rfl, rfl, rfl, by simp [World.setCell], fun i _ hi => Below.heap_setCell _ _ _ i fun e => hi (by rw [e])⟩
  clear h hT hd
  generalize d.left = n at *
  go_enter Tryz.func43, Tryz.ntmps43
  go_wp2_with (first | (go_at_call 68; refine hC.mono ?_; rintro e w1 ⟨rfl, rfl⟩) | (refine hT1.mono ?_; rintro e w2 ⟨r, rfl, hs⟩))
  go_ret
  exact ⟨r, rfl, hs⟩

/-! ### what is handed on -/
theorem appendC_no (B k bx dx n c : Nat) (a : Option Addr) (y : List UInt8) (v : Value) (d : Dk) (w : World) (h : DkIn 65 B w k v d) (hS : Sl w a n c y) (hb : w.cell? ⟨bx, 0, none⟩ = some (.slice a n c)) (hd : w.cell? ⟨dx, 0, none⟩ = some (.pointer (some ⟨k, 0, none⟩))) (hlt : d.room < d.b.length + n) :
  Calls Tryz.prog 44 #[.pointer (some ⟨bx, 0, none⟩), .pointer (some ⟨dx, 0, none⟩)] w fun e w' => e = .returned (.int .u16 100) ∧ Below w.heap.size w w' := by
 obtain ⟨va, vc, rfl⟩ := h.own.form
 have c0 := h.c0
 have c2 := h.c2
 have hm := h.fit.room
 have hl := h.fit.len
 have hmx := hS.max
 clear h hS
 generalize d.b.length = q at *
 generalize d.room = r at *
 have hz : (r : Int) - (q : Int) < (n : Int) := by omega
 go_enter Tryz.func44, Tryz.ntmps44
 go_wp2_with fail
 go_quiet (fail)
 generalize hw2 : w.drewN _ = w2
 go_wp2
 go_ret
 exact ⟨rfl, by subst hw2; exact below_dn _ _ _⟩
theorem appendC_yes (B k bx dx n c : Nat) (a : Option Addr) (y : List UInt8) (v : Value) (d : Dk) (w : World) (h : DkIn 65 B w k v d) (hS : Sl w a n c y) (hb : w.cell? ⟨bx, 0, none⟩ = some (.slice a n c)) (hd : w.cell? ⟨dx, 0, none⟩ = some (.pointer (some ⟨k, 0, none⟩))) (hlt : d.b.length + n ≤ d.room) :
  Calls Tryz.prog 44 #[.pointer (some ⟨bx, 0, none⟩), .pointer (some ⟨dx, 0, none⟩)] w fun e w' => e = .returned (.int .u16 0) ∧ ∃ v', DkIn 65 B w' k v' ⟨d.b ++ y, d.lasts, d.room, d.left⟩ ∧ Gd k w v w' v' := by
 have hn := hS.at_.len
 have hmx := hS.max
 have hC : ∀ W, Below w.heap.size w W → Calls Tryz.prog 45 #[.pointer (some ⟨k, 0, none⟩), .slice a n c] W fun e w' => e = .returned (.tuple #[]) ∧ ∃ v', DkIn 65 B w' k v' ⟨d.b ++ y, d.lasts, d.room, d.left⟩ ∧ Gd k w v w' v' := fun W hW =>
  (lay_any B k n c a y v d W (h.keep hW) (hS.keep hW) (by omega)).mono fun e w' ⟨he, v', h1, h2⟩ => ⟨he, v', h1, (Gd.of_below k v hW).trans h2⟩
 obtain ⟨va, vc, hv⟩ := h.own.form
 have c0 := h.c0
 rw [hv] at c0
 have c2 := h.c2
 have hm := h.fit.room
 have hl := h.fit.len
 clear h hS hv
 generalize d.b ++ y = by_ at hC ⊢
 generalize d.b.length = q at *
 generalize d.room = r at *
 have hz : ¬ (r : Int) - (q : Int) < (n : Int) := by omega
 go_enter Tryz.func44, Tryz.ntmps44
 go_wp2_with fail
 go_quiet (fail)
 have HB : Aside (Below w.heap.size w (w.drewN nq)) := below_dn _ _ _
 have hb2 : (w.drewN nq).cell? ⟨bx, 0, none⟩ = some (.slice a n c) := hb
 have hd2 : (w.drewN nq).cell? ⟨dx, 0, none⟩ = some (.pointer (some ⟨k, 0, none⟩)) := hd
 generalize w.drewN nq = w2 at HB hb2 hd2 ⊢
 clear hb hd c0 c2
 go_wp2_with fail
 go_region_with (go_at_call 45; refine (hC _ HB.out.drew).mono ?_; rintro e w3 ⟨rfl, v3, h3, g3⟩)
 all_goals go_wp2
 all_goals go_ret
 all_goals exact ⟨rfl, v3, h3, g3⟩
end disk
end Go.Proofs.YtlcjllgfpfldlaaGreat
