/-
  A disk in memory: its box, its row of bytes; what a call on it may change; two disks side by side.
-/
import Derived.Test.YtpaekckahapngaaByteGrow
import Derived.Test.YtpaekckahapngaaDiskMath
namespace Go.Proofs.Ytpaekckahapngaa.disk
open Go.ChangeShapes Go.WideShapes Go.ChangeAt Go.RowKit Go.Deep
open Go.Proofs.Ytpaekckahapngaa.bytes
set_option linter.unusedVariables false
set_option maxRecDepth 100000
set_option linter.unusedSimpArgs false

theorem ret_u16 {a b : Int} (h : a = b) : Ending.returned (.int .u16 a) = .returned (.int .u16 b) := by rw [h]
theorem ret_i64 {a b : Int} (h : a = b) : Ending.returned (.int .i64 a) = .returned (.int .i64 b) := by rw [h]

theorem below_dn (B : Nat) (w : World) (n : Nat) : Below B w (w.drewN n) := ⟨rfl, rfl, rfl, Nat.le_refl _, fun _ _ => rfl⟩

/-! ### what a call on a disk may change: the disk's box, its row, new memory -/
structure Gd (k : Nat) (w : World) (v : Value) (w' : World) (v' : Value) : Prop where
  os : w'.os = w.os
  tape : w'.tape = w.tape
  output : w'.output = w.output
  size : w.heap.size ≤ w'.heap.size
  same : ∀ i, i < w.heap.size → i ≠ k → some i ≠ v.ownBlock → w'.heap[i]? = w.heap[i]?
  row : ∀ g, v'.ownBlock = some g → v.ownBlock = some g ∨ w.heap.size ≤ g
theorem Gd.refl (k : Nat) (w : World) (v : Value) : Gd k w v w v := ⟨rfl, rfl, rfl, Nat.le_refl _, fun _ _ _ _ => rfl, fun g h => .inl h⟩
theorem Gd.trans {k : Nat} {w w1 w2 : World} {v v1 v2 : Value} (h : Gd k w v w1 v1) (h2 : Gd k w1 v1 w2 v2) : Gd k w v w2 v2 := by
  refine ⟨h2.os.trans h.os, h2.tape.trans h.tape, h2.output.trans h.output, Nat.le_trans h.size h2.size, fun i hi hk hv => ?_, fun g hg => ?_⟩
  · rw [h2.same i (Nat.lt_of_lt_of_le hi h.size) hk ?_, h.same i hi hk hv]
    intro e
    rcases h.row i e.symm with h1 | h1
    · exact hv h1.symm
    · omega
  · rcases h2.row g hg with h1 | h1
    · exact h.row g h1
    · exact .inr (Nat.le_trans h.size h1)
theorem Gd.of_below (k : Nat) (v : Value) {w w' : World} (hb : Below w.heap.size w w') : Gd k w v w' v := ⟨hb.os, hb.tape, hb.output, hb.size, fun i hi _ _ => hb.block i hi, fun g h => .inl h⟩
theorem Gd.of_gr (k : Nat) {w w' : World} {v v' : Value} (h : Gr w v w' v') : Gd k w v w' v' := ⟨h.grown.os, h.grown.tape, h.grown.output, h.grown.size, fun i hi _ hv => h.grown.block i hi hv, h.row⟩
theorem Gd.set (k j : Nat) (w : World) (v : Value) (x : Value) : Gd k w v (w.setCell ⟨k, j, none⟩ x) v :=
  ⟨rfl, rfl, rfl, by simp [World.setCell], fun i _ hk _ => Below.heap_setCell _ _ _ i hk, fun g h => .inl h⟩
/-- the disk has another row: a front of it -/
theorem Gd.front {k : Nat} {w w' : World} {v v1 v2 : Value} (h : Gd k w v w' v1) (hv : ∀ g, v2.ownBlock = some g → v1.ownBlock = some g) : Gd k w v w' v2 := ⟨h.os, h.tape, h.output, h.size, h.same, fun g hg => h.row g (hv g hg)⟩
theorem Gd.below {B k : Nat} {w w' : World} {v v' : Value} {l : List UInt8} (h : Gd k w v w' v') (hk : B ≤ k) (ho : Bs B w v l) (hB : B ≤ w.heap.size) : Below B w w' :=
  ⟨h.os, h.tape, h.output, h.size, fun i hi => h.same i (by omega) (by omega) fun e => by have := (ho.lt i e.symm).1; omega⟩
/-- a box elsewhere -/
theorem Gd.boxed {k b : Nat} {w w' : World} {v v' : Value} {cs : Array Value} {t : TypeId} (h : Gd k w v w' v') (hb : Boxed w b cs t) (hk : b ≠ k) (hv : some b ≠ v.ownBlock) : Boxed w' b cs t := (h.same b hb.lt hk hv).trans hb

/-! ### the disk -/
structure DkIn (T : TypeId) (B : Nat) (w : World) (k : Nat) (v : Value) (d : Dk) : Prop where
  box : Boxed w k #[v, .int .i64 (d.lasts : Nat), .int .i64 (d.room : Nat), .int .i64 d.left] T
  low : B ≤ k
  own : Bs B w v d.b
  fit : Fit d
section
variable {T : TypeId} {B k : Nat} {w w' : World} {v v' : Value} {d : Dk}
theorem DkIn.lt (h : DkIn T B w k v d) : k < w.heap.size := h.box.lt
theorem DkIn.base (h : DkIn T B w k v d) : B ≤ w.heap.size := by have := h.lt; have := h.low; omega
theorem box_row {b : Nat} {cs : Array Value} {l : List UInt8} (h : Boxed w b cs T) (hT : T ≠ 5) (ho : Bs B w v l) : some b ≠ v.ownBlock := by
  rcases ho.2 with ⟨rfl, _⟩ | ⟨g, cap, cur, rfl, _, hg, _⟩
  · intro e; cases e
  · intro e
    simp only [Value.ownBlock, Option.some.injEq] at e
    subst e
    rw [show w.heap[b]? = _ from h] at hg
    injection hg with hg
    injection hg with _ hg _
    exact hT hg
theorem DkIn.apart (h : DkIn T B w k v d) (hT : T ≠ 5) : some k ≠ v.ownBlock := box_row h.box hT h.own
theorem DkIn.c0 (h : DkIn T B w k v d) : w.cell? ⟨k, 0, none⟩ = some v := h.box.cell rfl
theorem DkIn.c1 (h : DkIn T B w k v d) : w.cell? ⟨k, 1, none⟩ = some (.int .i64 (d.lasts : Nat)) := h.box.cell rfl
theorem DkIn.c2 (h : DkIn T B w k v d) : w.cell? ⟨k, 2, none⟩ = some (.int .i64 (d.room : Nat)) := h.box.cell rfl
theorem DkIn.c3 (h : DkIn T B w k v d) : w.cell? ⟨k, 3, none⟩ = some (.int .i64 d.left) := h.box.cell rfl
theorem DkIn.keep (h : DkIn T B w k v d) (hb : Below w.heap.size w w') : DkIn T B w' k v d := ⟨h.box.below hb, h.low, h.own.keep hb, h.fit⟩
theorem DkIn.below (h : DkIn T B w k v d) (g : Gd k w v w' v') : Below B w w' := g.below h.low h.own h.base
theorem own_set {l : List UInt8} (ho : Bs B w v l) (hk : some k ≠ v.ownBlock) (j : Nat) (x : Value) : Bs B (w.setCell ⟨k, j, none⟩ x) v l := by
  refine own_grown ho (row := some k) ⟨rfl, rfl, rfl, by simp [World.setCell], fun i _ hi => Below.heap_setCell _ _ _ i fun e => hi (by rw [e])⟩ fun g hg e => hk (by rw [hg, e])
theorem DkIn.set_left (h : DkIn T B w k v d) (hT : T ≠ 5) (n : Int) (hn : -1 ≤ n ∧ n ≤ 9223372036854775807) : DkIn T B (w.setCell ⟨k, 3, none⟩ (.int .i64 n)) k v ⟨d.b, d.lasts, d.room, n⟩ :=
  ⟨h.box.put 3 _, h.low, own_set h.own (h.apart hT) 3 _, ⟨h.fit.lasts, h.fit.len, h.fit.room, hn⟩⟩
theorem DkIn.set_lasts (h : DkIn T B w k v d) (hT : T ≠ 5) (n : Nat) (hn : n ≤ d.b.length) : DkIn T B (w.setCell ⟨k, 1, none⟩ (.int .i64 (n : Nat))) k v ⟨d.b, n, d.room, d.left⟩ :=
  ⟨h.box.put 1 _, h.low, own_set h.own (h.apart hT) 1 _, ⟨hn, h.fit.len, h.fit.room, h.fit.left⟩⟩
/-- the disk's bytes are others: behind the store -/
theorem DkIn.set_all {l : List UInt8} (hb : Boxed w k #[v, .int .i64 (d.lasts : Nat), .int .i64 (d.room : Nat), .int .i64 d.left] T) (hk : B ≤ k) (hT : T ≠ 5) (ho : Bs B w v' l) (hf : Fit ⟨l, d.lasts, d.room, d.left⟩) : DkIn T B (w.setCell ⟨k, 0, none⟩ v') k v' ⟨l, d.lasts, d.room, d.left⟩ :=
  ⟨hb.put 0 _, hk, own_set ho (box_row hb hT ho) 0 _, hf⟩
/-- the bytes and how many last are others: behind both stores -/
theorem DkIn.set_two {l : List UInt8} {n : Nat} (h : DkIn T B w k v d) (hT : T ≠ 5) (ho : Bs B w v' l) (hf : Fit ⟨l, n, d.room, d.left⟩) : DkIn T B ((w.setCell ⟨k, 0, none⟩ v').setCell ⟨k, 1, none⟩ (.int .i64 (n : Nat))) k v' ⟨l, n, d.room, d.left⟩ :=
  have hb := h.box.put 0 v'
  have h1 : Bs B (w.setCell ⟨k, 0, none⟩ v') v' l := own_set ho (box_row h.box hT ho) 0 _
  ⟨hb.put 1 _, h.low, own_set h1 (box_row hb hT h1) 1 _, hf⟩
end

/-- bytes at hand do not lie in a disk's box -/
theorem DkIn.far {T : TypeId} {B k : Nat} {w W : World} {v : Value} {d : Dk} {a : Option Addr} {n c : Nat} {y : List UInt8} (h : DkIn T B w k v d) (hS : Sl w a n c y) (hg : w.grownBy W (some k)) : Sl W a n c y := by
  have hk : ∀ b off, (∀ i, i < y.length → w.cell? ⟨b, off + i, none⟩ = some (.int .u8 (bth y i))) → y ≠ [] → b ≠ k := by
    intro b off hc h0 e
    subst e
    have hlen : 0 < y.length := List.length_pos_iff.2 h0
    have h1 := hc 0 hlen
    obtain ⟨va, vc, hv⟩ := h.own.form
    have hb : w.heap[b]? = _ := h.box
    simp only [World.cell?, hb, hv] at h1
    rcases off with _ | _ | _ | _ | off <;> simp at h1
  refine ⟨⟨?_, fun h0 p hp => Nat.lt_of_lt_of_le (hS.at_.low h0 p hp) hg.size, hS.at_.len, hS.at_.cap⟩, hS.max⟩
  rcases hS.at_.mem with h0 | ⟨b, off, ha, hc⟩
  · exact .inl h0
  · by_cases h0 : y = []
    · exact .inl h0
    · have hne := hk b off hc h0
      exact .inr ⟨b, off, ha, fun i hi => (hg.cell (a := ⟨b, off + i, none⟩) (hc i hi) (by simp; exact hne))⟩

/-! ### a front of a row of the call's own -/
theorem cut_block (a : Option Addr) (m n c : Nat) : (Value.slice a m c).ownBlock = (Value.slice a n c).ownBlock := by cases a <;> rfl
theorem Bs.cut {B : Nat} {w : World} {a : Option Addr} {n c : Nat} {l : List UInt8} (h : Bs B w (.slice a n c) l) (m : Nat) (hm : m ≤ l.length) : Bs B w (.slice a m c) (l.take m) := by
  refine ⟨by simp [Lib.byteCells], ?_⟩
  rcases h.2 with ⟨h1, h2⟩ | ⟨g, cap, cur, h1, hB, hg, hc, hcm, hsz, ht⟩
  · injection h1 with e1 e2 e3
    subst e1 e3
    refine .inl ⟨?_, by simp; omega⟩
    have : m = 0 := by omega
    rw [this]
  · injection h1 with e1 e2 e3
    subst e1 e3
    have hlen : (l.take m).length = m := by rw [List.length_take]; omega
    refine .inr ⟨g, c, cur, by rw [hlen], hB, hg, by omega, hcm, hsz, ?_⟩
    have hm2 : m ≤ l.length := hm
    rw [hlen]
    have e : List.take (m * 1) cur.toList = List.take (m * 1) (List.take (l.length * 1) cur.toList) := by
      rw [List.take_take]; congr 1; omega
    rw [e, ht]
    simp [Lib.byteCells, List.map_take]

/-! ### many bytes more, at the append -/
theorem wpList_bytes {w : World} {ops : Array Oper} {rest : List Oper} {o : Oper} {a : Act} {Q : Exit → Act → World → Prop} (hgd : o.guard = none) (s x : Operand)
    (ho : o.op = .call { callee := .builtin .append, args := #[s, x], argTypes := #[29, 29] })
    (B : Nat) (v : Value) (l : List UInt8) (hs : a.eval s = v) (hown : Bs B w v l) (ad : Option Addr) (m c : Nat) (y : List UInt8) (hx : a.eval x = .slice ad m c) (hS : Sl w ad m c y) (q : Nat) (hq : l.length + m = q) (hlen : q ≤ 1000000000) (hB : B ≤ w.heap.size)
    (h : ∀ a' c' w', Bs B w' (.slice a' q c') (l ++ y) → Gr w v w' (.slice a' q c') → wpList Try.prog ops Q rest (a.put o.dst (.slice a' q c')) w') : wpList Try.prog ops Q (o :: rest) a w := by
  obtain ⟨i0, hi, hz0, hz1, hz2⟩ := info_parts info_u8
  have hym := hS.at_.len
  subst hq
  by_cases h0 : m = 0
  · subst h0
    have hy : y = [] := List.eq_nil_of_length_eq_zero hym
    subst hy
    rw [List.append_nil] at h
    refine wpList_append_zero hgd s x 29 ho B 5 i0 1 Try.underlying29 hi v l.length _ hs hown ad c hx ?_
    obtain ⟨a', c', rfl⟩ := hown.form
    exact h a' c' w hown (Gr.refl _ _)
  · obtain ⟨b, off, rfl, hnews⟩ := hS.news (by omega)
    refine wpList_append_lies w hgd s x 29 ho B 5 i0 _ 1 1 Try.underlying29 hi hz0 hz1 hz2 rfl (by decide) v l.length _ hs hown ⟨b, off, none⟩ m c (Lib.byteCells y) hx (by rw [byteCells_len, hym]; omega) hnews (byteCells_one y) (by omega) (by unfold maxLen; omega) (by omega) hB _ rfl ?_
    intro g cap w3 hown3 hg3 hat3 _
    obtain ⟨p1, p2⟩ := Bs.pushes rfl hym hown3 hg3 hat3
    exact h (some ⟨g, 0, none⟩) cap w3 p1 p2
end Go.Proofs.Ytpaekckahapngaa.disk
