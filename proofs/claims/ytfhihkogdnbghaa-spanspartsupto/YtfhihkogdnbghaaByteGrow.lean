/-
  Rows of bytes that grow: nothing but the row and new memory changes; lists of bytes of a call's own.
-/
import Derived.Test.YtfhihkogdnbghaaByteOwn
import Derived.Laws.CopyOwn
namespace Go.Proofs.Ytfhihkogdnbghaa.bytes
open Go.ChangeShapes Go.WideShapes Go.ChangeAt Go.RowKit Go.Deep
set_option linter.unusedVariables false
set_option maxRecDepth 100000

/-- nothing but the row and new memory has changed; the row is where it was, or in new memory -/
structure Gr (w : World) (v : Value) (w' : World) (v' : Value) : Prop where
  grown : w.grownBy w' v.ownBlock
  row : ∀ g, v'.ownBlock = some g → v.ownBlock = some g ∨ w.heap.size ≤ g
theorem Gr.refl (w : World) (v : Value) : Gr w v w v := ⟨⟨rfl, rfl, rfl, Nat.le_refl _, fun _ _ _ => rfl⟩, fun g h => .inl h⟩
theorem Gr.trans {w w1 w2 : World} {v v1 v2 : Value} (h : Gr w v w1 v1) (k : Gr w1 v1 w2 v2) : Gr w v w2 v2 := by
  refine ⟨⟨k.grown.os.trans h.grown.os, k.grown.tape.trans h.grown.tape, k.grown.output.trans h.grown.output, Nat.le_trans h.grown.size k.grown.size, fun g hg hne => ?_⟩, fun g hg => ?_⟩
  · rw [k.grown.block g (Nat.lt_of_lt_of_le hg h.grown.size) ?_, h.grown.block g hg hne]
    intro e
    rcases h.row g e.symm with h1 | h1
    · exact hne h1.symm
    · omega
  · rcases k.row g hg with h1 | h1
    · exact h.row g h1
    · exact .inr (Nat.le_trans h.grown.size h1)
theorem Gr.of_below {w w' : World} (v : Value) (hb : Below w.heap.size w w') : Gr w v w' v := ⟨⟨hb.os, hb.tape, hb.output, hb.size, fun i hi _ => hb.block i hi⟩, fun g h => .inl h⟩
theorem Gr.alloc (w : World) (v : Value) (o : Obj) : Gr w v (w.alloc o) v := ⟨World.grownBy_alloc w o _, fun g h => .inl h⟩
theorem Gr.cell {w w' : World} {v v' : Value} (h : Gr w v w' v') {b o : Nat} {x : Value} (hc : w.cell? ⟨b, o, none⟩ = some x) (hne : some b ≠ v.ownBlock) : w'.cell? ⟨b, o, none⟩ = some x := h.grown.cell (a := ⟨b, o, none⟩) hc hne
theorem Gr.below {B : Nat} {w w' : World} {v v' : Value} {l : List UInt8} (h : Gr w v w' v') (ho : Bs B w v l) (hB : B ≤ w.heap.size) : Below B w w' := (Below.refl _ _).grown h.grown hB fun q hq => (ho.lt q hq).1
theorem Bs.none (B : Nat) (w : World) : Bs B w (.slice none 0 0) [] := World.ownsRow_nil _ _ _ _
theorem Bs.alloc {B : Nat} {w : World} {v : Value} {l : List UInt8} (h : Bs B w v l) (o : Obj) : Bs B (w.alloc o) v l := World.ownsRow.alloc h o
theorem Bs.form {B : Nat} {w : World} {v : Value} {l : List UInt8} (h : Bs B w v l) : ∃ a c, v = .slice a l.length c := by
  rcases h.2 with ⟨h1, h2⟩ | ⟨g, cap, cur, h1, _⟩
  · rw [h1, h2]; exact ⟨_, _, rfl⟩
  · exact ⟨_, _, h1⟩
theorem Bs.form1 {B : Nat} {w : World} {v : Value} {l : List UInt8} (h : Bs B w v l) (h0 : 0 < l.length) : ∃ g c, v = .slice (some ⟨g, 0, .none⟩) l.length c ∧ Own8 B w g l.length c l := by
  rcases h.2 with ⟨h1, h2⟩ | ⟨g, cap, cur, h1, _⟩
  · omega
  · subst h1; exact ⟨_, _, rfl, h⟩
theorem Bs.sl {B : Nat} {w : World} {v : Value} {l : List UInt8} (h : Bs B w v l) (hm : l.length ≤ 9223372036854775807) : ∃ a c, v = .slice a l.length c ∧ Sl w a l.length c l := by
  obtain ⟨a, c, e, hb⟩ := h.bytes
  exact ⟨a, c, e, hb, hm⟩
theorem cell_one_new (w : World) (v : Value) (t : TypeId) : ∀ j u, [v][j]? = some u → (w.alloc (.cells #[v] t)).cell? ((⟨w.heap.size, 0, none⟩ : Addr).add j) = some u := by
  intro j u hj
  match j, hj with
  | 0, hj => simp at hj; subst hj; simp [Addr.add, go_sem]
  | j + 1, hj => simp at hj
theorem byteCells_snoc (l : List UInt8) (x : Nat) : Lib.byteCells (l ++ [UInt8.ofNat x]) = Lib.byteCells l ++ [Value.int .u8 ((x % 256 : Nat) : Int)] := by simp [Lib.byteCells]
theorem byteCells_append (l k : List UInt8) : Lib.byteCells (l ++ k) = Lib.byteCells l ++ Lib.byteCells k := by simp [Lib.byteCells]
theorem byteCells_len (l : List UInt8) : (Lib.byteCells l).length = l.length := by simp [Lib.byteCells]

/-- one byte more: behind the append -/
theorem Bs.push {B n : Nat} {w w3 : World} {v : Value} {l : List UInt8} {x : Nat} {g c : Nat} {y : Int} {o : Obj} (hn : l.length = n) (hy : y = ((x % 256 : Nat) : Int))
    (hown : w3.ownsRow B 5 1 (.slice (some ⟨g, 0, .none⟩) (n + 1) c) (n + 1) (Lib.byteCells l ++ [Value.int .u8 y])) (hg : (w.alloc o).grownBy w3 v.ownBlock) (hat : v.ownBlock = some g ∨ g = w.heap.size + 1) :
    Bs B w3 (.slice (some ⟨g, 0, .none⟩) (n + 1) c) (l ++ [UInt8.ofNat x]) ∧ Gr w v w3 (.slice (some ⟨g, 0, .none⟩) (n + 1) c) := by
  subst hn hy
  refine ⟨?_, (Gr.alloc w v o).trans ⟨hg, fun q hq => ?_⟩⟩
  · unfold Bs
    rw [byteCells_snoc]
    simpa using hown
  · simp only [Value.ownBlock, Option.some.injEq] at hq
    subst hq
    rcases hat with h | h
    · exact .inl h
    · right; simp; omega
/-- many bytes more: behind the append -/
theorem Bs.pushes {B n m : Nat} {w w3 : World} {v : Value} {l k : List UInt8} {g c : Nat} (hn : l.length = n) (hm : k.length = m)
    (hown : w3.ownsRow B 5 1 (.slice (some ⟨g, 0, .none⟩) (n + m) c) (n + m) (Lib.byteCells l ++ Lib.byteCells k)) (hg : w.grownBy w3 v.ownBlock) (hat : v.ownBlock = some g ∨ g = w.heap.size) :
    Bs B w3 (.slice (some ⟨g, 0, .none⟩) (n + m) c) (l ++ k) ∧ Gr w v w3 (.slice (some ⟨g, 0, .none⟩) (n + m) c) := by
  subst hn hm
  refine ⟨?_, ⟨hg, fun q hq => ?_⟩⟩
  · unfold Bs
    rw [byteCells_append, List.length_append]
    exact hown
  · simp only [Value.ownBlock, Option.some.injEq] at hq
    subst hq
    rcases hat with h | h
    · exact .inl h
    · right; omega

/-! ### nothing is appended -/
theorem run_append_zero {P : Program} (w : World) (base : Nat) (t ty e : TypeId) (i : TypeInfo) (size : Nat) (ht : P.underlying t = some (.slice e)) (hi : P.info? e = some i)
    (v : Value) (n : Nat) (xs : List Value) (hown : w.ownsRow base e size v n xs) (a : Option Addr) (c : Nat) :
    (Builtin.append_ #[t, t] ty #[v, .slice a 0 c]).run P w = .ok v w := by
  rcases hown.2 with ⟨rfl, rfl⟩ | ⟨g, cap, cur, rfl, _, _, hnc, _⟩
  · cases a <;> simp [Builtin.append_, run_underlying ht, sizeOf, typeInfo, hi, Builtin.lenOf, Builtin.firstCells, loadCells, loadCellsFrom]
  · cases a <;> simp [Builtin.append_, run_underlying ht, sizeOf, typeInfo, hi, Builtin.lenOf, Builtin.firstCells, hnc, storeCells, loadCells, loadCellsFrom]

theorem wpList_append_zero {P : Program} {w : World} {ops : Array Oper} {rest : List Oper} {o : Oper} {a : Act} {Q : Exit → Act → World → Prop} (hgd : o.guard = none) (s x : Operand) (t : TypeId)
    (ho : o.op = .call { callee := .builtin .append, args := #[s, x], argTypes := #[t, t] })
    (base : Nat) (e : TypeId) (i : TypeInfo) (size : Nat) (ht : P.underlying t = some (.slice e)) (hi : P.info? e = some i)
    (v : Value) (n : Nat) (xs : List Value) (hs : a.eval s = v) (hown : w.ownsRow base e size v n xs) (ad : Option Addr) (c : Nat) (hx : a.eval x = .slice ad 0 c)
    (h : wpList P ops Q rest (a.put o.dst v) w) : wpList P ops Q (o :: rest) a w := by
  refine wpList_plain hgd fun K hK => ?_
  have hrun := run_append_zero (P := P) w base t o.type e i size ht hi v n xs hown ad c
  unfold Oper.wp
  simp [execOp, ho, resolve, invoke, builtin, hs, hx, hrun, Result.andThen]
  exact hK _ _ h

/-! ### a row of lists of bytes, all of the call's own -/
def lv (x : Lr) : Value := .slice x.a x.l.length x.cap
theorem own_kind {w : World} {B1 B2 : Nat} {e1 e2 : TypeId} {s1 s2 n1 n2 : Nat} {v1 v2 : Value} {x1 x2 : List Value} (h1 : w.ownsRow B1 e1 s1 v1 n1 x1) (h2 : w.ownsRow B2 e2 s2 v2 n2 x2) (he : e1 ≠ e2) :
    ∀ g, v1.ownBlock = some g → v2.ownBlock ≠ some g := by
  intro g hg hg2
  rcases h1.2 with ⟨h, _⟩ | ⟨g1, cap1, cur1, h, _, hb1, _⟩
  · subst h; cases hg
  · rcases h2.2 with ⟨h', _⟩ | ⟨g2, cap2, cur2, h', _, hb2, _⟩
    · subst h'; cases hg2
    · subst h h'
      simp only [Value.ownBlock, Option.some.injEq] at hg hg2
      subst hg hg2
      rw [hb1] at hb2
      injection hb2 with hb2
      injection hb2 with _ hb2 _
      exact he hb2
theorem own_grown {w w' : World} {B : Nat} {e : TypeId} {s n : Nat} {v : Value} {xs : List Value} {row : Option Nat} (h : w.ownsRow B e s v n xs) (hg : w.grownBy w' row) (hne : ∀ g, v.ownBlock = some g → row ≠ some g) : w'.ownsRow B e s v n xs := by
  refine ⟨h.1, ?_⟩
  rcases h.2 with h0 | ⟨g, cap, cur, hv, a, hb, r⟩
  · exact .inl h0
  · refine .inr ⟨g, cap, cur, hv, a, ?_, r⟩
    rw [hg.block g (Array.getElem?_eq_some_iff.1 hb).1 (fun e => hne g (by rw [hv]; rfl) e.symm)]; exact hb
structure RowOut (B : Nat) (W : World) (v : Value) (ls : List Lr) : Prop where
  own : W.ownsRow B 77 1 v ls.length (ls.map lv)
  els : ∀ x ∈ ls, Bs B W (lv x) x.l
theorem RowOut.nil (B : Nat) (W : World) : RowOut B W (.slice none 0 0) [] := ⟨World.ownsRow_nil _ _ _ _, fun x hx => by cases hx⟩
theorem RowOut.keep {B : Nat} {W W' : World} {v : Value} {ls : List Lr} (h : RowOut B W v ls) (hb : Below W.heap.size W W') : RowOut B W' v ls := ⟨own_below h.own hb, fun x hx => (h.els x hx).keep hb⟩
theorem RowOut.lists {B : Nat} {W : World} {v : Value} {ls : List Lr} (h : RowOut B W v ls) : ∃ a c, v = .slice a ls.length c ∧ ListsIn W a ls := by
  rcases h.own.2 with ⟨h1, h2⟩ | ⟨g, cap, cur, h1, _, hg, hc, _⟩
  · have : ls = [] := List.eq_nil_of_length_eq_zero h2
    subst this
    exact ⟨none, 0, h1, .inl rfl⟩
  · refine ⟨some ⟨g, 0, none⟩, cap, h1, .inr ⟨g, 0, rfl, fun i hi => ⟨?_, ?_⟩⟩⟩
    · have := World.ownsRow.cells h.own (g := g) (by rw [h1]; rfl) i (lv (ln ls i)) (by simp [ln, hi])
      rw [addr_add] at this
      exact this
    · have := h.els (ln ls i) (by rw [ln_eq hi]; exact List.getElem_mem _)
      obtain ⟨a, c, e, hb⟩ := this.bytes
      unfold lv at e
      injection e with e1 _ _
      rw [e1]; exact hb.mem
/-- a list more: behind the append -/
theorem RowOut.push {B n : Nat} {w w3 : World} {v : Value} {ls : List Lr} {x : Lr} {g c : Nat} {o : Obj} (h : RowOut B w v ls) (hx : Bs B w (lv x) x.l) (hn : ls.length = n)
    (hown : w3.ownsRow B 77 1 (.slice (some ⟨g, 0, none⟩) (n + 1) c) (n + 1) (ls.map lv ++ [lv x])) (hg : (w.alloc o).grownBy w3 v.ownBlock) :
    RowOut B w3 (.slice (some ⟨g, 0, none⟩) (n + 1) c) (ls ++ [x]) := by
  subst hn
  refine ⟨by simpa using hown, fun y hy => ?_⟩
  have hy2 : Bs B w (lv y) y.l := by
    rcases List.mem_append.1 hy with hy | hy
    · exact h.els y hy
    · simp at hy; subst hy; exact hx
  exact own_grown (hy2.alloc o) hg fun q hq hq2 => own_kind h.own hy2 (by decide) q hq2 hq

/-! ### more of boxes, slices, lists -/
theorem Boxed.put {w : World} {h : Nat} {cs : Array Value} {t : TypeId} (hb : Boxed w h cs t) (j : Nat) (v : Value) : Boxed (w.setCell ⟨h, j, none⟩ v) h (cs.setIfInBounds j v) t := by
  obtain ⟨hlt, hk⟩ := Array.getElem?_eq_some_iff.1 hb
  show (w.heap.modify h _)[h]? = _
  rw [Array.getElem?_eq_getElem (by rw [Array.size_modify]; exact hlt), Array.getElem_modify_self, hk]
  rfl
/-- a front of a slice that ends where it ends -/
theorem Sl.cut {w : World} {a : Option Addr} {n c : Nat} {l : List UInt8} (h : Sl w a n c l) (k : Nat) (hk : k ≤ n) : Sl w a k k (l.take k) :=
  ⟨⟨(h.front k hk).at_.mem, (h.front k hk).at_.low, (h.front k hk).at_.len, Nat.le_refl _⟩, (h.front k hk).max⟩

theorem Sl.low_keep {w w' : World} {a : Option Addr} {n c n₀ : Nat} {l : List UInt8} (h : Sl w a n c l) (hlow : l ≠ [] → ∀ p, a = some p → p.block < n₀) (hb : Below n₀ w w') : Sl w' a n c l := by
  refine ⟨⟨?_, fun h0 p hp => Nat.lt_of_lt_of_le (h.at_.low h0 p hp) hb.size, h.at_.len, h.at_.cap⟩, h.max⟩
  rcases h.at_.mem with h0 | ⟨b, off, ha, hc⟩
  · exact .inl h0
  · by_cases h0 : l = []
    · exact .inl h0
    · exact .inr ⟨b, off, ha, fun i hi => (hb.cell (p := ⟨b, off + i, none⟩) (hlow h0 ⟨b, off, .none⟩ ha)).trans (hc i hi)⟩
theorem RowOut.far {B g : Nat} {W W' : World} {v : Value} {ls : List Lr} (h : RowOut B W v ls) (hg : W.grownBy W' (some g)) (hlt : g < B) : RowOut B W' v ls :=
  ⟨own_grown h.own hg fun q hq e => by have := (h.own.lt q hq).1; injection e with e; omega, fun x hx => own_grown (h.els x hx) hg fun q hq e => by have := ((h.els x hx).lt q hq).1; injection e with e; omega⟩
theorem ln_take {ls : List Lr} {m i : Nat} (h : i < m) : ln (ls.take m) i = ln ls i := by
  unfold ln
  rw [List.getD_eq_getElem?_getD, List.getD_eq_getElem?_getD, List.getElem?_take_of_lt h]
theorem ListsIn.take {W : World} {a : Option Addr} {ls : List Lr} (h : ListsIn W a ls) (m : Nat) : ListsIn W a (ls.take m) := by
  rcases h with h | ⟨b, off, e, hc⟩
  · subst h; exact .inl (by simp)
  · refine .inr ⟨b, off, e, fun i hi => ?_⟩
    rw [List.length_take] at hi
    rw [ln_take (by omega)]
    exact hc i (by omega)
end Go.Proofs.Ytfhihkogdnbghaa.bytes
