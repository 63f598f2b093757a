/-
  A map of cells by texts of keys, told as a function of keys: made, looked up, written, deleted from, counted.
-/
import Derived.Test.YtfchpcmiipnbjaaDoorTableSame
import Derived.Maps.OwnSet
import Derived.StringKeys
namespace Go.Proofs.YtfchpcmiipnbjaaDoor.table
open Go.ChangeShapes Go.WideShapes Go.ChangeAt Go.RowKit Go.Deep Go.Maps
open Go.Proofs.YtfchpcmiipnbjaaDoor.cell (C4 mrg all one zero In64)
set_option linter.unusedVariables false
set_option maxRecDepth 100000

def cellD (c : C4) : DataW Unit := .agg [.lit (.int .i64 c.n), .lit (.int .i64 c.s), .lit (.int .i64 c.lo), .lit (.int .i64 c.hi)]
theorem cellD_inj {c d : C4} (h : cellD c = cellD d) : c = d := by
  cases c; cases d; simp [cellD] at h; simp [h]
/-- how a cell reads as an element of a map -/
def cellR : Value → Option (DataW Unit × List MemPlace)
  | .agg cs => match cs.toList with
    | [.int .i64 a, .int .i64 b, .int .i64 c, .int .i64 d] => some (cellD ⟨a, b, c, d⟩, [])
    | _ => none
  | _ => none
theorem cellR_mk (c : C4) : cellR (.agg #[.int .i64 c.n, .int .i64 c.s, .int .i64 c.lo, .int .i64 c.hi]) = some (cellD c, []) := rfl
theorem cellR_inv {v : Value} {z : DataW Unit × List MemPlace} (h : cellR v = some z) : ∃ c : C4, v = .agg #[.int .i64 c.n, .int .i64 c.s, .int .i64 c.lo, .int .i64 c.hi] ∧ z = (cellD c, []) := by
  unfold cellR at h
  split at h
  · rename_i cs
    split at h
    · rename_i a b c d e
      injection h with h
      refine ⟨⟨a, b, c, d⟩, ?_, h.symm⟩
      have : cs = #[.int .i64 a, .int .i64 b, .int .i64 c, .int .i64 d] := by rw [← Array.toList_inj, e]
      rw [this]
    · cases h
  · cases h

def klit (k : List Int) : Lit := .string (ktext k)
theorem klit_ne {k k' : List Int} (h : k' ≠ k) : klit k' ≠ klit k := fun e => by
  unfold klit at e
  injection e with e
  exact h (ktext_inj e)
def kstr (k : List Int) : ByteArray := ⟨(ktext k).toArray⟩
theorem klaw : Keyed Tryd.prog 9 := string_keyed Tryd.underlying9
theorem kkey {k : List Int} (h : (ktext k).length ≤ maxLen) : keyOf Tryd.prog 9 (.string (kstr k)) = some (klit k) := by
  have := WideMaps.keyOf_string_mk (P := Tryd.prog) (k := 9) Tryd.underlying9 (s := kstr k) (by show (ktext k).toArray.size ≤ maxLen; simpa using h)
  simpa [klit, kstr] using this
theorem zeroC (w : World) : (zeroValue 55).run Tryd.prog w = .ok (.agg #[.int .i64 0, .int .i64 0, .int .i64 0, .int .i64 0]) w := by kernel_rfl

/-- block b is a map of at most n cells, at each key what f says -/
def MapIs (W : World) (b n : Nat) (f : List Int → Option C4) : Prop :=
  ∃ D : DataW Unit, W.ownsMap Tryd.prog 9 cellR b n D ∧ ∀ k, Maps.has D (klit k) = (f k).isSome ∧ D.atKey (klit k) (cellD zero) = cellD ((f k).getD zero)

theorem MapIs.lt {W : World} {b n : Nat} {f : List Int → Option C4} (h : MapIs W b n f) : b < W.heap.size := by obtain ⟨D, h1, _⟩ := h; exact h1.lt
theorem MapIs.kept {W W' : World} {b n : Nat} {f : List Int → Option C4} {row : Option Nat} (h : MapIs W b n f) (hg : W.grownBy W' row) (hne : some b ≠ row) : MapIs W' b n f := by
  obtain ⟨D, h1, h2⟩ := h; exact ⟨D, h1.kept hg hne, h2⟩
theorem MapIs.keep {W W' : World} {b n : Nat} {f : List Int → Option C4} (h : MapIs W b n f) (hb : Below W.heap.size W W') : MapIs W' b n f :=
  h.kept (row := none) ⟨hb.os, hb.tape, hb.output, hb.size, fun k hk _ => hb.block k hk⟩ (by simp)
theorem MapIs.setCell {W : World} {b n : Nat} {f : List Int → Option C4} (h : MapIs W b n f) {a : Addr} (ha : b ≠ a.block) (u : Value) : MapIs (W.setCell a u) b n f := by
  obtain ⟨D, h1, h2⟩ := h; exact ⟨D, h1.setCell ha u, h2⟩
theorem MapIs.made (w : World) : MapIs (w.alloc (.map #[] 0)) w.heap.size 0 fun _ => none :=
  ⟨_, World.ownsMap_made w Tryd.prog 9 cellR, fun k => ⟨rfl, rfl⟩⟩

section
variable (w : World) {ops : Array Oper} {rest : List Oper} {o : Oper} {a : Act} {Q : Exit → Act → World → Prop}

theorem wpList_look (hg : o.guard = none) (m x : Operand) (hop : o.op = Op.lookup 77 m x false) (b n : Nat) (f : List Int → Option C4) (hm : a.eval m = .map (some b)) (h : MapIs w b n f)
    (k : List Int) (c : C4) (hx : a.eval x = .string (kstr k)) (hl : (ktext k).length ≤ maxLen) (hc : (f k).getD zero = c)
    (hK : wpList Tryd.prog ops Q rest (a.put o.dst (.agg #[.int .i64 c.n, .int .i64 c.s, .int .i64 c.lo, .int .i64 c.hi])) w) : wpList Tryd.prog ops Q (o :: rest) a w := by
  obtain ⟨D, h1, h2⟩ := h
  refine wpList_plain hg fun K' hK' => ?_
  obtain ⟨v, ps, hrun, hv⟩ := h1.lookup klaw Tryd.underlying77 (zeroC w) (cellR_mk zero) (kkey hl)
  obtain ⟨c', rfl, e⟩ := cellR_inv hv
  have : c' = c := cellD_inj (by rw [← hc, ← (h2 k).2]; exact (congrArg Prod.fst e).symm)
  subst this
  unfold Oper.wp
  simp [execOp, hop, hm, hx, hrun, Result.andThen]
  exact hK' _ _ hK

theorem wpList_look_ok (hg : o.guard = none) (m x : Operand) (hop : o.op = Op.lookup 77 m x true) (b n : Nat) (f : List Int → Option C4) (hm : a.eval m = .map (some b)) (h : MapIs w b n f)
    (k : List Int) (c : C4) (r : Bool) (hx : a.eval x = .string (kstr k)) (hl : (ktext k).length ≤ maxLen) (hc : (f k).getD zero = c) (hr : (f k).isSome = r)
    (hK : wpList Tryd.prog ops Q rest (a.put o.dst (.tuple #[.agg #[.int .i64 c.n, .int .i64 c.s, .int .i64 c.lo, .int .i64 c.hi], .bool r])) w) : wpList Tryd.prog ops Q (o :: rest) a w := by
  obtain ⟨D, h1, h2⟩ := h
  refine wpList_lookup_own_ok w hg m x _ hop 9 55 klaw Tryd.underlying77 cellR (zeroC w) (cellD zero) [] (cellR_mk zero) b n D hm h1 _ (klit k) hx (kkey hl) fun v ps hv => ?_
  obtain ⟨c', rfl, e⟩ := cellR_inv hv
  have : c' = c := cellD_inj (by rw [← hc, ← (h2 k).2]; exact (congrArg Prod.fst e).symm)
  subst this
  rw [(h2 k).1, hr]; exact hK

theorem wpList_upd (hg : o.guard = none) (m x v : Operand) (hop : o.op = Op.mapUpdate 77 m x v) (b n : Nat) (f : List Int → Option C4) (hm : a.eval m = .map (some b)) (h : MapIs w b n f) (hn : n < maxLen)
    (k : List Int) (c : C4) (hx : a.eval x = .string (kstr k)) (hv : a.eval v = .agg #[.int .i64 c.n, .int .i64 c.s, .int .i64 c.lo, .int .i64 c.hi]) (hl : (ktext k).length ≤ maxLen)
    (hK : ∀ w', MapIs w' b (n + 1) (fun k' => if k' = k then some c else f k') → w.grownBy w' (some b) → wpList Tryd.prog ops Q rest (a.put o.dst undef) w') : wpList Tryd.prog ops Q (o :: rest) a w := by
  obtain ⟨D, h1, h2⟩ := h
  refine wpList_mapUpdate_own w hg m x v _ hop 9 55 klaw Tryd.underlying77 cellR b n D hm h1 hn _ _ (klit k) hx hv (kkey hl) (cellD c) [] (cellR_mk c) fun w' h3 h4 => ?_
  refine hK w' ⟨_, h3, fun k' => ?_⟩ h4
  by_cases e : k' = k
  · subst e
    rw [Maps.has_put_same h1.isMap (show WideAt.IsKeyLit (klit k') from trivial), Maps.atKey_put_same h1.isMap (show WideAt.IsKeyLit (klit k') from trivial)]
    simp
  · rw [Maps.has_put_other (klit_ne e), Maps.atKey_put_other (klit_ne e)]
    simp only [if_neg e]
    exact h2 k'

theorem wpList_del (hg : o.guard = none) (m x : Operand) (hop : o.op = Op.call { callee := Callee.builtin Builtin.delete, args := #[m, x], argTypes := #[77, 9] }) (b n : Nat) (f : List Int → Option C4) (hm : a.eval m = .map (some b)) (h : MapIs w b n f)
    (k : List Int) (hx : a.eval x = .string (kstr k)) (hl : (ktext k).length ≤ maxLen)
    (hK : ∀ w', MapIs w' b n (fun k' => if k' = k then none else f k') → w.grownBy w' (some b) → wpList Tryd.prog ops Q rest (a.put o.dst (.tuple #[])) w') : wpList Tryd.prog ops Q (o :: rest) a w := by
  obtain ⟨D, h1, h2⟩ := h
  refine wpList_delete_own w hg m x _ _ hop 55 klaw Tryd.underlying77 cellR b n D hm h1 _ (klit k) hx (kkey hl) fun w' h3 h4 => ?_
  refine hK w' ⟨_, h3, fun k' => ?_⟩ h4.grown
  by_cases e : k' = k
  · subst e
    rw [Maps.has_del_same, Maps.atKey_del_same]
    simp
  · rw [Maps.has_del_other (klit_ne e), Maps.atKey_del_other (klit_ne e)]
    simp only [if_neg e]
    exact h2 k'

theorem wpList_mlen (hg : o.guard = none) (m : Operand) (hop : o.op = Op.call { callee := Callee.builtin Builtin.len, args := #[m], argTypes := #[77] }) (b n : Nat) (f : List Int → Option C4) (hm : a.eval m = .map (some b)) (h : MapIs w b n f)
    (hK : ∀ s : Nat, s ≤ n → wpList Tryd.prog ops Q rest (a.put o.dst (.int .i64 s)) w) : wpList Tryd.prog ops Q (o :: rest) a w := by
  obtain ⟨D, h1, h2⟩ := h
  exact wpList_len_own w hg m _ hop 9 55 Tryd.underlying77 cellR b n D hm h1 (hK _ h1.size_le)
end
end Go.Proofs.YtfchpcmiipnbjaaDoor.table
