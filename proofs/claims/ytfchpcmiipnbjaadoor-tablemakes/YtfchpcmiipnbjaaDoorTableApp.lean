/-
  Appending nothing; a key that the chapter copies (its 'ints'); facts in memory.
-/
import Derived.Test.YtfchpcmiipnbjaaDoorTableSame
import Derived.Deep.AppendLies
namespace Go.Proofs.YtfchpcmiipnbjaaDoor.table
open Go.ChangeShapes Go.WideShapes Go.ChangeAt Go.RowKit Go.Deep
open Go.Proofs.YtfchpcmiipnbjaaDoor.dims (nth Ints cell_lt cmpL vals vals_len vals_get vals_one vals_app own_below own_mono own_out RowOut info_int ret_bool ret_int cmp_any refCmp_any)
open Go.Proofs.YtfchpcmiipnbjaaDoor.cell (C4 mrg all one zero In64)
set_option linter.unusedVariables false
set_option maxRecDepth 100000

theorem run_append_zero {P : Program} (w : World) (base : Nat) (t ty e : TypeId) (i : TypeInfo) (size : Nat) (ht : P.underlying t = some (.slice e)) (hi : P.info? e = some i)
    (v : Value) (n : Nat) (xs : List Value) (hown : w.ownsRow base e size v n xs) (a : Option Addr) (c : Nat) :
    (Builtin.append_ #[t, t] ty #[v, .slice a 0 c]).run P w = .ok v w := by
  rcases hown.2 with ⟨rfl, rfl⟩ | ⟨g, cap, cur, rfl, _, _, hnc, _⟩
  · cases a <;> simp [Builtin.append_, run_underlying ht, sizeOf, typeInfo, hi, Builtin.lenOf, Builtin.firstCells, loadCells, loadCellsFrom]
  · cases a <;> simp [Builtin.append_, run_underlying ht, sizeOf, typeInfo, hi, Builtin.lenOf, Builtin.firstCells, hnc, storeCells, loadCells, loadCellsFrom]

theorem wpList_append_zero {P : Program} {w : World} {ops : Array Oper} {rest : List Oper} {o : Oper} {a : Act} {Q : Exit → Act → World → Prop} (hgd : o.guard = none) (s x : Operand) (t : TypeId)
    (ho : o.op = .call { callee := .builtin .append, args := #[s, x], argTypes := #[t, t] })
    (base : Nat) (e : TypeId) (i : TypeInfo) (size : Nat) (ht : P.underlying t = some (.slice e)) (hi : P.info? e = some i)
    (v : Value) (n : Nat) (xs : List Value) (hs : a.eval s = v) (hown : w.ownsRow base e size v n xs) (ad : Option Addr) (c : Nat) (hx : a.eval x = .slice ad 0 c)
    (h : wpList P ops Q rest (a.put o.dst v) w) : wpList P ops Q (o :: rest) a w := by
  refine wpList_plain hgd fun K hK => ?_
  have hrun := run_append_zero (P := P) w base t o.type e i size ht hi v n xs hown ad c
  unfold Oper.wp
  simp [execOp, ho, resolve, invoke, builtin, hs, hx, hrun, Result.andThen]
  exact hK _ _ h

theorem key_own {w : World} {B : Nat} {v : Value} {l : List Int} (h : w.ownsRow B 3 1 v l.length (vals l)) (hw : ∀ x ∈ l, In64 x) : KeyOut w v l := by
  obtain ⟨a, cap, e, hI, hc⟩ := (own_out h).1
  refine ⟨a, cap, e, hI, rfl, hc, ?_, hw⟩
  rcases h.2 with ⟨hv, h0⟩ | ⟨g, cap', cur, hv, _, _, _, hm, _⟩
  · rw [e] at hv
    simp only [Value.slice.injEq] at hv
    omega
  · rw [e] at hv
    simp only [Value.slice.injEq] at hv
    rw [hv.2.2]; exact Nat.le_trans hm maxLen_le2

set_option maxHeartbeats 2000000 in
theorem ints_any (a : Option Addr) (n cap : Nat) (l : List Int) (w : World) (h : KeyOk w a n cap l) (hn : n ≤ 1000000) :
    Calls Tryd.prog 52 #[.slice a n cap] w fun e w' => ∃ v, e = .returned v ∧ KeyOut w' v l ∧ Below w.heap.size w w' ∧ ∀ b o m c, v = .slice (some ⟨b, o, none⟩) m c → w.heap.size ≤ b := by
  obtain ⟨i0, hi, hz0, hz1, hz2⟩ := info_parts info_int
  by_cases h0 : n = 0
  · subst h0
    have hl : l = [] := List.eq_nil_of_length_eq_zero h.len
    subst hl
    go_enter Tryd.func52, Tryd.ntmps52
    go_wp2_with (at_builtin; refine wpList_append_zero rfl _ _ 38 rfl w.heap.size 3 i0 1 Tryd.underlying38 hi _ 0 [] rfl (World.ownsRow_nil _ _ _ _) a cap rfl ?_)
    go_ret
    exact ⟨_, rfl, ⟨none, 0, rfl, KeyOk.nil w⟩, Below.refl _ _, fun b o m c e => by cases e⟩
  · have hl := h.len
    obtain ⟨b, off, ha, hc⟩ := h.mem.get (k := 0) (by omega)
    subst ha
    have hnews : ∀ j u, (vals l)[j]? = some u → w.cell? ((⟨b, off, none⟩ : Addr).add j) = some u := by
      obtain ⟨ad, e, hk⟩ := key_cells h (by rw [vals_len]; omega)
      injection e with e
      subst e; exact hk
    have hvl : (vals l).length = n * 1 := by rw [vals_len, hl]; omega
    have H : Aside (∀ x ∈ l, In64 x) := h.wf
    have HL : Hid (l.length = n) := hl
    clear h hc hl
    go_enter Tryd.func52, Tryd.ntmps52
    go_wp2_with (at_builtin; refine wpList_append_lies _ rfl _ _ 38 rfl w.heap.size 3 i0 _ 1 8 Tryd.underlying38 hi hz0 hz1 hz2 rfl (by decide) _ 0 [] rfl (World.ownsRow_nil _ _ _ _) ⟨b, off, none⟩ n cap (vals l) rfl hvl hnews (vals_one _) (by omega) (by unfold maxLen; omega) (by omega) (Nat.le_refl _) _ rfl ?_; intro g c3 w3 hown3 hgrow hat hglt)
    go_ret
    refine ⟨_, rfl, key_own (B := w.heap.size) ?_ H.out, (Below.refl _ _).grown hgrow (Nat.le_refl _) (fun q hq => by cases hq), fun b o m c e => ?_⟩
    rotate_left
    · change Value.slice (some ⟨g, 0, none⟩) n c3 = _ at e
      simp only [Value.slice.injEq, Option.some.injEq, Addr.mk.injEq] at e
      rw [← e.1.1]; exact (hown3.lt g rfl).1
    rw [HL.out]
    simpa using hown3

/-- a fact: where its key lies, the key, its number -/
structure Ft where
  a : Option Addr
  cap : Nat
  k : List Int
  v : Int
def ftn (fs : List Ft) (i : Nat) : Ft := fs.getD i ⟨none, 0, [], 0⟩
def pf (f : Ft) : PFact := (f.k, f.v)
def factRow (f : Ft) : Rw := ⟨f.a, f.cap, f.k, one f.v⟩
def FactsIn (w : World) (a : Option Addr) (fs : List Ft) : Prop :=
  fs = [] ∨ ∃ b off, a = some ⟨b, off, none⟩ ∧ ∀ i, i < fs.length → w.cell? ⟨b, off + i * 2, none⟩ = some (.slice (ftn fs i).a (ftn fs i).k.length (ftn fs i).cap) ∧ w.cell? ⟨b, off + i * 2 + 1, none⟩ = some (.int .i64 (ftn fs i).v) ∧ KeyOk w (ftn fs i).a (ftn fs i).k.length (ftn fs i).cap (ftn fs i).k
theorem FactsIn.keep {w w1 : World} {a : Option Addr} {fs : List Ft} (h : FactsIn w a fs) (hb : Below w.heap.size w w1) : FactsIn w1 a fs := by
  rcases h with h | ⟨b, off, ha, hc⟩
  · exact .inl h
  · refine .inr ⟨b, off, ha, fun i hi => ?_⟩
    obtain ⟨h1, h2, h3⟩ := hc i hi
    exact ⟨(hb.cell (p := ⟨b, off + i * 2, none⟩) (cell_lt h1)).trans h1, (hb.cell (p := ⟨b, off + i * 2 + 1, none⟩) (cell_lt h2)).trans h2, h3.keep hb⟩
theorem FactsIn.get {w : World} {a : Option Addr} {fs : List Ft} (h : FactsIn w a fs) {k : Nat} (hk : k < fs.length) : ∃ b off, a = some ⟨b, off, none⟩ ∧ ∀ i, i < fs.length → w.cell? ⟨b, off + i * 2, none⟩ = some (.slice (ftn fs i).a (ftn fs i).k.length (ftn fs i).cap) ∧ w.cell? ⟨b, off + i * 2 + 1, none⟩ = some (.int .i64 (ftn fs i).v) ∧ KeyOk w (ftn fs i).a (ftn fs i).k.length (ftn fs i).cap (ftn fs i).k := by
  rcases h with rfl | h
  · simp at hk
  · exact h
theorem ftn_mem {fs : List Ft} {i : Nat} (h : i < fs.length) : ftn fs i ∈ fs := by simp [ftn, h]
theorem ftn_eq {fs : List Ft} {i : Nat} (h : i < fs.length) : ftn fs i = fs[i] := by simp [ftn, h]
end Go.Proofs.YtfchpcmiipnbjaaDoor.table
