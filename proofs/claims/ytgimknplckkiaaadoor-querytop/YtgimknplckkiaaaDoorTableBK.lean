/-
  A map of cells by texts of keys, told as a function of keys: made, looked up, written, deleted from, counted.
  The contract of table.text: the text of a key.
  The contract of the library's sort at rows: what rises by keys, of the same rows.
  The plain mathematics of rows at keys of their own, in any order. Nothing of the program.
  The contract of table.rise: each cell of the map at its key, once, by rising keys.
  The contract of table.gather: the table of rows, each at the key that is told for its own.
  The walk of table.gather.
-/
import Derived.Test.YtgimknplckkiaaaDoorTableAK
import Derived.Maps.OwnSet
import Derived.StringKeys
import Derived.Test.YtgimknplckkiaaaDoorTableLayText
import Derived.Laws.IdiomStrings
import Derived.Test.YtgimknplckkiaaaDoorTableLaySort
import Derived.Test.YtgimknplckkiaaaDoorTableMath
namespace Go.Proofs.YtgimknplckkiaaaDoor.table
open Go.ChangeShapes Go.WideShapes Go.ChangeAt Go.RowKit Go.Deep Go.Maps
open Go.Proofs.YtgimknplckkiaaaDoor.cell (C4 mrg all one zero In64)
set_option linter.unusedVariables false
set_option maxRecDepth 100000

def cellD (c : C4) : DataW Unit := .agg [.lit (.int .i64 c.n), .lit (.int .i64 c.s), .lit (.int .i64 c.lo), .lit (.int .i64 c.hi)]
theorem cellD_inj {c d : C4} (h : cellD c = cellD d) : c = d := by
  cases c; cases d; simp [cellD] at h; simp [h]
/-- how a cell reads as an element of a map -/
def cellR : Value → Option (DataW Unit × List MemPlace)
  | .agg cs => match cs.toList with
    | [.int .i64 a, .int .i64 b, .int .i64 c, .int .i64 d] => some (cellD ⟨a, b, c, d⟩, [])
    | _ => none
  | _ => none
theorem cellR_mk (c : C4) : cellR (.agg #[.int .i64 c.n, .int .i64 c.s, .int .i64 c.lo, .int .i64 c.hi]) = some (cellD c, []) := rfl
theorem cellR_inv {v : Value} {z : DataW Unit × List MemPlace} (h : cellR v = some z) : ∃ c : C4, v = .agg #[.int .i64 c.n, .int .i64 c.s, .int .i64 c.lo, .int .i64 c.hi] ∧ z = (cellD c, []) := by
  unfold cellR at h
  split at h
  · rename_i cs
    split at h
    · rename_i a b c d e
      injection h with h
      refine ⟨⟨a, b, c, d⟩, ?_, h.symm⟩
      have : cs = #[.int .i64 a, .int .i64 b, .int .i64 c, .int .i64 d] := by rw [← Array.toList_inj, e]
      rw [this]
    · cases h
  · cases h

def klit (k : List Int) : Lit := .string (ktext k)
theorem klit_ne {k k' : List Int} (h : k' ≠ k) : klit k' ≠ klit k := fun e => by
  unfold klit at e
  injection e with e
  exact h (ktext_inj e)
def kstr (k : List Int) : ByteArray := ⟨(ktext k).toArray⟩
theorem klaw : Keyed Tryd.prog 9 := string_keyed Tryd.underlying9
theorem kkey {k : List Int} (h : (ktext k).length ≤ maxLen) : keyOf Tryd.prog 9 (.string (kstr k)) = some (klit k) := by
  have := WideMaps.keyOf_string_mk (P := Tryd.prog) (k := 9) Tryd.underlying9 (s := kstr k) (by show (ktext k).toArray.size ≤ maxLen; simpa using h)
  simpa [klit, kstr] using this
theorem zeroC (w : World) : (zeroValue 61).run Tryd.prog w = .ok (.agg #[.int .i64 0, .int .i64 0, .int .i64 0, .int .i64 0]) w := by kernel_rfl

/-- block b is a map of at most n cells, at each key what f says -/
def MapIs (W : World) (b n : Nat) (f : List Int → Option C4) : Prop :=
  ∃ D : DataW Unit, W.ownsMap Tryd.prog 9 cellR b n D ∧ ∀ k, Maps.has D (klit k) = (f k).isSome ∧ D.atKey (klit k) (cellD zero) = cellD ((f k).getD zero)

theorem MapIs.lt {W : World} {b n : Nat} {f : List Int → Option C4} (h : MapIs W b n f) : b < W.heap.size := by obtain ⟨D, h1, _⟩ := h; exact h1.lt
theorem MapIs.kept {W W' : World} {b n : Nat} {f : List Int → Option C4} {row : Option Nat} (h : MapIs W b n f) (hg : W.grownBy W' row) (hne : some b ≠ row) : MapIs W' b n f := by
  obtain ⟨D, h1, h2⟩ := h; exact ⟨D, h1.kept hg hne, h2⟩
theorem MapIs.keep {W W' : World} {b n : Nat} {f : List Int → Option C4} (h : MapIs W b n f) (hb : Below W.heap.size W W') : MapIs W' b n f :=
  h.kept (row := none) ⟨hb.os, hb.tape, hb.output, hb.size, fun k hk _ => hb.block k hk⟩ (by simp)
theorem MapIs.setCell {W : World} {b n : Nat} {f : List Int → Option C4} (h : MapIs W b n f) {a : Addr} (ha : b ≠ a.block) (u : Value) : MapIs (W.setCell a u) b n f := by
  obtain ⟨D, h1, h2⟩ := h; exact ⟨D, h1.setCell ha u, h2⟩
theorem MapIs.made (w : World) : MapIs (w.alloc (.map #[] 0)) w.heap.size 0 fun _ => none :=
  ⟨_, World.ownsMap_made w Tryd.prog 9 cellR, fun k => ⟨rfl, rfl⟩⟩

section
variable (w : World) {ops : Array Oper} {rest : List Oper} {o : Oper} {a : Act} {Q : Exit → Act → World → Prop}

theorem wpList_look (hg : o.guard = none) (m x : Operand) (hop : o.op = Op.lookup 101 m x false) (b n : Nat) (f : List Int → Option C4) (hm : a.eval m = .map (some b)) (h : MapIs w b n f)
    (k : List Int) (c : C4) (hx : a.eval x = .string (kstr k)) (hl : (ktext k).length ≤ maxLen) (hc : (f k).getD zero = c)
    (hK : wpList Tryd.prog ops Q rest (a.put o.dst (.agg #[.int .i64 c.n, .int .i64 c.s, .int .i64 c.lo, .int .i64 c.hi])) w) : wpList Tryd.prog ops Q (o :: rest) a w := by
  obtain ⟨D, h1, h2⟩ := h
  refine wpList_plain hg fun K' hK' => ?_
  obtain ⟨v, ps, hrun, hv⟩ := h1.lookup klaw Tryd.underlying101 (zeroC w) (cellR_mk zero) (kkey hl)
  obtain ⟨c', rfl, e⟩ := cellR_inv hv
  have : c' = c := cellD_inj (by rw [← hc, ← (h2 k).2]; exact (congrArg Prod.fst e).symm)
  subst this
  unfold Oper.wp
  simp [execOp, hop, hm, hx, hrun, Result.andThen]
  exact hK' _ _ hK

theorem wpList_look_ok (hg : o.guard = none) (m x : Operand) (hop : o.op = Op.lookup 101 m x true) (b n : Nat) (f : List Int → Option C4) (hm : a.eval m = .map (some b)) (h : MapIs w b n f)
    (k : List Int) (c : C4) (r : Bool) (hx : a.eval x = .string (kstr k)) (hl : (ktext k).length ≤ maxLen) (hc : (f k).getD zero = c) (hr : (f k).isSome = r)
    (hK : wpList Tryd.prog ops Q rest (a.put o.dst (.tuple #[.agg #[.int .i64 c.n, .int .i64 c.s, .int .i64 c.lo, .int .i64 c.hi], .bool r])) w) : wpList Tryd.prog ops Q (o :: rest) a w := by
  obtain ⟨D, h1, h2⟩ := h
  refine wpList_lookup_own_ok w hg m x _ hop 9 61 klaw Tryd.underlying101 cellR (zeroC w) (cellD zero) [] (cellR_mk zero) b n D hm h1 _ (klit k) hx (kkey hl) fun v ps hv => ?_
  obtain ⟨c', rfl, e⟩ := cellR_inv hv
  have : c' = c := cellD_inj (by rw [← hc, ← (h2 k).2]; exact (congrArg Prod.fst e).symm)
  subst this
  rw [(h2 k).1, hr]; exact hK

theorem wpList_upd (hg : o.guard = none) (m x v : Operand) (hop : o.op = Op.mapUpdate 101 m x v) (b n : Nat) (f : List Int → Option C4) (hm : a.eval m = .map (some b)) (h : MapIs w b n f) (hn : n < maxLen)
    (k : List Int) (c : C4) (hx : a.eval x = .string (kstr k)) (hv : a.eval v = .agg #[.int .i64 c.n, .int .i64 c.s, .int .i64 c.lo, .int .i64 c.hi]) (hl : (ktext k).length ≤ maxLen)
    (hK : ∀ w', MapIs w' b (n + 1) (fun k' => if k' = k then some c else f k') → w.grownBy w' (some b) → wpList Tryd.prog ops Q rest (a.put o.dst undef) w') : wpList Tryd.prog ops Q (o :: rest) a w := by
  obtain ⟨D, h1, h2⟩ := h
  refine wpList_mapUpdate_own w hg m x v _ hop 9 61 klaw Tryd.underlying101 cellR b n D hm h1 hn _ _ (klit k) hx hv (kkey hl) (cellD c) [] (cellR_mk c) fun w' h3 h4 => ?_
  refine hK w' ⟨_, h3, fun k' => ?_⟩ h4
  by_cases e : k' = k
  · subst e
    rw [Maps.has_put_same h1.isMap (show WideAt.IsKeyLit (klit k') from trivial), Maps.atKey_put_same h1.isMap (show WideAt.IsKeyLit (klit k') from trivial)]
    simp
  · rw [Maps.has_put_other (klit_ne e), Maps.atKey_put_other (klit_ne e)]
    simp only [if_neg e]
    exact h2 k'

theorem wpList_del (hg : o.guard = none) (m x : Operand) (hop : o.op = Op.call { callee := Callee.builtin Builtin.delete, args := #[m, x], argTypes := #[101, 9] }) (b n : Nat) (f : List Int → Option C4) (hm : a.eval m = .map (some b)) (h : MapIs w b n f)
    (k : List Int) (hx : a.eval x = .string (kstr k)) (hl : (ktext k).length ≤ maxLen)
    (hK : ∀ w', MapIs w' b n (fun k' => if k' = k then none else f k') → w.grownBy w' (some b) → wpList Tryd.prog ops Q rest (a.put o.dst (.tuple #[])) w') : wpList Tryd.prog ops Q (o :: rest) a w := by
  obtain ⟨D, h1, h2⟩ := h
  refine wpList_delete_own w hg m x _ _ hop 61 klaw Tryd.underlying101 cellR b n D hm h1 _ (klit k) hx (kkey hl) fun w' h3 h4 => ?_
  refine hK w' ⟨_, h3, fun k' => ?_⟩ h4.grown
  by_cases e : k' = k
  · subst e
    rw [Maps.has_del_same, Maps.atKey_del_same]
    simp
  · rw [Maps.has_del_other (klit_ne e), Maps.atKey_del_other (klit_ne e)]
    simp only [if_neg e]
    exact h2 k'

theorem wpList_mlen (hg : o.guard = none) (m : Operand) (hop : o.op = Op.call { callee := Callee.builtin Builtin.len, args := #[m], argTypes := #[101] }) (b n : Nat) (f : List Int → Option C4) (hm : a.eval m = .map (some b)) (h : MapIs w b n f)
    (hK : ∀ s : Nat, s ≤ n → wpList Tryd.prog ops Q rest (a.put o.dst (.int .i64 s)) w) : wpList Tryd.prog ops Q (o :: rest) a w := by
  obtain ⟨D, h1, h2⟩ := h
  exact wpList_len_own w hg m _ hop 9 61 Tryd.underlying101 cellR b n D hm h1 (hK _ h1.size_le)
end
end Go.Proofs.YtgimknplckkiaaaDoor.table

namespace Go.Proofs.YtgimknplckkiaaaDoor.table
open Go.ChangeShapes Go.WideShapes Go.ChangeAt Go.RowKit Go.Deep
open Go.Proofs.YtgimknplckkiaaaDoor.dims (nth Ints cell_lt)
open Go.Proofs.YtgimknplckkiaaaDoor.cell (C4 mrg all one zero In64)
set_option linter.unusedVariables false
set_option maxRecDepth 100000

theorem appendInt_any (B n : Nat) (i : Int) (h : In64 i) (sv : Value) (xs : List Value) (w : World) (hown : w.ownsRow B 5 1 sv n xs) (hB : B ≤ w.heap.size) (hl : n + 21 ≤ 140737488355328) (w0 : World) (hB0 : B = w0.heap.size) (hb : Below w0.heap.size w0 w) (hp : Pow w0) :
    Calls Tryd.prog 85 #[sv, .int .i64 i, .int .i64 10] w fun e w' => ∃ v', e = .returned v' ∧ w'.ownsRow B 5 1 v' (n + (Lib.itoa i).length) (xs ++ Lib.byteCells (Lib.itoa i)) ∧ Below B w w' := by
  subst hB0
  have hc := Any.strconv_AppendInt_10 Tryd.laysText w0.heap.size n i h.1 h.2 sv xs w hown hB hl (hp.below.on hb)
  change Calls Tryd.prog 85 _ _ _ at hc
  exact hc.mono fun e w' ⟨v', e1, e2, e3, _⟩ => ⟨v', e1, e2, e3⟩

theorem take_nthK (l : List Int) (k : Nat) (h : k < l.length) : l.take (k + 1) = l.take k ++ [nth l k] := by
  rw [List.take_succ_eq_append_getElem h]
  simp [nth, h]

set_option maxHeartbeats 4000000 in
theorem text_any (a : Option Addr) (n cap : Nat) (l : List Int) (w : World) (h : KeyOk w a n cap l) (hp : Pow w) (hn : n ≤ 1000000) :
    Calls Tryd.prog 73 #[.slice a n cap] w fun e w' => e = .returned (.string (kstr l)) ∧ Below w.heap.size w w' := by
  obtain ⟨i0, hi, hz0, hz1, hz2⟩ := info_parts info_u8
  have H : Aside (KeyOk w a n cap l ∧ Pow w) := ⟨h, hp⟩
  clear h hp
  go_enter Tryd.func73, Tryd.ntmps73
  go_wp2_with (at_make; refine wpList_make_own _ rfl _ _ 45 rfl w.heap.size 5 i0 (.int .u8 0) 1 Tryd.underlying45 hi hz0 hz1 .i64 .i64 _ (8 * n) rfl rfl (by omega) (by rw [hz2]; omega) (by unfold maxLen; omega) (Nat.le_refl _) ?_; intro w1 hown1 hg1; refine Hid.out ?_)
  refine Lib.hid ?_
  have S1 : Aside (w1.ownsRow w.heap.size 5 1 (.slice (some ⟨w.heap.size, 0, none⟩) 0 (8 * n)) (ktext (l.take 0)).length (Lib.byteCells (ktext (l.take 0))) ∧ Below w.heap.size w w1 ∧ Value.slice (some ⟨w.heap.size, 0, none⟩) 0 (8 * n) ≠ .slice none 0 0) :=
    ⟨by simpa [ktext, Lib.byteCells] using hown1, (Below.refl _ _).grown hg1 (Nat.le_refl _) (fun q hq => by cases hq), by simp⟩
  clear hown1 hg1
  go_wp2_with fail
  go_loopg [3, 12] n (fun g1 v vi wr => ∃ (k : Nat), vi = .int .i64 k ∧ k ≤ n ∧ n - k ≤ g1 ∧ Aside (wr.ownsRow w.heap.size 5 1 v (ktext (l.take k)).length (Lib.byteCells (ktext (l.take k))) ∧ Below w.heap.size w wr ∧ v ≠ .slice none 0 0))
  case atStart => exact ⟨0, rfl, Nat.zero_le _, Nat.le_refl _, S1⟩
  case round =>
    clear S1
    obtain ⟨k, rfl, hk, hg1, SK⟩ := hrel
    by_cases hlt : k < n
    · have hltz : (k : Int) < (n : Int) := by omega
      have hkl : k < l.length := by rw [H.out.1.len]; exact hlt
      obtain ⟨b, off, ha, hc⟩ := (H.out.1.keep SK.out.2.1).mem.get hkl
      subst ha
      have r0 := hc k hkl
      clear hc
      have hmem : nth l k ∈ l := by simp [nth, hkl]
      have h64 := H.out.1.wf _ hmem
      have HT : Hid (ktext (l.take (k + 1)) = ktext (l.take k) ++ (Lib.itoa (nth l k) ++ [44])) := by show _ = _; rw [take_nthK l k hkl, ktext_snoc]
      have hlen : (ktext (l.take k)).length ≤ 22000000 := by
        have h1 := ktext_len (l.take k) fun v hv => H.out.1.wf v (List.mem_of_mem_take hv)
        have h2 : (l.take k).length ≤ k := List.length_take_le _ _
        omega
      have hil : (Lib.itoa (nth l k)).length ≤ 21 := Lib.itoa_length_le _ h64.1 h64.2
      have hC := fun v (hv : wr.ownsRow w.heap.size 5 1 v (ktext (l.take k)).length (Lib.byteCells (ktext (l.take k)))) => appendInt_any w.heap.size _ (nth l k) h64 v _ wr hv SK.out.2.1.size (by omega) w rfl SK.out.2.1 H.out.2
      generalize nth l k = x at r0 hC HT hil
      generalize hT : ktext (l.take k) = t at SK HT hlen hC
      clear h64 hT hmem
      obtain ⟨m, hm⟩ : ∃ m, t.length = m := ⟨_, rfl⟩
      rw [hm] at SK hC hlen
      have HM : Hid (t.length = m) := hm
      clear hm
      go_wp2_with fail
      refine (hC _ SK.out.1).mono ?_
      rintro e w2 ⟨v2, rfl, hown2, hb2⟩
      have hbw : Below w.heap.size w w2 := SK.out.2.1.trans hb2
      have hsz := hbw.size
      obtain ⟨y, hy⟩ : ∃ y, (Lib.itoa x).length = y := ⟨_, rfl⟩
      have HY : Hid ((Lib.itoa x).length = y) := hy
      rw [hy] at hown2 hil
      clear hy hC r0
      go_wp2_with (at_builtin; refine wpList_append_own _ rfl _ _ 45 rfl w.heap.size 5 i0 (.int .u8 0) 1 1 Tryd.underlying45 hi hz0 hz1 hz2 rfl (by decide) _ _ _ rfl (hown2.alloc _) ⟨w2.heap.size, 0, none⟩ 1 1 [Value.int .u8 44] rfl rfl (cell_one_new _ _ _) (by intro u hu; simp at hu; subst hu; rfl) (by unfold maxLen; omega) (by omega) (by simp; omega) ?_; intro v3 w3 hown3 hg3 hnil3)
      have S2 : Aside (w3.ownsRow w.heap.size 5 1 v3 (ktext (l.take (k + 1))).length (Lib.byteCells (ktext (l.take (k + 1)))) ∧ Below w.heap.size w w3 ∧ v3 ≠ .slice none 0 0) := by
        refine ⟨?_, (hbw.alloc hsz _).grown hg3 (by simp; omega) (fun q hq => (hown2.lt q hq).1), fun e => by have := hnil3.1 e; omega⟩
        rw [HT.out]
        have e1 : (t ++ (Lib.itoa x ++ [44])).length = m + y + 1 := by simp [HM.out, HY.out]; omega
        have e2 : Lib.byteCells (t ++ (Lib.itoa x ++ [44])) = Lib.byteCells t ++ Lib.byteCells (Lib.itoa x) ++ [Value.int .u8 44] := by simp [Lib.byteCells]
        rw [e1, e2]; exact hown3
      clear hown3 hg3 hnil3 hown2 SK HT
      go_wp2
      go_roundg (n - (k + 1))
      case measure => omega
      case rel => exact ⟨k + 1, by go_num, by omega, by omega, S2⟩
    · have hltz : ¬ (k : Int) < (n : Int) := by omega
      have e : l.take k = l := List.take_of_length_le (by rw [H.out.1.len]; omega)
      have S3 := SK.out
      rw [e] at S3
      obtain ⟨h1, h2, h3⟩ := S3
      obtain ⟨t, ht⟩ : ∃ t, ktext l = t := ⟨_, rfl⟩
      have HTT : Hid (ktext l = t) := ht
      rw [ht] at h1
      clear SK e ht
      rcases h1.2 with ⟨h4, _⟩ | ⟨g, c2, cur, rfl, r⟩
      · exact absurd h4 h3
      · have hcv := run_convert_bytes_back (P := Tryd.prog) wr 45 9 5 ⟨g, 0, none⟩ c2 t Tryd.underlying45 Tryd.underlying5 Tryd.underlying9 (fun j hj => h1.cells (g := g) rfl j _ (by simp [Lib.byteCells, hj]))
        have HB : Aside _ := h2
        clear h1 h2 h3 r
        go_wp2
        go_ret
        have e := HTT.out
        subst e
        exact ⟨rfl, HB.out⟩
end Go.Proofs.YtgimknplckkiaaaDoor.table

namespace Go.Proofs.YtgimknplckkiaaaDoor.table
open Go.ChangeShapes Go.WideShapes Go.ChangeAt Go.RowKit Go.Deep
open Go.Proofs.YtgimknplckkiaaaDoor.dims (nth Ints cell_lt cmpL cmpL_zero cmpL_flip)
open Go.Proofs.YtgimknplckkiaaaDoor.cell (C4 mrg all one zero In64)
set_option linter.unusedVariables false
set_option maxRecDepth 100000

theorem sortWorld_below {α : Type} [Inhabited α] (enc : α → List Value) (k : Nat) (w : World) (blk off n : Nat) (d : Array α) (os : Array Obj) {B : Nat} (hB : B ≤ blk) (hs : B ≤ w.heap.size) : Below B w (sortWorldK enc k w blk off n d os) := by
  unfold sortWorldK Sort.putRowK Sort.putRow Sort.mapBlock Sort.grow Sort.ahead
  refine ⟨rfl, rfl, rfl, by simp, fun i hi => ?_⟩
  show ((w.heap.modify blk _) ++ os)[i]? = _
  rw [Array.getElem?_append_left (by simp; omega), Array.getElem?_modify, if_neg (by omega)]

/-- a key that lies below a block -/
def Low (B : Nat) (a : Option Addr) (l : List Int) : Prop := l = [] ∨ ∃ b off, a = some ⟨b, off, none⟩ ∧ b < B
theorem KeyOk.low {w : World} {a : Option Addr} {n cap : Nat} {l : List Int} (h : KeyOk w a n cap l) : Low w.heap.size a l := by
  rcases h.mem with e | ⟨b, off, ha, hc⟩
  · exact .inl e
  · by_cases e : l = []
    · exact .inl e
    · exact .inr ⟨b, off, ha, cell_lt (hc 0 (by cases l <;> simp_all))⟩
theorem KeyOk.keepB {w w1 : World} {B : Nat} {a : Option Addr} {n cap : Nat} {l : List Int} (h : KeyOk w a n cap l) (hL : Low B a l) (hb : Below B w w1) : KeyOk w1 a n cap l := by
  refine ⟨?_, h.len, h.lec, h.max, h.wf⟩
  rcases hL with e | ⟨b, off, ha, hlt⟩
  · exact .inl e
  · rcases h.mem with e | ⟨b2, off2, ha2, hc⟩
    · exact .inl e
    · rw [ha] at ha2
      injection ha2 with ha2
      injection ha2 with e1 e2
      subst e1 e2
      exact .inr ⟨b, off, ha, fun i hi => (hb.cell (p := ⟨b, off + i, none⟩) hlt).trans (hc i hi)⟩

/-- rows whose keys can be read -/
abbrev Ok (w : World) (B : Nat) : Type := { r : Rw // KeyOk w r.a r.k.length r.cap r.k ∧ Low B r.a r.k }
def encOk {w : World} {B : Nat} (x : Ok w B) : List Value := rowCells x.1
def cf {w : World} {B : Nat} (x y : Ok w B) : Int := cmpL x.1.k y.1.k

theorem lt_cf {w : World} {B : Nat} (x y : Ok w B) : ltOf cf x y = decide (cmpL x.1.k y.1.k < 0) := rfl
theorem swo_cf (w : World) (B : Nat) : Sort.SWO (ltOf (cf (w := w) (B := B))) := {
  irrefl := fun x => by rw [lt_cf, cmpL_self]; rfl
  trans := fun x y z h1 h2 => by
    rw [lt_cf] at *
    exact decide_eq_true (cmpL_trans (of_decide_eq_true h1) (of_decide_eq_true h2))
  ntrans := fun x y z h1 h2 => by
    rw [lt_cf] at *
    have g1 := of_decide_eq_false h1
    have g2 := of_decide_eq_false h2
    refine decide_eq_false fun h => ?_
    by_cases e1 : cmpL x.1.k y.1.k = 0
    · have := (cmpL_zero _ _).1 e1; rw [this] at h; exact g2 h
    · by_cases e2 : cmpL y.1.k z.1.k = 0
      · have := (cmpL_zero _ _).1 e2; rw [← this] at h; exact g1 h
      · have := cmpL_trans (cmpL_gt g2 e2) (cmpL_gt g1 e1)
        rw [cmpL_flip] at this; omega }

theorem cmp_lays (w : World) (B : Nat) (hB : B ≤ w.heap.size) (blk n : Nat) (hblk : B ≤ blk) [Inhabited (Ok w B)] : CmpLays Tryd.prog 88 #[] (encOk (w := w) (B := B)) 5 cf blk 0 n w :=
  fun m os dk hs x y => by
    have hW : Below B w (sortWorldK encOk 5 w blk 0 m dk os) := sortWorld_below _ _ _ _ _ _ _ _ hblk hB
    refine (closure_any x.1 y.1 _ (x.2.1.keepB x.2.2 hW) (y.2.1.keepB y.2.2 hW)).mono ?_
    rintro e w' ⟨he, o1, o2, hw⟩
    exact ⟨he, 0, #[o1, o2], by rw [hw, Sort.alloc_eq_grow, Sort.alloc_eq_grow, Sort.grow_grow]; rfl⟩

theorem oks {w : World} {B : Nat} {rs : List Rw} (hk : ∀ r ∈ rs, KeyOk w r.a r.k.length r.cap r.k ∧ Low B r.a r.k) : ∃ ds : List (Ok w B), ds.map (·.1) = rs := by
  induction rs with
  | nil => exact ⟨[], rfl⟩
  | cons r rs ih =>
    obtain ⟨ds, e⟩ := ih fun x hx => hk x (by simp [hx])
    exact ⟨⟨r, hk r (by simp)⟩ :: ds, by simp [e]⟩

theorem holds_of {w : World} {B : Nat} [Inhabited (Ok w B)] {base blk cap : Nat} {rs : List Rw} {ds : List (Ok w B)} (e : ds.map (·.1) = rs) (hown : w.ownsRow base 63 5 (.slice (some ⟨blk, 0, none⟩) rs.length cap) rs.length (flatR rs)) : Sort.HoldsK encOk 5 w blk 0 ds.toArray := by
  intro j hj
  have hl : ds.length = rs.length := by rw [← e]; simp
  rw [Sort.size_flatK, List.size_toArray] at hj
  refine ⟨?_, World.ownsRow.frozenAt hown _⟩
  rw [Nat.zero_add, World.ownsRow.cellAt hown j (by omega), Sort.get_flatK _ _ _ _ (by simpa using hj)]
  have hi : j / 5 < rs.length := by omega
  have hj5 : j % 5 < 5 := Nat.mod_lt _ (by omega)
  have ej : j = j / 5 * 5 + j % 5 := by omega
  have e1 : rwn rs (j / 5) = (ds.toArray[j / 5]!).1 := by
    subst e
    have h2 : j / 5 < ds.length := by omega
    simp [rwn, h2]
  conv => lhs; rw [ej]
  rw [flatR_get rs _ _ hi hj5, e1]
  show (rowCells _)[j % 5]? = some (id ((rowCells _)[j % 5]!))
  have hlen : j % 5 < (rowCells (ds.toArray[j / 5]!).1).length := by simp [rowCells]; omega
  rw [List.getElem?_eq_getElem hlen]
  show some _ = some ((rowCells _)[j % 5]!)
  rw [List.getElem!_of_getElem? (List.getElem?_eq_getElem hlen)]

set_option maxHeartbeats 1000000 in
theorem sort_any (w : World) (B : Nat) (hB : B ≤ w.heap.size) (blk cap : Nat) (hblk : B ≤ blk) (rs : List Rw) (hk : ∀ r ∈ rs, KeyOk w r.a r.k.length r.cap r.k ∧ Low B r.a r.k)
    (hown : w.ownsRow B 63 5 (.slice (some ⟨blk, 0, none⟩) rs.length cap) rs.length (flatR rs)) (hn : rs.length ≤ 1000000) :
    Calls Tryd.prog 87 #[.slice (some ⟨blk, 0, none⟩) rs.length cap, .func (.func 88) #[] #[]] w
      fun e w' => e = .returned (.tuple #[]) ∧ ∃ rs' : List Rw, rs'.Perm rs ∧ (rs'.Pairwise fun x y => ¬ cmpL y.k x.k < 0) ∧ RowsIn w' (some ⟨blk, 0, none⟩) rs' ∧ Below B w w' := by
  letI : Inhabited (Ok w B) := ⟨⟨⟨none, 0, [], zero⟩, KeyOk.nil w, .inl rfl⟩⟩
  obtain ⟨ds, e⟩ := oks hk
  have hl : ds.length = rs.length := by rw [← e]; simp
  have hbl : blk < w.heap.size := (hown.lt blk rfl).2
  have hH := holds_of e hown
  have hcon := AnyQ.slices_SortFunc Tryd.laysSort 5 Tryd.isAgg63 Tryd.sizeOf63 encOk (fun _ => rfl) (fun x => rowCells_one x.1) cf (swo_cf w B) 88 #[] blk 0 cap ds.toArray w
    (enters_of Tryd.func88 (by kernel_rfl) rfl) (cmp_lays w B hB blk _ hblk) hH hbl (by simp; omega)
  change Calls Tryd.prog 87 _ _ _ at hcon
  rw [show ds.toArray.size = rs.length by simpa using hl] at hcon
  refine hcon.mono ?_
  rintro e1 w' ⟨rfl, d', n, os, ⟨hs, _, hperm⟩, hsort, rfl⟩
  have hs' : d'.size = rs.length := by rw [hs]; simpa using hl
  have hW : Below B w (sortWorldK encOk 5 w blk 0 n d' os) := sortWorld_below _ _ _ _ _ _ _ _ hblk hB
  refine ⟨rfl, d'.toList.map (·.1), ?_, ?_, ?_, hW⟩
  · have : d'.toList.Perm ds := by
      have e1 : d'.extract 0 rs.length = d' := by rw [← hs']; simp
      have e2 : ds.toArray.extract 0 rs.length = ds.toArray := by rw [← hl]; simp
      rw [e1, e2] at hperm
      simpa using hperm
    rw [← e]; exact this.map _
  · rw [List.pairwise_map, List.pairwise_iff_getElem]
    intro i j hi hj hij
    have := hsort i j (Nat.zero_le _) hij (by simpa [hs'] using hj)
    rw [lt_cf] at this
    have := of_decide_eq_false this
    have hi' : i < d'.size := by simpa using hi
    have hj' : j < d'.size := by simpa using hj
    rw [getElem!_pos d' i hi', getElem!_pos d' j hj'] at this
    simpa using this
  · have hH2 := holdsK_sortWorldK encOk 5 w blk 0 n ds.toArray d' os hbl hH hs
    refine .inr ⟨blk, 0, rfl, fun i hi => ?_⟩
    have hi' : i < d'.size := by simpa using hi
    have ei : rwn (d'.toList.map (·.1)) i = (d'[i]!).1 := by simp [rwn, hi']
    rw [ei]
    refine ⟨?_, (d'[i]!).2.1.keepB (d'[i]!).2.2 hW⟩
    have c := fun j (hj : j < 5) => (hH2.cell hi' hj).1
    unfold CellsAt
    exact ⟨c 0 (by omega), c 1 (by omega), c 2 (by omega), c 3 (by omega), c 4 (by omega)⟩
end Go.Proofs.YtgimknplckkiaaaDoor.table

namespace Go.Proofs.YtgimknplckkiaaaDoor.table
open Go.RowKit
open Go.Proofs.YtgimknplckkiaaaDoor.dims (cmpL cmpI cmpL_zero cmpL_flip cmpL_in)
open Go.Proofs.YtgimknplckkiaaaDoor.cell (C4 mrg all one zero In64 mrg_all)

def Nd (t : List PRow) : Prop := (t.map (·.1)).Nodup
theorem look_iff {t : List PRow} (h : Nd t) {q : List Int} {c : C4} : look t q = some c ↔ (q, c) ∈ t := by
  induction t with
  | nil => simp [look]
  | cons x t ih =>
    have hn := List.nodup_cons.1 (show ((x :: t).map (·.1)).Nodup from h)
    rw [look]
    by_cases e : x.1 = q
    · rw [if_pos e]
      constructor
      · intro h1; injection h1 with h1; subst e h1; simp
      · intro h1
        rcases List.mem_cons.1 h1 with h1 | h1
        · rw [← h1]
        · exact absurd (List.mem_map.2 ⟨_, h1, rfl⟩) (by rw [← e]; exact hn.1)
    · rw [if_neg e, ih hn.2]
      constructor
      · exact fun h1 => List.mem_cons_of_mem _ h1
      · intro h1
        rcases List.mem_cons.1 h1 with h1 | h1
        · exact absurd (by rw [← h1]) e
        · exact h1
theorem look_perm {t t' : List PRow} (h : Nd t) (p : t.Perm t') (q : List Int) : look t q = look t' q := by
  have h' : Nd t' := (p.map _).nodup_iff.1 h
  cases e : look t' q with
  | some c => rw [look_iff h, p.mem_iff, ← look_iff h', e]
  | none =>
    cases e2 : look t q with
    | none => rfl
    | some c => rw [look_iff h, p.mem_iff, ← look_iff h', e] at e2; cases e2
theorem look_snoc (t : List PRow) (x : PRow) (q : List Int) : look (t ++ [x]) q = match look t q with | some c => some c | none => if x.1 = q then some x.2 else none := by
  induction t with
  | nil => simp [look]
  | cons y t ih =>
    rw [List.cons_append, look, look]
    by_cases e : y.1 = q
    · rw [if_pos e, if_pos e]
    · rw [if_neg e, if_neg e, ih]
theorem look_out {t : List PRow} {q : List Int} (h : look t q = none) : q ∉ t.map (·.1) := by
  induction t with
  | nil => simp
  | cons y t ih =>
    rw [look] at h
    split at h
    · cases h
    · rename_i e
      simp only [List.map_cons, List.mem_cons, not_or]
      exact ⟨fun e2 => e e2.symm, ih h⟩
theorem rises_of {t : List PRow} (h : Nd t) (hs : t.Pairwise fun x y => ¬ cmpL y.1 x.1 < 0) : Rises t := by
  have h2 : t.Pairwise fun x y => x.1 ≠ y.1 := List.pairwise_map.1 h
  refine (hs.and h2).imp fun {x y} hxy => ?_
  exact cmpL_gt hxy.1 fun e => hxy.2 ((cmpL_zero _ _).1 e).symm
end Go.Proofs.YtgimknplckkiaaaDoor.table

namespace Go.Proofs.YtgimknplckkiaaaDoor.table
open Go.ChangeShapes Go.WideShapes Go.ChangeAt Go.RowKit Go.Deep
open Go.Proofs.YtgimknplckkiaaaDoor.dims (nth Ints cell_lt cmpL own_below)
open Go.Proofs.YtgimknplckkiaaaDoor.cell (C4 mrg all one zero In64)
set_option linter.unusedVariables false
set_option maxRecDepth 100000

/-- whatever could be read can be read still -/
def Kept (w w1 : World) : Prop := ∀ b o v, w.cell? ⟨b, o, none⟩ = some v → w1.cell? ⟨b, o, none⟩ = some v
theorem Kept.refl (w : World) : Kept w w := fun _ _ _ h => h
theorem Kept.trans {w w1 w2 : World} (h : Kept w w1) (h2 : Kept w1 w2) : Kept w w2 := fun b o v hv => h2 b o v (h b o v hv)
theorem Kept.of {w w1 : World} (hb : Below w.heap.size w w1) : Kept w w1 := fun b o v hv => (hb.cell (p := ⟨b, o, none⟩) (cell_lt hv)).trans hv
theorem Kept.grown {w w1 : World} {row : Option Nat} (hg : w.grownBy w1 row) (hr : ∀ b o v, w.cell? ⟨b, o, none⟩ = some v → some b ≠ row) : Kept w w1 := fun b o v hv => hg.cell hv (hr b o v hv)
theorem map_cell {W : World} {b n : Nat} {f : List Int → Option C4} (h : MapIs W b n f) {b' o : Nat} {v : Value} (hv : W.cell? ⟨b', o, none⟩ = some v) : some b' ≠ some b := by
  intro e
  injection e with e
  subst e
  obtain ⟨D, ⟨es, clock, hb, _⟩, _⟩ := h
  simp [World.cell?, hb] at hv
theorem KeyOk.kept {w w1 : World} {a : Option Addr} {n cap : Nat} {l : List Int} (h : KeyOk w a n cap l) (hb : Kept w w1) : KeyOk w1 a n cap l := by
  refine ⟨?_, h.len, h.lec, h.max, h.wf⟩
  rcases h.mem with e | ⟨b, off, ha, hc⟩
  · exact .inl e
  · exact .inr ⟨b, off, ha, fun i hi => hb _ _ _ (hc i hi)⟩

/-- keys that can be read at an address -/
def KeysIn (w : World) (a : Option Addr) (ks : List Rw) : Prop :=
  ks = [] ∨ ∃ b off, a = some ⟨b, off, none⟩ ∧ ∀ i, i < ks.length → w.cell? ⟨b, off + i, none⟩ = some (.slice (rwn ks i).a (rwn ks i).k.length (rwn ks i).cap) ∧ KeyOk w (rwn ks i).a (rwn ks i).k.length (rwn ks i).cap (rwn ks i).k
theorem KeysIn.kept {w w1 : World} {a : Option Addr} {ks : List Rw} (h : KeysIn w a ks) (hb : Kept w w1) : KeysIn w1 a ks := by
  rcases h with h | ⟨b, off, ha, hc⟩
  · exact .inl h
  · exact .inr ⟨b, off, ha, fun i hi => ⟨hb _ _ _ (hc i hi).1, (hc i hi).2.kept hb⟩⟩
theorem KeysIn.get {w : World} {a : Option Addr} {ks : List Rw} (h : KeysIn w a ks) {k : Nat} (hk : k < ks.length) : ∃ b off, a = some ⟨b, off, none⟩ ∧ ∀ i, i < ks.length → w.cell? ⟨b, off + i, none⟩ = some (.slice (rwn ks i).a (rwn ks i).k.length (rwn ks i).cap) ∧ KeyOk w (rwn ks i).a (rwn ks i).k.length (rwn ks i).cap (rwn ks i).k := by
  rcases h with rfl | h
  · simp at hk
  · exact h

def seen (ks : List Rw) (k : Nat) : List (List Int) := (ks.take k).map (·.k)
theorem seen_succ {ks : List Rw} {k : Nat} (h : k < ks.length) (q : List Int) : q ∈ seen ks (k + 1) ↔ q ∈ seen ks k ∨ q = (rwn ks k).k := by
  unfold seen
  rw [List.take_succ_eq_append_getElem h, List.map_append, rwn_eq h]
  simp
/-- what is left in the map behind k keys -/
def left (f : List Int → Option C4) (ks : List Rw) (k : Nat) (q : List Int) : Option C4 := if q ∈ seen ks k then none else f q

structure RS (w0 w : World) (bm N : Nat) (f : List Int → Option C4) (ks : List Rw) (k : Nat) (os : List Rw) (g cap : Nat) (W : World) : Prop where
  own : W.ownsRow w.heap.size 63 5 (.slice (some ⟨g, 0, none⟩) os.length cap) os.length (flatR os)
  map : MapIs W bm N (left f ks k)
  nd : Nd (os.map plain)
  lk : ∀ q, look (os.map plain) q = if q ∈ seen ks k then f q else none
  key : ∀ r ∈ os, KeyOk w r.a r.k.length r.cap r.k
  kept : Kept w W
  bel : Below w0.heap.size w0 W
  siz : w.heap.size ≤ W.heap.size
  cnt : os.length ≤ k

theorem RS.keep {w0 w W W1 : World} {bm N : Nat} {f : List Int → Option C4} {ks : List Rw} {k : Nat} {os : List Rw} {g cap : Nat} (h : RS w0 w bm N f ks k os g cap W) (hb : Below W.heap.size W W1) : RS w0 w bm N f ks k os g cap W1 :=
  ⟨own_below h.own hb, h.map.keep hb, h.nd, h.lk, h.key, h.kept.trans (Kept.of hb), h.bel.trans (hb.mono h.bel.size), Nat.le_trans h.siz hb.size, h.cnt⟩

theorem RS.skip {w0 w W : World} {bm N : Nat} {f : List Int → Option C4} {ks : List Rw} {k : Nat} {os : List Rw} {g cap : Nat} (h : RS w0 w bm N f ks k os g cap W) (hk : k < ks.length) (hn : left f ks k (rwn ks k).k = none) : RS w0 w bm N f ks (k + 1) os g cap W := by
  refine ⟨h.own, ?_, h.nd, ?_, h.key, h.kept, h.bel, h.siz, by have := h.cnt; omega⟩
  · have e : left f ks (k + 1) = left f ks k := by
      funext q
      unfold left
      by_cases h1 : q ∈ seen ks k
      · rw [if_pos h1, if_pos ((seen_succ hk q).2 (.inl h1))]
      · rw [if_neg h1]
        by_cases h2 : q = (rwn ks k).k
        · rw [if_pos ((seen_succ hk q).2 (.inr h2))]
          unfold left at hn
          rw [← h2, if_neg h1] at hn
          exact hn.symm
        · rw [if_neg fun h3 => ((seen_succ hk q).1 h3).elim h1 h2]
    rw [e]; exact h.map
  · intro q
    rw [h.lk q]
    by_cases h1 : q ∈ seen ks k
    · rw [if_pos h1, if_pos ((seen_succ hk q).2 (.inl h1))]
    · rw [if_neg h1]
      by_cases h2 : q = (rwn ks k).k
      · rw [if_pos ((seen_succ hk q).2 (.inr h2))]
        unfold left at hn
        rw [← h2, if_neg h1] at hn
        exact hn.symm
      · rw [if_neg fun h3 => ((seen_succ hk q).1 h3).elim h1 h2]

theorem RS.push {w0 w W W2 : World} {bm N : Nat} {f : List Int → Option C4} {ks : List Rw} {k : Nat} {os : List Rw} {g cap g2 cap2 : Nat} {c : C4} (h : RS w0 w bm N f ks k os g cap W) (hk : k < ks.length) (hc : left f ks k (rwn ks k).k = some c)
    (hkey : KeyOk w (rwn ks k).a (rwn ks k).k.length (rwn ks k).cap (rwn ks k).k)
    (hown : W2.ownsRow w.heap.size 63 5 (.slice (some ⟨g2, 0, none⟩) (os.length + 1) cap2) (os.length + 1) (flatR os ++ rowCells ⟨(rwn ks k).a, (rwn ks k).cap, (rwn ks k).k, c⟩))
    (hmap : MapIs W2 bm N fun q => if q = (rwn ks k).k then none else left f ks k q) (hkept : Kept w W2) (hbel : Below w0.heap.size w0 W2) (hsiz : w.heap.size ≤ W2.heap.size) :
    RS w0 w bm N f ks (k + 1) (os ++ [⟨(rwn ks k).a, (rwn ks k).cap, (rwn ks k).k, c⟩]) g2 cap2 W2 := by
  have hns : (rwn ks k).k ∉ seen ks k := fun h1 => by unfold left at hc; rw [if_pos h1] at hc; cases hc
  have hfc : f (rwn ks k).k = some c := by unfold left at hc; rwa [if_neg hns] at hc
  have hlo : look (os.map plain) (rwn ks k).k = none := by rw [h.lk, if_neg hns]
  refine ⟨by rw [flatR_snoc]; simpa using hown, ?_, ?_, ?_, ?_, hkept, hbel, hsiz, by have := h.cnt; simp; omega⟩
  · have e : left f ks (k + 1) = fun q => if q = (rwn ks k).k then none else left f ks k q := by
      funext q
      by_cases h2 : q = (rwn ks k).k
      · rw [if_pos h2]; unfold left; rw [if_pos ((seen_succ hk q).2 (.inr h2))]
      · rw [if_neg h2]; unfold left
        by_cases h1 : q ∈ seen ks k
        · rw [if_pos h1, if_pos ((seen_succ hk q).2 (.inl h1))]
        · rw [if_neg h1, if_neg fun h3 => ((seen_succ hk q).1 h3).elim h1 h2]
    rw [e]; exact hmap
  · unfold Nd
    rw [List.map_append, List.map_append, List.nodup_append]
    refine ⟨h.nd, by simp, fun x hx y hy => ?_⟩
    simp only [List.map_cons, List.map_nil, List.mem_singleton] at hy
    intro e
    subst e
    rw [hy] at hx
    exact look_out hlo hx
  · intro q
    rw [List.map_append, List.map_cons, List.map_nil, look_snoc, h.lk]
    by_cases h1 : q ∈ seen ks k
    · rw [if_pos h1, if_pos ((seen_succ hk q).2 (.inl h1))]
      have hne : ¬ (rwn ks k).k = q := fun e => hns (by rw [e]; exact h1)
      cases f q with
      | some x => rfl
      | none => show (if (rwn ks k).k = q then some c else none) = none; rw [if_neg hne]
    · rw [if_neg h1]
      show (if (rwn ks k).k = q then some c else none) = _
      by_cases h2 : (rwn ks k).k = q
      · rw [if_pos h2, if_pos ((seen_succ hk q).2 (.inr h2.symm)), ← h2, hfc]
      · rw [if_neg h2, if_neg fun h3 => ((seen_succ hk q).1 h3).elim h1 (fun e => h2 e.symm)]
  · intro r hr
    rcases List.mem_append.1 hr with hr | hr
    · exact h.key r hr
    · simp only [List.mem_singleton] at hr
      subst hr; exact hkey

theorem cells_five_at (w : World) (B : Nat) (hB : w.heap.size = B) (v0 v1 v2 v3 v4 : Value) (t : TypeId) : ∀ j u, [v0, v1, v2, v3, v4][j]? = some u → (w.alloc (.cells #[v0, v1, v2, v3, v4] t)).cell? ((⟨B, 0, none⟩ : Addr).add j) = some u := by
  subst hB
  intro j u hj
  have h5 : j < 5 := by
    have := (List.getElem?_eq_some_iff.1 hj).1
    simpa using this
  have : j = 0 ∨ j = 1 ∨ j = 2 ∨ j = 3 ∨ j = 4 := by omega
  rcases this with rfl | rfl | rfl | rfl | rfl <;> (simp at hj; subst hj; simp [Addr.add, go_sem])
theorem five_one (a : Option Addr) (n cap : Nat) (x0 x1 x2 x3 : Int) : ∀ u ∈ [Value.slice a n cap, .int .i64 x0, .int .i64 x1, .int .i64 x2, .int .i64 x3], u.oneCell' = true := by
  intro u hu
  simp only [List.mem_cons, List.not_mem_nil, or_false] at hu
  rcases hu with rfl | rfl | rfl | rfl | rfl <;> rfl

/-- what rise hands out -/
def RiseOut (w' : World) (v : Value) (f : List Int → Option C4) : Prop := ∃ t, TabOut w' v t ∧ Rises t ∧ ∀ q, look t q = f q

theorem RS.done {w0 w W W' : World} {bm N : Nat} {f : List Int → Option C4} {ks : List Rw} {k : Nat} {os : List Rw} {g cap : Nat} (h : RS w0 w bm N f ks k os g cap W) (hk : ks.length ≤ k) (hf : ∀ q, f q ≠ none → q ∈ ks.map (·.k))
    {rs' : List Rw} (hp : rs'.Perm os) (hs : rs'.Pairwise fun x y => ¬ cmpL y.k x.k < 0) (hR : RowsIn W' (some ⟨g, 0, none⟩) rs') (hc : os.length ≤ cap) (hm : cap ≤ 9223372036854775807) : RiseOut W' (.slice (some ⟨g, 0, none⟩) os.length cap) f := by
  have hnd : Nd (rs'.map plain) := ((hp.map plain).map _).nodup_iff.2 h.nd
  refine ⟨rs'.map plain, ⟨_, cap, rs', by rw [hp.length_eq], hR, rfl, by rw [hp.length_eq]; exact hc, hm⟩, rises_of hnd (List.pairwise_map.2 hs), fun q => ?_⟩
  rw [look_perm hnd (hp.map plain), h.lk]
  have e : seen ks k = ks.map (·.k) := by unfold seen; rw [List.take_of_length_le hk]
  rw [e]
  split
  · rfl
  · rename_i hn
    cases hq : f q with
    | none => rfl
    | some c => exact absurd (hf q (by rw [hq]; simp)) hn

set_option maxHeartbeats 1000000 in
theorem rise_any (w0 : World) (a : Option Addr) (n ck bm N : Nat) (ks : List Rw) (f : List Int → Option C4) (w : World) (hp : Pow w0) (hw0 : Below w0.heap.size w0 w) (hK : KeysIn w a ks) (hn : ks.length = n) (hn2 : n ≤ 100000) (hks : ∀ r ∈ ks, r.k.length ≤ 1000000)
    (hM : MapIs w bm N f) (hN : N ≤ 1000000) (hbm : w0.heap.size ≤ bm) (hf : ∀ q, f q ≠ none → q ∈ ks.map (·.k)) :
    Calls Tryd.prog 75 #[.slice a n ck, .map (some bm)] w fun e w' => ∃ v, e = .returned v ∧ RiseOut w' v f ∧ Below w0.heap.size w0 w' := by
  obtain ⟨i0, hi, hz0, hz1, hz2⟩ := info_parts info_row
  have hbml := hM.lt
  have HH : Aside (Pow w0 ∧ Below w0.heap.size w0 w ∧ KeysIn w a ks ∧ ks.length = n ∧ (∀ q, f q ≠ none → q ∈ ks.map (·.k)) ∧ ∀ r ∈ ks, r.k.length ≤ 1000000) := ⟨hp, hw0, hK, hn, hf, hks⟩
  have hsz0 := hw0.size
  clear hp hw0 hK hn hf hks
  go_enter Tryd.func75, Tryd.ntmps75
  go_wp2_with (first
    | (at_len; refine wpList_mlen _ rfl _ rfl bm N f rfl hM ?_; intro s hs)
    | (at_make; refine wpList_make_own _ rfl _ _ 23 rfl w.heap.size 63 i0 _ 5 Tryd.underlying23 hi hz0 hz1 .i64 .i64 _ s rfl rfl rfl (by rw [hz2]; omega) (by unfold maxLen; omega) (Nat.le_refl _) ?_; intro w1 hown1 hg1; refine Hid.out ?_))
  refine Lib.hid ?_
  have S1 : Aside (RS w0 w bm N f ks 0 [] w.heap.size s w1) := by
    have hb1 : Below w.heap.size w w1 := (Below.refl _ _).grown hg1 (Nat.le_refl _) (fun q hq => by cases hq)
    refine ⟨hown1, ?_, by simp [Nd], fun q => ?_, by simp, Kept.of hb1, HH.out.2.1.trans (hb1.mono HH.out.2.1.size), hb1.size, Nat.le_refl _⟩
    · have e : left f ks 0 = f := by funext q; simp [left, seen]
      rw [e]; exact hM.keep hb1
    · simp [look, seen]
  clear hown1 hg1 hM
  go_wp2_with fail
  go_loopg [5, 16] n (fun g1 v vi wr => ∃ (k : Nat) (os : List Rw) (g cap : Nat), v = .slice (some ⟨g, 0, none⟩) os.length cap ∧ vi = .int .i64 k ∧ k ≤ n ∧ n - k ≤ g1 ∧ Aside (RS w0 w bm N f ks k os g cap wr))
  case atStart => exact ⟨0, [], w.heap.size, s, rfl, rfl, Nat.zero_le _, Nat.le_refl _, S1⟩
  case round =>
    clear S1
    obtain ⟨k, os, g, cap, rfl, rfl, hk, hg1, SK⟩ := hrel
    by_cases hlt : k < n
    · have hltz : (k : Int) < (n : Int) := by omega
      have hkl : k < ks.length := by rw [HH.out.2.2.2.1]; exact hlt
      obtain ⟨b, off, ha, hc⟩ := (HH.out.2.2.1.kept SK.out.kept).get hkl
      obtain ⟨b', off', ha', hc'⟩ := HH.out.2.2.1.get hkl
      have KW : Aside (KeyOk w (rwn ks k).a (rwn ks k).k.length (rwn ks k).cap (rwn ks k).k) := (hc' k hkl).2
      clear hc' ha' b' off'
      subst ha
      obtain ⟨r0, rk⟩ := hc k hkl
      clear hc
      have hkn : (rwn ks k).k.length ≤ 1000000 := HH.out.2.2.2.2.2 _ (rwn_mem hkl)
      have hkt : (ktext (rwn ks k).k).length ≤ maxLen := by
        have := ktext_len (rwn ks k).k rk.wf
        unfold maxLen; omega
      have hT := text_any _ _ _ _ wr rk (HH.out.1.keep SK.out.bel) hkn
      obtain ⟨r, hr⟩ : ∃ r, rwn ks k = r := ⟨_, rfl⟩
      have HR : Hid (rwn ks k = r) := hr
      rw [hr] at r0 hT hkt hkn
      clear rk hr
      obtain ⟨nk, hnk⟩ : ∃ nk, r.k.length = nk := ⟨_, rfl⟩
      have HNK : Hid (r.k.length = nk) := hnk
      rw [hnk] at r0 hT hkn
      clear hnk
      go_wp2_with fail
      refine hT.mono ?_
      rintro e w2 ⟨rfl, hb2⟩
      have S2 : Aside (RS w0 w bm N f ks k os g cap w2) := SK.out.keep hb2
      clear SK hT r0 hb2
      have hM2 : MapIs w2 bm N (left f ks k) := S2.out.map
      have hsz2 := S2.out.siz
      cases hfk : left f ks k r.k with
      | none =>
        as_aux_lemma =>
          have HF : Hid (left f ks k r.k = none) := hfk
          have hl1 : (left f ks k r.k).getD zero = zero := by rw [hfk]; rfl
          have hl2 : (left f ks k r.k).isSome = false := by rw [hfk]; rfl
          have HL : Hid _ := hl1
          have HL2 : Hid _ := hl2
          clear hfk hl1 hl2
          have hbx : ∀ o, Below w2.heap.size w2 (w2.alloc o) := fun o => (Below.refl _ _).alloc (Nat.le_refl _) _
          have S3 : ∀ o, Aside (RS w0 w bm N f ks (k + 1) os g cap (w2.alloc o)) := fun o => (S2.out.keep (hbx o)).skip hkl (by rw [HR.out]; exact HF.out)
          clear S2 hbx
          go_wp2_with (at_lookup; refine wpList_look_ok _ rfl _ _ rfl bm N _ rfl hM2 r.k zero false rfl hkt HL.out HL2.out ?_)
          clear hM2
          go_roundg (n - (k + 1))
          case measure => omega
          case rel => exact ⟨k + 1, os, g, cap, rfl, by go_num, by omega, by omega, S3 _⟩
      | some c =>
        have HF : Hid (left f ks k r.k = some c) := hfk
        have hl1 : (left f ks k r.k).getD zero = c := by rw [hfk]; rfl
        have hl2 : (left f ks k r.k).isSome = true := by rw [hfk]; rfl
        have HL : Hid _ := hl1
        have HL2 : Hid _ := hl2
        clear hfk hl1 hl2
        have hown2 := S2.out.own
        have hcnt := S2.out.cnt
        obtain ⟨no, hno⟩ : ∃ no, os.length = no := ⟨_, rfl⟩
        have HNO : Hid (os.length = no) := hno
        rw [hno] at hown2 hcnt ⊢
        clear hno
        have hC5 := cells_five_at (w2.alloc (.cells #[.int .i64 c.n, .int .i64 c.s, .int .i64 c.lo, .int .i64 c.hi] 61)) (w2.heap.size + 1) (by simp) (.slice r.a nk r.cap) (.int .i64 c.n) (.int .i64 c.s) (.int .i64 c.lo) (.int .i64 c.hi) 63
        go_wp2_with (first
          | (at_lookup; refine wpList_look_ok _ rfl _ _ rfl bm N _ rfl hM2 r.k c true rfl hkt HL.out HL2.out ?_)
          | (at_builtin; (refine wpList_append_lies _ rfl (.tmp 29) (.tmp 33) 23 rfl w.heap.size 63 i0 _ 5 56 Tryd.underlying23 hi hz0 hz1 hz2 rfl (by decide) _ _ _ rfl ((hown2.alloc _).alloc _) ⟨w2.heap.size + 1, 0, none⟩ 1 1 [.slice r.a nk r.cap, .int .i64 c.n, .int .i64 c.s, .int .i64 c.lo, .int .i64 c.hi] rfl rfl hC5 (five_one _ _ _ _ _ _ _) (by decide) (by unfold maxLen; omega) (by omega) (by simp; omega) _ rfl ?_; intro g3 cap3 w3 hown3 hg3 _ _; refine Hid.out ?_)))
        refine Lib.hid ?_
        have hgB : w.heap.size ≤ g := (hown2.lt g rfl).1
        have hbA : Below w2.heap.size w2 ((w2.alloc (.cells #[.int .i64 c.n, .int .i64 c.s, .int .i64 c.lo, .int .i64 c.hi] 61)).alloc (.cells #[.slice r.a nk r.cap, .int .i64 c.n, .int .i64 c.s, .int .i64 c.lo, .int .i64 c.hi] 63)) := box_keep _ _
        have hgg : World.grownBy ((w2.alloc (.cells #[.int .i64 c.n, .int .i64 c.s, .int .i64 c.lo, .int .i64 c.hi] 61)).alloc (.cells #[.slice r.a nk r.cap, .int .i64 c.n, .int .i64 c.s, .int .i64 c.lo, .int .i64 c.hi] 63)) w3 (some g) := hg3
        have hM3 : MapIs w3 bm N (left f ks k) := (hM2.keep hbA).kept hgg (fun e => by injection e with e; omega)
        have hb3 : Below w.heap.size w2 w3 := (hbA.mono hsz2).grown hgg (by simp; omega) (fun q hq => by injection hq with hq; omega)
        have S4 : Aside (∀ w4, MapIs w4 bm N (fun q => if q = r.k then none else left f ks k q) → w3.grownBy w4 (some bm) → RS w0 w bm N f ks (k + 1) (os ++ [⟨r.a, r.cap, r.k, c⟩]) g3 cap3 w4) := by
          intro w4 hM4 hg4
          have e1 := HR.out
          have e2 := HNK.out
          have e3 := HNO.out
          subst e1 e2 e3
          have hk3 : Kept w w3 := by
            intro bb o v hv
            rw [hb3.cell (p := ⟨bb, o, none⟩) (cell_lt hv)]
            exact S2.out.kept bb o v hv
          have hk4 : Kept w w4 := hk3.trans (Kept.grown hg4 fun bb o v hv => map_cell hM3 hv)
          have hz3 : w.heap.size ≤ w4.heap.size := Nat.le_trans hsz2 (Nat.le_trans hb3.size hg4.size)
          have hbl : Below w0.heap.size w0 w3 := S2.out.bel.trans (hb3.mono hsz0)
          refine S2.out.push hkl HF.out KW.out ?_ hM4 hk4 (hbl.grown hg4 hbl.size (fun q hq => by injection hq with hq; omega)) hz3
          refine hown3.kept hg4 (.inr ?_)
          have := (hown3.lt g3 rfl).1
          simp [Value.ownBlock]; omega
        have HNO2 : Hid ((os ++ [(⟨r.a, r.cap, r.k, c⟩ : Rw)]).length = no + 1) := by show _ = _; simp [HNO.out]
        clear S2 hown3 hg3 hgg hbA hb3 hM2 hown2 hC5
        go_wp2_with (at_delete; refine wpList_del _ rfl _ _ rfl bm N _ rfl hM3 r.k rfl hkt ?_; intro w4 hM4 hg4)
        have S5 : Aside (RS w0 w bm N f ks (k + 1) (os ++ [⟨r.a, r.cap, r.k, c⟩]) g3 cap3 w4) := S4.out w4 hM4 hg4
        clear hM3 hM4 hg4 S4
        go_roundg (n - (k + 1))
        case measure => omega
        case rel => exact ⟨k + 1, os ++ [⟨r.a, r.cap, r.k, c⟩], g3, cap3, by rw [HNO2.out], by go_num, by omega, by omega, S5⟩
    · have hltz : ¬ (k : Int) < (n : Int) := by omega
      have hkl : ks.length ≤ k := by rw [HH.out.2.2.2.1]; omega
      have hcnt := SK.out.cnt
      have hcap : os.length ≤ cap ∧ cap ≤ maxLen := by
        rcases SK.out.own.2 with ⟨h0, _⟩ | ⟨g', cap', cur, hv, _, _, h1, h2, _⟩
        · cases h0
        · cases hv; exact ⟨h1, h2⟩
      have hC := sort_any wr w.heap.size SK.out.siz g cap (SK.out.own.lt g rfl).1 os (fun r hr => ⟨(SK.out.key r hr).kept SK.out.kept, (SK.out.key r hr).low⟩) SK.out.own (by omega)
      have HC : Aside (os.length ≤ cap ∧ cap ≤ maxLen) := hcap
      clear hcap
      obtain ⟨no, hno⟩ : ∃ no, os.length = no := ⟨_, rfl⟩
      have HNO : Hid (os.length = no) := hno
      rw [hno] at hC ⊢
      clear hno
      go_wp2_with (go_at_call 87; refine hC.mono ?_; rintro e w5 ⟨rfl, rs', hp, hs, hR, hb5⟩)
      go_ret
      refine ⟨_, rfl, ?_, SK.out.bel.trans (hb5.mono hsz0)⟩
      have e := HNO.out
      subst e
      exact SK.out.done hkl HH.out.2.2.2.2.1 hp (hs.imp fun h => Int.not_lt.2 h) hR HC.out.1 (Nat.le_trans HC.out.2 maxLen_le2)
end Go.Proofs.YtgimknplckkiaaaDoor.table

namespace Go.Proofs.YtgimknplckkiaaaDoor.table
open Go.ChangeShapes Go.WideShapes Go.ChangeAt Go.RowKit Go.Deep
open Go.Proofs.YtgimknplckkiaaaDoor.dims (nth Ints cell_lt cmpL own_below)
open Go.Proofs.YtgimknplckkiaaaDoor.cell (C4 mrg all one zero In64 merge_any)
set_option linter.unusedVariables false
set_option maxRecDepth 100000

/-- rows at the keys that are told -/
def told (tl : List Int → List Int) (rs : List Rw) : List PRow := rs.map fun r => (tl r.k, r.c)
theorem told_succ {tl : List Int → List Int} {rs : List Rw} {k : Nat} (h : k < rs.length) : told tl (rs.take (k + 1)) = told tl (rs.take k) ++ [(tl (rwn rs k).k, (rwn rs k).c)] := by
  unfold told
  rw [List.take_succ_eq_append_getElem h, List.map_append, rwn_eq h]; rfl
theorem acc_snoc (t : List PRow) (x : PRow) (q : List Int) : acc (t ++ [x]) q = step q (acc t q) x := by simp [acc]
theorem acc_none {t : List PRow} {q : List Int} (h : q ∉ t.map (·.1)) : acc t q = none := by
  have : ∀ (t : List PRow) o, q ∉ t.map (·.1) → t.foldl (step q) o = o := by
    intro t
    induction t with
    | nil => intro o _; rfl
    | cons x t ih =>
      intro o hq
      simp only [List.map_cons, List.mem_cons, not_or] at hq
      rw [List.foldl_cons, ih _ hq.2]
      simp only [step]; rw [if_neg fun e => hq.1 e.symm]
  exact this t none h
theorem mrg_zero (c : C4) : mrg zero c = c := by simp [mrg, zero]
theorem acc_upd (t : List PRow) (l : List Int) (c : C4) : (fun q => if q = l then some (mrg ((acc t l).getD zero) c) else acc t q) = acc (t ++ [(l, c)]) := by
  funext q
  rw [acc_snoc]
  simp only [step]
  by_cases e : q = l
  · subst e
    rw [if_pos rfl, if_pos rfl]
    cases acc t q with
    | none => simp [mrg_zero]
    | some d => rfl
  · rw [if_neg e, if_neg fun h => e h.symm]

def kval (r : Rw) : Value := .slice r.a r.k.length r.cap
def kvals (ks : List Rw) (n : Nat) : List Value := ks.map kval ++ List.replicate (n - ks.length) (.slice none 0 0)
theorem kvals_slice {ks : List Rw} {n : Nat} {v : Value} (h : v ∈ kvals ks n) : ∃ a l c, v = .slice a l c := by
  rcases List.mem_append.1 h with h | h
  · obtain ⟨r, _, rfl⟩ := List.mem_map.1 h; exact ⟨_, _, _, rfl⟩
  · exact ⟨_, _, _, (List.mem_replicate.1 h).2⟩
theorem kvals_at {ks : List Rw} {n : Nat} (h : ks.length < n) : (kvals ks n)[ks.length]? = some (.slice none 0 0) := by
  unfold kvals
  rw [List.getElem?_append_right (by simp)]
  simp [List.getElem?_replicate]; omega
theorem kvals_set {ks : List Rw} {n : Nat} (r : Rw) (h : ks.length < n) : (kvals ks n).set ks.length (kval r) = kvals (ks ++ [r]) n := by
  unfold kvals
  rw [List.set_append_right _ _ (by simp)]
  obtain ⟨m, hm⟩ : ∃ m, n - ks.length = m + 1 := ⟨n - ks.length - 1, by omega⟩
  have e : n - (ks ++ [r]).length = m := by simp; omega
  rw [hm, e, List.replicate_succ]
  simp
theorem kvals_get {ks : List Rw} {n i : Nat} (h : i < ks.length) : (kvals ks n)[i]? = some (kval (rwn ks i)) := by
  unfold kvals
  rw [List.getElem?_append_left (by simpa using h)]
  simp [rwn, h]

structure GS (w : World) (rs : List Rw) (tl : List Int → List Int) (n kb j k : Nat) (ks : List Rw) (W : World) : Prop where
  own : W.ownsRow (w.heap.size + 1) 24 1 (.slice (some ⟨kb, 0, none⟩) n n) n (kvals ks n)
  map : MapIs W w.heap.size k (acc (told tl (rs.take k)))
  len : ks.length = j
  eqk : ks.map (·.k) = (rs.take j).map fun r => tl r.k
  key : ∀ r ∈ ks, KeyOk W r.a r.k.length r.cap r.k
  bel : Below w.heap.size w W

theorem GS.keep {w W W1 : World} {rs : List Rw} {tl : List Int → List Int} {n kb j k : Nat} {ks : List Rw} (h : GS w rs tl n kb j k ks W) (hb : Below W.heap.size W W1) : GS w rs tl n kb j k ks W1 :=
  ⟨own_below h.own hb, h.map.keep hb, h.len, h.eqk, fun r hr => (h.key r hr).keep hb, h.bel.trans (hb.mono h.bel.size)⟩

theorem key_set {W : World} {base kb n j : Nat} {ks : List Rw} {a : Option Addr} {m cap : Nat} {l : List Int} {u : Value} (ho : W.ownsRow base 24 1 (.slice (some ⟨kb, 0, none⟩) n n) n (kvals ks n)) (h : KeyOk W a m cap l) : KeyOk (W.setCell ⟨kb, j, none⟩ u) a m cap l := by
  refine ⟨?_, h.len, h.lec, h.max, h.wf⟩
  rcases h.mem with e | ⟨b, off, ha, hc⟩
  · exact .inl e
  · refine .inr ⟨b, off, ha, fun i hi => ?_⟩
    have hci := hc i hi
    by_cases e : b = kb
    · exfalso
      subst e
      rw [cell_of_row W b (off + i) _ _ (0, 0) (own_cur ho)] at hci
      have hm : Value.int .i64 (nth l i) ∈ kvals ks n := by
        have := Array.mem_of_getElem? hci
        simpa using this
      obtain ⟨_, _, _, e⟩ := kvals_slice hm
      cases e
    · rw [World.cell?_setCell_other _ _ _ _ (by intro e2; injection e2 with e3; exact e e3.symm)]
      exact hci

theorem GS.store {w W W2 : World} {rs : List Rw} {tl : List Int → List Int} {n kb k : Nat} {ks : List Rw} {r : Rw} (h : GS w rs tl n kb k k ks W) (hk : k < n) (hn : rs.length = n) (hr : r.k = tl (rwn rs k).k) (hb : Below W.heap.size W W2) (hkey : KeyOk W2 r.a r.k.length r.cap r.k) :
    W2.cell? ⟨kb, k, none⟩ = some (.slice none 0 0) ∧ W2.frozen? ⟨kb, k, none⟩ = false ∧ GS w rs tl n kb (k + 1) k (ks ++ [r]) (W2.setCell ⟨kb, k, none⟩ (kval r)) ∧ KeyOk (W2.setCell ⟨kb, k, none⟩ (kval r)) r.a r.k.length r.cap r.k := by
  have h2 := h.keep hb
  have hl := h.len
  have hkb := (h2.own.lt kb rfl).1
  refine ⟨?_, World.ownsRow.frozenAt h2.own k, ⟨?_, ?_, by simp [hl], ?_, ?_, ?_⟩, key_set h2.own hkey⟩
  · rw [World.ownsRow.cellAt h2.own k (by omega), ← hl, kvals_at (by omega)]
  · have := (World.ownsRow.stored h2.own k (kval r)).1
    rw [← hl, kvals_set r (by omega), hl] at this
    exact this
  · exact h2.map.setCell (by show w.heap.size ≠ kb; omega) _
  · rw [List.map_append, h.eqk, List.take_succ_eq_append_getElem (by omega : k < rs.length), List.map_append, List.map_cons, List.map_nil, hr, rwn_eq (by omega)]; rfl
  · intro x hx
    rcases List.mem_append.1 hx with hx | hx
    · exact key_set h2.own (h2.key x hx)
    · simp only [List.mem_singleton] at hx
      subst hx; exact key_set h2.own hkey
  · exact h2.bel.setCell (by show w.heap.size ≤ kb; omega) _

theorem GS.put {w W W2 : World} {rs : List Rw} {tl : List Int → List Int} {n kb k : Nat} {ks : List Rw} (h : GS w rs tl n kb (k + 1) k ks W) (hk : k < rs.length)
    (hM : MapIs W2 w.heap.size (k + 1) fun q => if q = tl (rwn rs k).k then some (mrg ((acc (told tl (rs.take k)) (tl (rwn rs k).k)).getD zero) (rwn rs k).c) else acc (told tl (rs.take k)) q) (hg : W.grownBy W2 (some w.heap.size)) : GS w rs tl n kb (k + 1) (k + 1) ks W2 := by
  have hkb := (h.own.lt kb rfl).1
  refine ⟨h.own.kept hg (.inr (by simp [Value.ownBlock]; omega)), ?_, h.len, h.eqk, fun r hr => (h.key r hr).kept (Kept.grown hg fun b o v hv => map_cell h.map hv), ?_⟩
  · rw [acc_upd, ← told_succ hk] at hM; exact hM
  · exact h.bel.grown hg h.bel.size (fun q hq => by injection hq with hq; omega)

theorem GS.keys {w W : World} {rs : List Rw} {tl : List Int → List Int} {n kb j k : Nat} {ks : List Rw} (h : GS w rs tl n kb j k ks W) (hj : j = n) : KeysIn W (some ⟨kb, 0, none⟩) ks := by
  refine .inr ⟨kb, 0, rfl, fun i hi => ⟨?_, h.key _ (rwn_mem hi)⟩⟩
  rw [Nat.zero_add, World.ownsRow.cellAt h.own i (by have := h.len; omega), kvals_get hi]; rfl
end Go.Proofs.YtgimknplckkiaaaDoor.table

namespace Go.Proofs.YtgimknplckkiaaaDoor.table
open Go.ChangeShapes Go.WideShapes Go.ChangeAt Go.RowKit Go.Deep
open Go.Proofs.YtgimknplckkiaaaDoor.dims (nth Ints cell_lt cmpL own_below)
open Go.Proofs.YtgimknplckkiaaaDoor.cell (C4 mrg all one zero In64 merge_any)
set_option linter.unusedVariables false
set_option maxRecDepth 100000

/-- what is asked of the function that tells keys -/
def Tells (w : World) (g : Nat) (cb : Array Value) (tl : List Int → List Int) (rs : List Rw) : Prop :=
  ∀ W r, Below w.heap.size w W → r ∈ rs → Calls Tryd.prog g (#[.slice r.a r.k.length r.cap] ++ cb) W fun e W' => ∃ v, e = .returned v ∧ KeyOut W' v (tl r.k) ∧ Below W.heap.size W W'

theorem seen_told {w W : World} {rs : List Rw} {tl : List Int → List Int} {n kb j k : Nat} {ks : List Rw} (h : GS w rs tl n kb j k ks W) (hn : rs.length = n) (hj : j = n) (q : List Int) (hq : acc (told tl rs) q ≠ none) : q ∈ ks.map (·.k) := by
  rw [h.eqk, List.take_of_length_le (by omega)]
  have : ¬ q ∉ (told tl rs).map (·.1) := fun e => hq (acc_none e)
  have := Classical.not_not.1 this
  simpa [told] using this

set_option maxHeartbeats 4000000 in
theorem gather_any (a : Option Addr) (n cap : Nat) (rs : List Rw) (g : Nat) (cb : Array Value) (tl : List Int → List Int) (w : World) (hp : Pow w) (hR : RowsIn w a rs) (hn : rs.length = n) (hn2 : n ≤ 100000)
    (eg : ∀ args w, (callFunc g args).run Tryd.prog w = .ok (.enter g args) w) (hT : Tells w g cb tl rs) (ht : ∀ r ∈ rs, (tl r.k).length ≤ 1000000) :
    Calls Tryd.prog 47 #[.slice a n cap, .func (.func g) #[] cb] w fun e w' => ∃ v, e = .returned v ∧ TabOut w' v (tab (told tl rs)) ∧ Below w.heap.size w w' := by
  obtain ⟨i0, hi, hz0, hz1, hz2⟩ := info_parts info_keys
  have HH : Aside (Pow w ∧ RowsIn w a rs ∧ rs.length = n ∧ Tells w g cb tl rs ∧ ∀ r ∈ rs, (tl r.k).length ≤ 1000000) := ⟨hp, hR, hn, hT, ht⟩
  clear hp hR hn hT ht
  have hmm := @run_makeMap Tryd.prog
  have hM0 := MapIs.made w
  go_enter Tryd.func47, Tryd.ntmps47
  go_wp2_with (at_make; refine wpList_make_full _ rfl _ _ 102 rfl (w.heap.size + 1) 24 i0 (.slice none 0 0) 1 Tryd.underlying102 hi hz0 hz1 .i64 .i64 _ _ n rfl rfl rfl rfl (by rw [hz2]; omega) (by unfold maxLen; omega) (by simp) ?_; intro w1 hown1 hg1; refine Hid.out ?_)
  refine Lib.hid ?_
  have hb1 : Below (w.alloc (.map #[] 0)).heap.size (w.alloc (.map #[] 0)) w1 := (Below.refl _ _).grown hg1 (Nat.le_refl _) (fun q hq => by cases hq)
  have S1 : Aside (GS w rs tl n (w.heap.size + 1) 0 0 [] w1) := by
    refine ⟨?_, hM0.keep hb1, rfl, rfl, by simp, ((Below.refl _ _).alloc (Nat.le_refl _) _).trans (hb1.mono (by simp))⟩
    have e : (madeCells #[Value.slice none 0 0] (n * 1)).toList = kvals [] n := by rw [toList_madeCells_one]; simp [kvals]
    have h := hown1
    rw [show (Value.slice none 0 0).cells = #[Value.slice none 0 0] from rfl, e] at h
    simpa using h
  clear hown1 hg1 hM0 hb1 hmm
  have hwe : (w.alloc (.map #[] 0)).heap.size = w.heap.size + 1 := by simp
  go_wp2_with fail
  go_loopg [16] n (fun g1 vi wr => ∃ (k : Nat) (ks : List Rw), vi = .int .i64 k ∧ k ≤ n ∧ n - k ≤ g1 ∧ Aside (GS w rs tl n (w.heap.size + 1) k k ks wr))
  case atStart => exact ⟨0, [], rfl, Nat.zero_le _, Nat.le_refl _, S1⟩
  case round =>
    clear S1 hwe
    obtain ⟨k, ks, rfl, hk, hg1, SK⟩ := hrel
    by_cases hlt : k < n
    · have hltz : (k : Int) < (n : Int) := by omega
      have hkl : k < rs.length := by rw [HH.out.2.2.1]; exact hlt
      obtain ⟨b, off, ha, hc⟩ := (HH.out.2.1.keep SK.out.bel).get hkl
      subst ha
      obtain ⟨⟨r0, r1, r2, r3, r4⟩, -⟩ := hc k hkl
      clear hc
      have hT := fun o => HH.out.2.2.2.1 (wr.alloc o) (rwn rs k) (SK.out.bel.alloc SK.out.bel.size o) (rwn_mem hkl)
      have hl2n : (tl (rwn rs k).k).length ≤ 1000000 := HH.out.2.2.2.2 _ (rwn_mem hkl)
      have ST : Aside (∀ (W2 : World) (r : Rw), r.k = tl (rwn rs k).k → Below wr.heap.size wr W2 → KeyOk W2 r.a r.k.length r.cap r.k → _) := fun W2 r hr hb hkey => SK.out.store hlt HH.out.2.2.1 hr hb hkey
      have PU : Aside (∀ (W W2 : World) ks', GS w rs tl n (w.heap.size + 1) (k + 1) k ks' W → _ → _ → GS w rs tl n (w.heap.size + 1) (k + 1) (k + 1) ks' W2) := fun W W2 ks' h hM hg => h.put hkl hM hg
      obtain ⟨l2, hl2⟩ : ∃ l2, tl (rwn rs k).k = l2 := ⟨_, rfl⟩
      obtain ⟨r, hr⟩ : ∃ r, rwn rs k = r := ⟨_, rfl⟩
      rw [hl2] at ST PU hl2n hT
      rw [hr] at r0 r1 r2 r3 r4 hT PU
      obtain ⟨nk, hnk⟩ : ∃ nk, r.k.length = nk := ⟨_, rfl⟩
      rw [hnk] at r0 hT
      obtain ⟨c0, hc0⟩ : ∃ c0, (acc (told tl (rs.take k)) l2).getD zero = c0 := ⟨_, rfl⟩
      rw [hc0] at PU
      have HC0 : Hid ((acc (told tl (rs.take k)) l2).getD zero = c0) := hc0
      obtain ⟨rc, hrc⟩ : ∃ rc, r.c = rc := ⟨_, rfl⟩
      rw [hrc] at r1 r2 r3 r4 PU
      clear hl2 hr hnk hc0 hrc
      have hwz := SK.out.bel.size
      go_wp2_with fail
      refine (hT _).mono ?_
      rintro e w2 ⟨v, rfl, ⟨a2, c2, rfl, hK2⟩, hb2⟩
      have hbA : Below wr.heap.size wr w2 := ((Below.refl _ _).alloc (Nat.le_refl _) _).trans (hb2.mono (by simp))
      have hz2 : wr.heap.size < w2.heap.size := by have := hb2.size; simp at this; omega
      obtain ⟨f1, f2, S3, K3⟩ := ST.out w2 ⟨a2, c2, l2, zero⟩ rfl hbA hK2
      have hlt2 : wr.heap.size < (wr.alloc (.cells #[.slice r.a nk r.cap, .int .i64 rc.n, .int .i64 rc.s, .int .i64 rc.lo, .int .i64 rc.hi] 63)).heap.size := by simp
      have d1 : w2.cell? ⟨wr.heap.size, 1, none⟩ = some (.int .i64 rc.n) := (hb2.cell (p := ⟨wr.heap.size, 1, none⟩) hlt2).trans (by simp [go_sem])
      have d2 : w2.cell? ⟨wr.heap.size, 2, none⟩ = some (.int .i64 rc.s) := (hb2.cell (p := ⟨wr.heap.size, 2, none⟩) hlt2).trans (by simp [go_sem])
      have d3 : w2.cell? ⟨wr.heap.size, 3, none⟩ = some (.int .i64 rc.lo) := (hb2.cell (p := ⟨wr.heap.size, 3, none⟩) hlt2).trans (by simp [go_sem])
      have d4 : w2.cell? ⟨wr.heap.size, 4, none⟩ = some (.int .i64 rc.hi) := (hb2.cell (p := ⟨wr.heap.size, 4, none⟩) hlt2).trans (by simp [go_sem])
      have hkbl : w.heap.size + 1 < wr.heap.size := (SK.out.own.lt _ rfl).2
      have hTx : Calls Tryd.prog 73 #[.slice a2 l2.length c2] (w2.setCell ⟨w.heap.size + 1, k, none⟩ (.slice a2 l2.length c2)) fun e w' => e = .returned (.string (kstr l2)) ∧ Below (w2.setCell ⟨w.heap.size + 1, k, none⟩ (.slice a2 l2.length c2)).heap.size (w2.setCell ⟨w.heap.size + 1, k, none⟩ (.slice a2 l2.length c2)) w' := text_any a2 l2.length c2 l2 _ K3 (HH.out.1.keep S3.bel) hl2n
      have hkt : (ktext l2).length ≤ maxLen := by
        have := ktext_len l2 hK2.wf
        unfold maxLen; omega
      have S3A : Aside _ := S3
      have DA : Aside (w2.cell? ⟨wr.heap.size, 1, none⟩ = some (.int .i64 rc.n) ∧ w2.cell? ⟨wr.heap.size, 2, none⟩ = some (.int .i64 rc.s) ∧ w2.cell? ⟨wr.heap.size, 3, none⟩ = some (.int .i64 rc.lo) ∧ w2.cell? ⟨wr.heap.size, 4, none⟩ = some (.int .i64 rc.hi)) := ⟨d1, d2, d3, d4⟩
      clear hb2 hbA hK2 S3 K3 hT r0 r1 r2 r3 r4 ST d1 d2 d3 d4
      have S3 : Aside (GS w rs tl n (w.heap.size + 1) (k + 1) k (ks ++ [⟨a2, c2, l2, zero⟩]) (w2.setCell ⟨w.heap.size + 1, k, none⟩ (.slice a2 l2.length c2))) := S3A.out
      clear S3A
      obtain ⟨m2, hm2⟩ : ∃ m2, l2.length = m2 := ⟨_, rfl⟩
      rw [hm2] at hTx S3 hl2n ⊢
      clear hm2
      go_wp2_with fail
      refine hTx.mono ?_
      rintro e w4 ⟨rfl, hb4⟩
      have S4 : Aside (GS w rs tl n (w.heap.size + 1) (k + 1) k (ks ++ [⟨a2, c2, l2, zero⟩]) w4) := S3.out.keep hb4
      have hC : ∀ j v, w2.cell? ⟨wr.heap.size, j, none⟩ = some v → w4.cell? ⟨wr.heap.size, j, none⟩ = some v := fun j v hv => by
        rw [hb4.cell (p := ⟨wr.heap.size, j, none⟩) (by show wr.heap.size < (w2.setCell _ _).heap.size; simp; omega), World.cell?_setCell_other _ _ _ _ (by intro e2; injection e2 with e3; omega)]
        exact hv
      have d1 := hC _ _ DA.out.1
      have d2 := hC _ _ DA.out.2.1
      have d3 := hC _ _ DA.out.2.2.1
      have d4 := hC _ _ DA.out.2.2.2
      have hM4 := S4.out.map
      clear hTx hb4 hC DA S3 f1 f2
      go_wp2_with (first
        | (at_lookup; refine wpList_look _ rfl _ _ rfl w.heap.size k _ rfl hM4 l2 c0 rfl hkt HC0.out ?_)
        | (go_at_call 74; refine (merge_any c0 rc _).mono ?_; rintro e w5 ⟨rfl, hb5⟩; refine Hid.out ?_))
      refine Lib.hid ?_
      have S5 : Aside (GS w rs tl n (w.heap.size + 1) (k + 1) k (ks ++ [⟨a2, c2, l2, zero⟩]) w5) := S4.out.keep hb5
      have hM5 := S5.out.map
      clear hM4 S4 hb5 d1 d2 d3 d4
      go_wp2_with (at_mapUpdate; refine wpList_upd _ rfl _ _ _ rfl w.heap.size k _ rfl hM5 (by unfold maxLen; omega) l2 (mrg c0 rc) rfl rfl hkt ?_; intro w6 hM6 hg6)
      have S6 : Aside (GS w rs tl n (w.heap.size + 1) (k + 1) (k + 1) (ks ++ [⟨a2, c2, l2, zero⟩]) w6) := PU.out w5 w6 _ S5.out hM6 hg6
      clear hM5 hM6 hg6 S5 PU
      go_roundg (n - (k + 1))
      case measure => omega
      case rel => exact ⟨k + 1, ks ++ [⟨a2, c2, l2, zero⟩], by go_num, by omega, by omega, S6⟩
    · have hltz : ¬ (k : Int) < (n : Int) := by omega
      have hkn : k = n := by omega
      have hle : rs.take k = rs := List.take_of_length_le (by rw [HH.out.2.2.1]; omega)
      have hks : ∀ r ∈ ks, r.k.length ≤ 1000000 := fun r hr => by
        have : r.k ∈ ks.map (·.k) := List.mem_map.2 ⟨r, hr, rfl⟩
        rw [SK.out.eqk, hle] at this
        obtain ⟨x, hx, e⟩ := List.mem_map.1 this
        rw [← e]; exact HH.out.2.2.2.2 x hx
      have hM := SK.out.map
      rw [hle] at hM
      have hC := rise_any w (some ⟨w.heap.size + 1, 0, none⟩) n n w.heap.size k ks (acc (told tl rs)) wr HH.out.1 SK.out.bel (SK.out.keys hkn) (by rw [SK.out.len]; omega) hn2 hks hM (by omega) (Nat.le_refl _) (seen_told SK.out HH.out.2.2.1 hkn)
      clear hM hks hle hkn
      go_wp2_with (go_at_call 75; refine hC.mono ?_; rintro e w5 ⟨v, rfl, hR, hb5⟩)
      go_ret
      obtain ⟨t, h1, h2, h3⟩ := hR
      rw [tab_unique h2 h3] at h1
      exact ⟨_, rfl, h1, hb5⟩
end Go.Proofs.YtgimknplckkiaaaDoor.table
