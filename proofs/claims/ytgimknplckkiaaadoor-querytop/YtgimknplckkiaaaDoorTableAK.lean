/-
  The text of a key: no two keys have one text. Nothing of the program.
  Rows and facts in memory; the table of powers that the numerals' text reads; what a call hands out.
  The contracts of the leaves: a key in memory of its own (table.same, the chapter's ints), the order of two rows (the sort's closure), a place below nought.
  Appending nothing; a key that the chapter copies (its 'ints'); facts in memory.
  Facts of a call's own, cell by cell.
  The contract of the chapter's Same: of two tables that are alike it says so.
  The contracts of table.Sound and of the chapter's Sound: is it a table?
-/
import Derived.RowKit
import Derived.Lib.ItoaLen
import Derived.Test.YtgimknplckkiaaaDoorDimsJ
import Derived.Test.YtgimknplckkiaaaDoorDimsCmp
import Derived.Test.YtgimknplckkiaaaDoorCellJ
import Derived.Test.YtgimknplckkiaaaDoorTableMath
import Derived.Lib.AppendIntMem
import Derived.Laws.CopyOwn
import Derived.Deep.AppendLies
namespace Go.Proofs.YtgimknplckkiaaaDoor.table
open Go.Lib

/-- what digits come to -/
def val (l : List UInt8) : Nat := l.foldl (fun a c => a * 10 + (c.toNat - 48)) 0
theorem val_snoc (l : List UInt8) (c : UInt8) : val (l ++ [c]) = val l * 10 + (c.toNat - 48) := by simp [val]
theorem digit_nat {d : Nat} (h : d < 10) : (UInt8.ofNat (48 + d)).toNat = 48 + d := by
  rw [UInt8.toNat_ofNat_of_lt']; show 48 + d < 256; omega
theorem val_dec (u : Nat) : val (decDigits u) = u := by
  induction u using Nat.strongRecOn with
  | _ u ih =>
    rw [decDigits]
    split
    · rename_i h
      simp only [val, List.foldl_cons, List.foldl_nil]
      rw [digit_nat h]; omega
    · rename_i h
      rw [val_snoc, ih (u / 10) (by omega), digit_nat (by omega)]; omega
theorem dec_digits (u : Nat) : ∀ c ∈ decDigits u, 48 ≤ c.toNat ∧ c.toNat ≤ 57 := by
  induction u using Nat.strongRecOn with
  | _ u ih =>
    rw [decDigits]
    split
    · rename_i h
      intro c hc
      simp only [List.mem_singleton] at hc
      subst hc
      rw [digit_nat h]; omega
    · rename_i h
      intro c hc
      rcases List.mem_append.1 hc with hc | hc
      · exact ih (u / 10) (by omega) c hc
      · simp only [List.mem_singleton] at hc
        subst hc
        rw [digit_nat (by omega)]; omega
theorem dec_ne (u : Nat) : decDigits u ≠ [] := by
  intro e
  have h1 := decDigits_length u
  rw [e] at h1
  have h2 := nDigits_pos u
  simp at h1
  omega
theorem dec_inj {u v : Nat} (h : decDigits u = decDigits v) : u = v := by
  have := congrArg val h
  rwa [val_dec, val_dec] at this
theorem itoa_chars (n : Int) : ∀ c ∈ itoa n, c ≠ 44 := by
  intro c hc e
  subst e
  unfold itoa at hc
  split at hc
  · rcases List.mem_cons.1 hc with h | h
    · exact absurd h (by decide)
    · have := (dec_digits _ _ h).1; exact absurd this (by decide)
  · have := (dec_digits _ _ hc).1; exact absurd this (by decide)
theorem itoa_inj {m n : Int} (h : itoa m = itoa n) : m = n := by
  unfold itoa at h
  split at h
  · split at h
    · injection h with _ h
      have := dec_inj h; omega
    · exfalso
      have : (45 : UInt8) ∈ decDigits n.toNat := by rw [← h]; simp
      have := (dec_digits _ _ this).1
      exact absurd this (by decide)
  · split at h
    · exfalso
      have : (45 : UInt8) ∈ decDigits m.toNat := by rw [h]; simp
      have := (dec_digits _ _ this).1
      exact absurd this (by decide)
    · have := dec_inj h; omega

/-- a mark behind each place -/
def ktext : List Int → List UInt8
  | [] => []
  | v :: l => itoa v ++ 44 :: ktext l
theorem ktext_append : ∀ (l m : List Int), ktext (l ++ m) = ktext l ++ ktext m
  | [], _ => rfl
  | v :: l, m => by simp [ktext, ktext_append l m]
theorem ktext_snoc (l : List Int) (v : Int) : ktext (l ++ [v]) = ktext l ++ (itoa v ++ [44]) := by rw [ktext_append]; simp [ktext]
theorem split_mark : ∀ {p q s t : List UInt8}, (∀ c ∈ p, c ≠ 44) → (∀ c ∈ q, c ≠ 44) → p ++ 44 :: s = q ++ 44 :: t → p = q ∧ s = t
  | [], [], _, _, _, _, h => by simp at h; exact ⟨rfl, h⟩
  | [], y :: q, _, _, _, hq, h => by
    simp only [List.nil_append, List.cons_append, List.cons.injEq] at h
    exact absurd h.1.symm (hq y (by simp))
  | x :: p, [], _, _, hp, _, h => by
    simp only [List.nil_append, List.cons_append, List.cons.injEq] at h
    exact absurd h.1 (hp x (by simp))
  | x :: p, y :: q, s, t, hp, hq, h => by
    simp only [List.cons_append, List.cons.injEq] at h
    obtain ⟨e1, e2⟩ := split_mark (fun c hc => hp c (by simp [hc])) (fun c hc => hq c (by simp [hc])) h.2
    exact ⟨by rw [h.1, e1], e2⟩
theorem ktext_inj : ∀ {l m : List Int}, ktext l = ktext m → l = m
  | [], [], _ => rfl
  | [], v :: m, h => by simp [ktext] at h
  | v :: l, [], h => by simp [ktext] at h
  | v :: l, u :: m, h => by
    obtain ⟨e1, e2⟩ := split_mark (itoa_chars v) (itoa_chars u) h
    rw [itoa_inj e1, ktext_inj e2]
theorem ktext_len : ∀ (l : List Int), (∀ v ∈ l, -9223372036854775808 ≤ v ∧ v ≤ 9223372036854775807) → (ktext l).length ≤ 22 * l.length
  | [], _ => by simp [ktext]
  | v :: l, h => by
    have h1 := h v (by simp)
    have := itoa_length_le v h1.1 h1.2
    have := ktext_len l fun u hu => h u (by simp [hu])
    simp only [ktext, List.length_append, List.length_cons]
    omega
end Go.Proofs.YtgimknplckkiaaaDoor.table

namespace Go.Proofs.YtgimknplckkiaaaDoor.table
open Go.ChangeShapes Go.WideShapes Go.ChangeAt Go.RowKit Go.Deep
open Go.Proofs.YtgimknplckkiaaaDoor.dims (nth Ints cell_lt cmpL vals vals_len vals_get vals_one vals_app own_below own_mono own_out RowOut info_int)
open Go.Proofs.YtgimknplckkiaaaDoor.cell (C4 mrg all one zero In64)
set_option linter.unusedVariables false
set_option maxRecDepth 100000
set_option maxRecDepth 100000

/-- the library's powers of ten lie as their text lays them -/
def Pow (w : World) : Prop := Lib.TabIs Tryd.prog w "internal/strconv.uint64pow10" .u64 Lib.pow10Tab
theorem Pow.keep {w w1 : World} (h : Pow w) (hb : Below w.heap.size w w1) : Pow w1 := Lib.tabBelow_of_tabIs h w1 hb
theorem Pow.below {w : World} (h : Pow w) : Lib.TabBelow Tryd.prog w.heap.size w "internal/strconv.uint64pow10" .u64 Lib.pow10Tab := Lib.tabBelow_of_tabIs h

/-- a row: where its key lies, the key, its cell -/
structure Rw where
  a : Option Addr
  cap : Nat
  k : List Int
  c : C4
def rwn (rs : List Rw) (i : Nat) : Rw := rs.getD i ⟨none, 0, [], zero⟩
def plain (r : Rw) : PRow := (r.k, r.c)
def rowCells (r : Rw) : List Value := [.slice r.a r.k.length r.cap, .int .i64 r.c.n, .int .i64 r.c.s, .int .i64 r.c.lo, .int .i64 r.c.hi]
/-- a key that can be read at an address -/
structure KeyOk (w : World) (a : Option Addr) (n cap : Nat) (l : List Int) : Prop where
  mem : Ints w a l
  len : l.length = n
  lec : n ≤ cap
  max : cap ≤ 9223372036854775807
  wf : ∀ v ∈ l, In64 v
theorem KeyOk.keep {w w1 : World} {a : Option Addr} {n cap : Nat} {l : List Int} (h : KeyOk w a n cap l) (hb : Below w.heap.size w w1) : KeyOk w1 a n cap l := ⟨h.mem.keep hb, h.len, h.lec, h.max, h.wf⟩
theorem KeyOk.nil (w : World) : KeyOk w none 0 0 [] := ⟨.inl rfl, rfl, Nat.le_refl _, by omega, by simp⟩

def CellsAt (w : World) (b p : Nat) (r : Rw) : Prop :=
  w.cell? ⟨b, p, none⟩ = some (.slice r.a r.k.length r.cap) ∧ w.cell? ⟨b, p + 1, none⟩ = some (.int .i64 r.c.n) ∧ w.cell? ⟨b, p + 2, none⟩ = some (.int .i64 r.c.s) ∧ w.cell? ⟨b, p + 3, none⟩ = some (.int .i64 r.c.lo) ∧ w.cell? ⟨b, p + 4, none⟩ = some (.int .i64 r.c.hi)
theorem CellsAt.keep {w w1 : World} {b p : Nat} {r : Rw} (h : CellsAt w b p r) (hb : Below w.heap.size w w1) : CellsAt w1 b p r := by
  obtain ⟨h0, h1, h2, h3, h4⟩ := h
  have k : ∀ {c o : Nat} {v : Value}, w.cell? ⟨c, o, none⟩ = some v → w1.cell? ⟨c, o, none⟩ = some v := fun {c o v} hv => (hb.cell (p := ⟨c, o, none⟩) (cell_lt hv)).trans hv
  exact ⟨k h0, k h1, k h2, k h3, k h4⟩

/-- rows that can be read at an address -/
def RowsIn (w : World) (a : Option Addr) (rs : List Rw) : Prop :=
  rs = [] ∨ ∃ b off, a = some ⟨b, off, none⟩ ∧ ∀ i, i < rs.length → CellsAt w b (off + i * 5) (rwn rs i) ∧ KeyOk w (rwn rs i).a (rwn rs i).k.length (rwn rs i).cap (rwn rs i).k
theorem RowsIn.keep {w w1 : World} {a : Option Addr} {rs : List Rw} (h : RowsIn w a rs) (hb : Below w.heap.size w w1) : RowsIn w1 a rs := by
  rcases h with h | ⟨b, off, ha, hc⟩
  · exact .inl h
  · exact .inr ⟨b, off, ha, fun i hi => ⟨(hc i hi).1.keep hb, (hc i hi).2.keep hb⟩⟩
theorem RowsIn.get {w : World} {a : Option Addr} {rs : List Rw} (h : RowsIn w a rs) {k : Nat} (hk : k < rs.length) : ∃ b off, a = some ⟨b, off, none⟩ ∧ ∀ i, i < rs.length → CellsAt w b (off + i * 5) (rwn rs i) ∧ KeyOk w (rwn rs i).a (rwn rs i).k.length (rwn rs i).cap (rwn rs i).k := by
  rcases h with rfl | h
  · simp at hk
  · exact h
theorem rwn_mem {rs : List Rw} {i : Nat} (h : i < rs.length) : rwn rs i ∈ rs := by simp [rwn, h]
theorem rwn_eq {rs : List Rw} {i : Nat} (h : i < rs.length) : rwn rs i = rs[i] := by simp [rwn, h]

/-- a table that a call hands out -/
def TabOut (w : World) (v : Value) (t : List PRow) : Prop := ∃ a cap rs, v = .slice a rs.length cap ∧ RowsIn w a rs ∧ rs.map plain = t ∧ rs.length ≤ cap ∧ cap ≤ 9223372036854775807
theorem TabOut.keep {w w1 : World} {v : Value} {t : List PRow} (h : TabOut w v t) (hb : Below w.heap.size w w1) : TabOut w1 v t := by
  obtain ⟨a, cap, rs, e, hI, r⟩ := h
  exact ⟨a, cap, rs, e, hI.keep hb, r⟩
theorem TabOut.nil (w : World) : TabOut w (.slice none 0 0) [] := ⟨none, 0, [], rfl, .inl rfl, rfl, Nat.le_refl _, by omega⟩

/-- rows, cell by cell -/
def flatR (rs : List Rw) : List Value := rs.flatMap rowCells
theorem flatR_len (rs : List Rw) : (flatR rs).length = rs.length * 5 := by
  induction rs with
  | nil => rfl
  | cons c l ih => unfold flatR at *; simp only [List.flatMap_cons, List.length_append, List.length_cons, ih]; simp [rowCells]; omega
theorem flatR_snoc (l : List Rw) (c : Rw) : flatR (l ++ [c]) = flatR l ++ rowCells c := by simp [flatR]
theorem flatR_append (l m : List Rw) : flatR (l ++ m) = flatR l ++ flatR m := by simp [flatR]
theorem flatR_get (rs : List Rw) : ∀ i j, i < rs.length → j < 5 → (flatR rs)[i * 5 + j]? = (rowCells (rwn rs i))[j]? := by
  induction rs with
  | nil => intro i j h; simp at h
  | cons c l ih =>
    intro i j hi hj
    have e : flatR (c :: l) = rowCells c ++ flatR l := by simp [flatR]
    rw [e]
    cases i with
    | zero => rw [List.getElem?_append_left (by simp [rowCells]; omega)]; simp [rwn]
    | succ k =>
      rw [List.getElem?_append_right (by simp [rowCells]; omega)]
      have e2 : (k + 1) * 5 + j - (rowCells c).length = k * 5 + j := by simp [rowCells]; omega
      rw [e2, ih k j (by simpa using hi) hj]
      simp [rwn]
theorem rowCells_one (r : Rw) : ∀ u ∈ rowCells r, u.oneCell' = true := by
  intro u hu
  simp only [rowCells, List.mem_cons, List.not_mem_nil, or_false] at hu
  rcases hu with rfl | rfl | rfl | rfl | rfl <;> rfl
theorem flatR_one (rs : List Rw) : ∀ u ∈ flatR rs, u.oneCell' = true := by
  intro u hu
  obtain ⟨r, _, hr⟩ := List.mem_flatMap.1 hu
  exact rowCells_one r u hr

theorem info_row : (Tryd.prog.info? 63).map (fun i => (i.zero, i.size, i.bytes)) = some (some (.agg #[.slice none 0 0, .int .i64 0, .int .i64 0, .int .i64 0, .int .i64 0]), 5, 56) := by kernel_rfl
theorem info_u8 : (Tryd.prog.info? 5).map (fun i => (i.zero, i.size, i.bytes)) = some (some (.int .u8 0), 1, 1) := by kernel_rfl
theorem info_keys : (Tryd.prog.info? 24).map (fun i => (i.zero, i.size, i.bytes)) = some (some (.slice none 0 0), 1, 24) := by kernel_rfl
theorem maxLen_le2 : maxLen ≤ 9223372036854775807 := by unfold maxLen; omega

/-- rows of a call's own, cell by cell, whose keys can be read -/
theorem own_rows {w : World} {base : Nat} {v : Value} {rs : List Rw} (h : w.ownsRow base 63 5 v rs.length (flatR rs)) (hk : ∀ i, i < rs.length → KeyOk w (rwn rs i).a (rwn rs i).k.length (rwn rs i).cap (rwn rs i).k) : TabOut w v (rs.map plain) := by
  rcases h.2 with ⟨hv, h0⟩ | ⟨g, cap, cur, hv, _, _, hc, hm, _⟩
  · have : rs = [] := List.eq_nil_of_length_eq_zero h0
    subst this
    rw [hv]; exact TabOut.nil w
  · refine ⟨some ⟨g, 0, none⟩, cap, rs, hv, ?_, rfl, hc, Nat.le_trans hm maxLen_le2⟩
    refine .inr ⟨g, 0, rfl, fun i hi => ⟨?_, hk i hi⟩⟩
    rw [hv] at h
    have c : ∀ j, j < 5 → w.cell? ⟨g, i * 5 + j, none⟩ = (rowCells (rwn rs i))[j]? := fun j hj => by
      rw [World.ownsRow.cellAt h (i * 5 + j) (by omega), flatR_get rs i j hi hj]
    unfold CellsAt
    rw [Nat.zero_add]
    exact ⟨by simpa [rowCells] using c 0 (by omega), by simpa [rowCells] using c 1 (by omega), by simpa [rowCells] using c 2 (by omega), by simpa [rowCells] using c 3 (by omega), by simpa [rowCells] using c 4 (by omega)⟩
end Go.Proofs.YtgimknplckkiaaaDoor.table

namespace Go.Proofs.YtgimknplckkiaaaDoor.table
open Go.ChangeShapes Go.WideShapes Go.ChangeAt Go.RowKit Go.Deep
open Go.Proofs.YtgimknplckkiaaaDoor.dims (nth Ints cell_lt cmpL vals vals_len vals_get vals_one vals_app own_below own_mono own_out RowOut info_int ret_bool ret_int cmp_any refCmp_any)
open Go.Proofs.YtgimknplckkiaaaDoor.cell (C4 mrg all one zero In64)
set_option linter.unusedVariables false
set_option maxRecDepth 100000

/-- a key that a call hands out -/
def KeyOut (w : World) (v : Value) (l : List Int) : Prop := ∃ a cap, v = .slice a l.length cap ∧ KeyOk w a l.length cap l
theorem KeyOut.keep {w w1 : World} {v : Value} {l : List Int} (h : KeyOut w v l) (hb : Below w.heap.size w w1) : KeyOut w1 v l := by
  obtain ⟨a, cap, e, hI⟩ := h
  exact ⟨a, cap, e, hI.keep hb⟩

theorem heap_ints {w : World} {g : Nat} {t : TypeId} {l : List Int} (h : w.heap[g]? = some (.cells (vals l).toArray t (0, 0))) : Ints w (some ⟨g, 0, none⟩) l := by
  refine .inr ⟨g, 0, rfl, fun i hi => ?_⟩
  rw [Nat.zero_add, cell_of_row w g i _ t (0, 0) h]
  have := vals_get hi
  simpa using this

theorem own_cur {w : World} {base : Nat} {e : TypeId} {g n : Nat} {xs : List Value} (h : w.ownsRow base e 1 (.slice (some ⟨g, 0, none⟩) n n) n xs) : w.heap[g]? = some (.cells xs.toArray e (0, 0)) := by
  rcases h.2 with ⟨h', _⟩ | ⟨g', cap', cur, h', _, hg, _, _, hs, ht⟩
  · simp at h'
  · simp only [Value.slice.injEq, Option.some.injEq, Addr.mk.injEq, and_true, true_and] at h'
    obtain ⟨rfl, rfl⟩ := h'
    rw [List.take_of_length_le (by simp [hs])] at ht
    rw [hg, ← ht]

theorem key_cells {w : World} {a : Option Addr} {n cap : Nat} {l : List Int} (h : KeyOk w a n cap l) (hp : 0 < (vals l).length) : ∃ ad, a = some ad ∧ ∀ j v, (vals l)[j]? = some v → w.cell? (ad.add j) = some v := by
  rw [vals_len] at hp
  rcases h.mem with e | ⟨b, off, ha, hc⟩
  · rw [e] at hp; simp at hp
  · refine ⟨_, ha, fun j v hj => ?_⟩
    have hjl : j < l.length := by
      have := (List.getElem?_eq_some_iff.1 hj).1
      rwa [vals_len] at this
    rw [vals_get hjl] at hj
    injection hj with hj
    have := hc j hjl
    rw [show (⟨b, off, none⟩ : Addr).add j = ⟨b, off + j, none⟩ by by_cases e : j = 0 <;> simp [Addr.add, e], this, hj]

set_option maxHeartbeats 2000000 in
theorem same_any (a : Option Addr) (n cap : Nat) (l : List Int) (w : World) (h : KeyOk w a n cap l) (hn : n ≤ 1000000) :
    Calls Tryd.prog 66 #[.slice a n cap] w fun e w' => ∃ v, e = .returned v ∧ KeyOut w' v l ∧ Below w.heap.size w w' := by
  obtain ⟨i0, hi, hz0, hz1, hz2⟩ := info_parts info_int
  have H : Aside (KeyOk w a n cap l) := h
  have hl : (vals l).length = n := by rw [vals_len, h.len]
  obtain ⟨cs, hcs⟩ : ∃ cs, cs = vals l := ⟨_, rfl⟩
  have HC : Hid (cs = vals l) := hcs
  have HL : Hid (cs.length = n) := by show _ = _; rw [hcs, hl]
  clear hcs hl h
  go_enter Tryd.func66, Tryd.ntmps66
  go_wp2_with (at_make; refine wpList_make_full _ rfl _ _ 24 rfl w.heap.size 3 i0 (.int .i64 0) 1 Tryd.underlying24 hi hz0 hz1 .i64 .i64 _ _ n rfl rfl rfl rfl (by rw [hz2]; omega) (by unfold maxLen; omega) (Nat.le_refl _) ?_; intro w1 hown1 hg1; refine Hid.out ?_)
  refine Lib.hid ?_
  have hb1 : Below w.heap.size w w1 := (Below.refl _ _).grown hg1 (Nat.le_refl _) (fun q hq => by cases hq)
  obtain ⟨cur, hcur, hlen⟩ : ∃ cur : List Value, w1.heap[w.heap.size]? = some (.cells cur.toArray 3 (0, 0)) ∧ cur.length = n := by
    have e := hown1.1
    exact ⟨_, own_cur hown1, by omega⟩
  have HLC : Hid (cur.length = n) := hlen
  clear hown1 hg1 hlen
  go_wp2_with (with_reducible refine wpList_copy_splice rfl _ _ 24 24 rfl 3 Tryd.underlying24 (by kernel_rfl) (some ⟨w.heap.size, 0, none⟩) a n n n cap rfl rfl w.heap.size 0 cur 3 hcur cs (by rw [HL.out]; simp) (fun hp => ⟨rfl, by rw [HC.out] at hp ⊢; exact key_cells (H.out.keep hb1) hp⟩) (by rw [HL.out, HLC.out]; omega) (by rw [HC.out]; exact vals_one l) w.heap.size w hb1 (Nat.le_refl _) ?_; intro w2 HG2 hb2)
  go_ret
  refine ⟨_, rfl, ⟨some ⟨w.heap.size, 0, none⟩, n, by show Value.slice (some ⟨w.heap.size, 0, none⟩) n n = _; rw [H.out.len], ?_⟩, hb2⟩
  have e : splice cur 0 cs = vals l := by
    unfold splice
    rw [List.drop_eq_nil_of_le (by rw [HL.out, HLC.out]; omega), HC.out]; simp
  have hg := HG2.out
  rw [e] at hg
  exact ⟨heap_ints hg, rfl, by rw [H.out.len]; exact Nat.le_refl _, by omega, H.out.wf⟩

theorem box_keep {w : World} (o1 o2 : Obj) : Below w.heap.size w ((w.alloc o1).alloc o2) := ((Below.refl _ _).alloc (Nat.le_refl _) _).alloc (by simp) _

/-- the sort's closure: keys, place by place -/
theorem closure_any (x y : Rw) (w : World) (hx : KeyOk w x.a x.k.length x.cap x.k) (hy : KeyOk w y.a y.k.length y.cap y.k) :
    Calls Tryd.prog 88 #[.agg #[.slice x.a x.k.length x.cap, .int .i64 x.c.n, .int .i64 x.c.s, .int .i64 x.c.lo, .int .i64 x.c.hi], .agg #[.slice y.a y.k.length y.cap, .int .i64 y.c.n, .int .i64 y.c.s, .int .i64 y.c.lo, .int .i64 y.c.hi]] w
      fun e w' => e = .returned (.int .i64 (cmpL x.k y.k)) ∧ ∃ o1 o2, w' = (w.alloc o1).alloc o2 := by
  have hC := fun o1 o2 => cmp_any x.a y.a x.k.length y.k.length x.cap y.cap x.k y.k ((w.alloc o1).alloc o2) (hx.keep (box_keep o1 o2)).mem (hy.keep (box_keep o1 o2)).mem rfl rfl (Nat.le_trans hx.lec hx.max) (Nat.le_trans hy.lec hy.max) hx.lec hy.lec
  clear hx hy
  generalize cmpL x.k y.k = r at hC ⊢
  generalize x.k.length = n1 at hC ⊢
  generalize y.k.length = n2 at hC ⊢
  go_enter Tryd.func88, Tryd.ntmps88
  go_wp2_with (go_at_call 45; refine (hC _ _).mono ?_; rintro e w1 ⟨rfl, rfl⟩)
  go_ret
  exact ⟨rfl, _, _, rfl⟩
end Go.Proofs.YtgimknplckkiaaaDoor.table

namespace Go.Proofs.YtgimknplckkiaaaDoor.table
open Go.ChangeShapes Go.WideShapes Go.ChangeAt Go.RowKit Go.Deep
open Go.Proofs.YtgimknplckkiaaaDoor.dims (nth Ints cell_lt cmpL vals vals_len vals_get vals_one vals_app own_below own_mono own_out RowOut info_int ret_bool ret_int cmp_any refCmp_any)
open Go.Proofs.YtgimknplckkiaaaDoor.cell (C4 mrg all one zero In64)
set_option linter.unusedVariables false
set_option maxRecDepth 100000

theorem run_append_zero {P : Program} (w : World) (base : Nat) (t ty e : TypeId) (i : TypeInfo) (size : Nat) (ht : P.underlying t = some (.slice e)) (hi : P.info? e = some i)
    (v : Value) (n : Nat) (xs : List Value) (hown : w.ownsRow base e size v n xs) (a : Option Addr) (c : Nat) :
    (Builtin.append_ #[t, t] ty #[v, .slice a 0 c]).run P w = .ok v w := by
  rcases hown.2 with ⟨rfl, rfl⟩ | ⟨g, cap, cur, rfl, _, _, hnc, _⟩
  · cases a <;> simp [Builtin.append_, run_underlying ht, sizeOf, typeInfo, hi, Builtin.lenOf, Builtin.firstCells, loadCells, loadCellsFrom]
  · cases a <;> simp [Builtin.append_, run_underlying ht, sizeOf, typeInfo, hi, Builtin.lenOf, Builtin.firstCells, hnc, storeCells, loadCells, loadCellsFrom]

theorem wpList_append_zero {P : Program} {w : World} {ops : Array Oper} {rest : List Oper} {o : Oper} {a : Act} {Q : Exit → Act → World → Prop} (hgd : o.guard = none) (s x : Operand) (t : TypeId)
    (ho : o.op = .call { callee := .builtin .append, args := #[s, x], argTypes := #[t, t] })
    (base : Nat) (e : TypeId) (i : TypeInfo) (size : Nat) (ht : P.underlying t = some (.slice e)) (hi : P.info? e = some i)
    (v : Value) (n : Nat) (xs : List Value) (hs : a.eval s = v) (hown : w.ownsRow base e size v n xs) (ad : Option Addr) (c : Nat) (hx : a.eval x = .slice ad 0 c)
    (h : wpList P ops Q rest (a.put o.dst v) w) : wpList P ops Q (o :: rest) a w := by
  refine wpList_plain hgd fun K hK => ?_
  have hrun := run_append_zero (P := P) w base t o.type e i size ht hi v n xs hown ad c
  unfold Oper.wp
  simp [execOp, ho, resolve, invoke, builtin, hs, hx, hrun, Result.andThen]
  exact hK _ _ h

theorem key_own {w : World} {B : Nat} {v : Value} {l : List Int} (h : w.ownsRow B 3 1 v l.length (vals l)) (hw : ∀ x ∈ l, In64 x) : KeyOut w v l := by
  obtain ⟨a, cap, e, hI, hc⟩ := (own_out h).1
  refine ⟨a, cap, e, hI, rfl, hc, ?_, hw⟩
  rcases h.2 with ⟨hv, h0⟩ | ⟨g, cap', cur, hv, _, _, _, hm, _⟩
  · rw [e] at hv
    simp only [Value.slice.injEq] at hv
    omega
  · rw [e] at hv
    simp only [Value.slice.injEq] at hv
    rw [hv.2.2]; exact Nat.le_trans hm maxLen_le2

set_option maxHeartbeats 2000000 in
theorem ints_any (a : Option Addr) (n cap : Nat) (l : List Int) (w : World) (h : KeyOk w a n cap l) (hn : n ≤ 1000000) :
    Calls Tryd.prog 67 #[.slice a n cap] w fun e w' => ∃ v, e = .returned v ∧ KeyOut w' v l ∧ Below w.heap.size w w' ∧ ∀ b o m c, v = .slice (some ⟨b, o, none⟩) m c → w.heap.size ≤ b := by
  obtain ⟨i0, hi, hz0, hz1, hz2⟩ := info_parts info_int
  by_cases h0 : n = 0
  · subst h0
    have hl : l = [] := List.eq_nil_of_length_eq_zero h.len
    subst hl
    go_enter Tryd.func67, Tryd.ntmps67
    go_wp2_with (at_builtin; refine wpList_append_zero rfl _ _ 24 rfl w.heap.size 3 i0 1 Tryd.underlying24 hi _ 0 [] rfl (World.ownsRow_nil _ _ _ _) a cap rfl ?_)
    go_ret
    exact ⟨_, rfl, ⟨none, 0, rfl, KeyOk.nil w⟩, Below.refl _ _, fun b o m c e => by cases e⟩
  · have hl := h.len
    obtain ⟨b, off, ha, hc⟩ := h.mem.get (k := 0) (by omega)
    subst ha
    have hnews : ∀ j u, (vals l)[j]? = some u → w.cell? ((⟨b, off, none⟩ : Addr).add j) = some u := by
      obtain ⟨ad, e, hk⟩ := key_cells h (by rw [vals_len]; omega)
      injection e with e
      subst e; exact hk
    have hvl : (vals l).length = n * 1 := by rw [vals_len, hl]; omega
    have H : Aside (∀ x ∈ l, In64 x) := h.wf
    have HL : Hid (l.length = n) := hl
    clear h hc hl
    go_enter Tryd.func67, Tryd.ntmps67
    go_wp2_with (at_builtin; refine wpList_append_lies _ rfl _ _ 24 rfl w.heap.size 3 i0 _ 1 8 Tryd.underlying24 hi hz0 hz1 hz2 rfl (by decide) _ 0 [] rfl (World.ownsRow_nil _ _ _ _) ⟨b, off, none⟩ n cap (vals l) rfl hvl hnews (vals_one _) (by omega) (by unfold maxLen; omega) (by omega) (Nat.le_refl _) _ rfl ?_; intro g c3 w3 hown3 hgrow hat hglt)
    go_ret
    refine ⟨_, rfl, key_own (B := w.heap.size) ?_ H.out, (Below.refl _ _).grown hgrow (Nat.le_refl _) (fun q hq => by cases hq), fun b o m c e => ?_⟩
    rotate_left
    · change Value.slice (some ⟨g, 0, none⟩) n c3 = _ at e
      simp only [Value.slice.injEq, Option.some.injEq, Addr.mk.injEq] at e
      rw [← e.1.1]; exact (hown3.lt g rfl).1
    rw [HL.out]
    simpa using hown3

/-- a fact: where its key lies, the key, its number -/
structure Ft where
  a : Option Addr
  cap : Nat
  k : List Int
  v : Int
def ftn (fs : List Ft) (i : Nat) : Ft := fs.getD i ⟨none, 0, [], 0⟩
def pf (f : Ft) : PFact := (f.k, f.v)
def factRow (f : Ft) : Rw := ⟨f.a, f.cap, f.k, one f.v⟩
def FactsIn (w : World) (a : Option Addr) (fs : List Ft) : Prop :=
  fs = [] ∨ ∃ b off, a = some ⟨b, off, none⟩ ∧ ∀ i, i < fs.length → w.cell? ⟨b, off + i * 2, none⟩ = some (.slice (ftn fs i).a (ftn fs i).k.length (ftn fs i).cap) ∧ w.cell? ⟨b, off + i * 2 + 1, none⟩ = some (.int .i64 (ftn fs i).v) ∧ KeyOk w (ftn fs i).a (ftn fs i).k.length (ftn fs i).cap (ftn fs i).k
theorem FactsIn.keep {w w1 : World} {a : Option Addr} {fs : List Ft} (h : FactsIn w a fs) (hb : Below w.heap.size w w1) : FactsIn w1 a fs := by
  rcases h with h | ⟨b, off, ha, hc⟩
  · exact .inl h
  · refine .inr ⟨b, off, ha, fun i hi => ?_⟩
    obtain ⟨h1, h2, h3⟩ := hc i hi
    exact ⟨(hb.cell (p := ⟨b, off + i * 2, none⟩) (cell_lt h1)).trans h1, (hb.cell (p := ⟨b, off + i * 2 + 1, none⟩) (cell_lt h2)).trans h2, h3.keep hb⟩
theorem FactsIn.get {w : World} {a : Option Addr} {fs : List Ft} (h : FactsIn w a fs) {k : Nat} (hk : k < fs.length) : ∃ b off, a = some ⟨b, off, none⟩ ∧ ∀ i, i < fs.length → w.cell? ⟨b, off + i * 2, none⟩ = some (.slice (ftn fs i).a (ftn fs i).k.length (ftn fs i).cap) ∧ w.cell? ⟨b, off + i * 2 + 1, none⟩ = some (.int .i64 (ftn fs i).v) ∧ KeyOk w (ftn fs i).a (ftn fs i).k.length (ftn fs i).cap (ftn fs i).k := by
  rcases h with rfl | h
  · simp at hk
  · exact h
theorem ftn_mem {fs : List Ft} {i : Nat} (h : i < fs.length) : ftn fs i ∈ fs := by simp [ftn, h]
theorem ftn_eq {fs : List Ft} {i : Nat} (h : i < fs.length) : ftn fs i = fs[i] := by simp [ftn, h]
end Go.Proofs.YtgimknplckkiaaaDoor.table

namespace Go.Proofs.YtgimknplckkiaaaDoor.table
open Go.ChangeShapes Go.WideShapes Go.ChangeAt Go.RowKit Go.Deep
open Go.Proofs.YtgimknplckkiaaaDoor.dims (nth Ints cell_lt cmpL own_below ret_bool)
open Go.Proofs.YtgimknplckkiaaaDoor.cell (C4 mrg all one zero In64)
set_option linter.unusedVariables false
set_option maxRecDepth 100000

def factCells (f : Ft) : List Value := [.slice f.a f.k.length f.cap, .int .i64 f.v]
def flatF (fs : List Ft) : List Value := fs.flatMap factCells
theorem flatF_len (fs : List Ft) : (flatF fs).length = fs.length * 2 := by
  induction fs with
  | nil => rfl
  | cons c l ih => unfold flatF at *; simp only [List.flatMap_cons, List.length_append, List.length_cons, ih]; simp [factCells]; omega
theorem flatF_snoc (l : List Ft) (c : Ft) : flatF (l ++ [c]) = flatF l ++ factCells c := by simp [flatF]
theorem flatF_get (fs : List Ft) : ∀ i j, i < fs.length → j < 2 → (flatF fs)[i * 2 + j]? = (factCells (ftn fs i))[j]? := by
  induction fs with
  | nil => intro i j h; simp at h
  | cons c l ih =>
    intro i j hi hj
    have e : flatF (c :: l) = factCells c ++ flatF l := by simp [flatF]
    rw [e]
    cases i with
    | zero => rw [List.getElem?_append_left (by simp [factCells]; omega)]; simp [ftn]
    | succ k =>
      rw [List.getElem?_append_right (by simp [factCells]; omega)]
      have e2 : (k + 1) * 2 + j - (factCells c).length = k * 2 + j := by simp [factCells]; omega
      rw [e2, ih k j (by simpa using hi) hj]
      simp [ftn]
theorem flatF_take {fs : List Ft} {k : Nat} (h : k < fs.length) : flatF (fs.take (k + 1)) = flatF (fs.take k) ++ factCells (ftn fs k) := by
  rw [List.take_succ_eq_append_getElem h, flatF_snoc, ftn_eq h]
theorem info_fact : (Tryd.prog.info? 59).map (fun i => (i.zero, i.size, i.bytes)) = some (some (.agg #[.slice none 0 0, .int .i64 0]), 2, 32) := by kernel_rfl
/-- facts of a call's own, whose keys can be read -/
theorem own_facts {w : World} {base : Nat} {v : Value} {fs : List Ft} (h : w.ownsRow base 59 2 v fs.length (flatF fs)) (hk : ∀ f ∈ fs, KeyOk w f.a f.k.length f.cap f.k) : ∃ a cap, v = .slice a fs.length cap ∧ FactsIn w a fs ∧ fs.length ≤ cap := by
  rcases h.2 with ⟨hv, h0⟩ | ⟨g, cap, cur, hv, _, _, hc, hm, _⟩
  · have : fs = [] := List.eq_nil_of_length_eq_zero h0
    subst this
    exact ⟨none, 0, hv, .inl rfl, Nat.le_refl _⟩
  · refine ⟨some ⟨g, 0, none⟩, cap, hv, .inr ⟨g, 0, rfl, fun i hi => ?_⟩, hc⟩
    rw [hv] at h
    have c : ∀ j, j < 2 → w.cell? ⟨g, i * 2 + j, none⟩ = (factCells (ftn fs i))[j]? := fun j hj => by
      rw [World.ownsRow.cellAt h (i * 2 + j) (by omega), flatF_get fs i j hi hj]
    rw [Nat.zero_add]
    exact ⟨c 0 (by omega), c 1 (by omega), hk _ (ftn_mem hi)⟩
end Go.Proofs.YtgimknplckkiaaaDoor.table

namespace Go.Proofs.YtgimknplckkiaaaDoor.table
open Go.ChangeShapes Go.WideShapes Go.ChangeAt Go.RowKit Go.Deep
open Go.Proofs.YtgimknplckkiaaaDoor.dims (nth Ints cell_lt cmpL vals vals_len vals_get vals_one vals_app own_below own_mono own_out RowOut info_int ret_bool ret_int cmp_any refCmp_any)
open Go.Proofs.YtgimknplckkiaaaDoor.cell (C4 mrg all one zero In64)
set_option linter.unusedVariables false
set_option maxRecDepth 100000

theorem plain_at {rs qs : List Rw} (h : rs.map plain = qs.map plain) {k : Nat} (hk : k < rs.length) : (rwn rs k).k = (rwn qs k).k ∧ (rwn rs k).c = (rwn qs k).c := by
  have hl : rs.length = qs.length := by simpa using congrArg List.length h
  have e : (rs.map plain)[k]? = (qs.map plain)[k]? := by rw [h]
  rw [List.getElem?_map, List.getElem?_map, List.getElem?_eq_getElem hk, List.getElem?_eq_getElem (by omega)] at e
  simp only [Option.map_some, Option.some.injEq] at e
  rw [rwn_eq hk, rwn_eq (by omega)]
  exact ⟨congrArg Prod.fst e, congrArg Prod.snd e⟩

theorem ten_keep {W0 W w' : World} {B b1 p1 b2 p2 : Nat} {x0 x1 x2 x3 x4 y0 y1 y2 y3 y4 : Value} (hb : Below W.heap.size W w')
    (h : Below B W0 W ∧ B ≤ W.heap.size ∧ W.cell? ⟨b1, p1, none⟩ = some x0 ∧ W.cell? ⟨b1, p1 + 1, none⟩ = some x1 ∧ W.cell? ⟨b1, p1 + 2, none⟩ = some x2 ∧ W.cell? ⟨b1, p1 + 3, none⟩ = some x3 ∧ W.cell? ⟨b1, p1 + 4, none⟩ = some x4 ∧ W.cell? ⟨b2, p2, none⟩ = some y0 ∧ W.cell? ⟨b2, p2 + 1, none⟩ = some y1 ∧ W.cell? ⟨b2, p2 + 2, none⟩ = some y2 ∧ W.cell? ⟨b2, p2 + 3, none⟩ = some y3 ∧ W.cell? ⟨b2, p2 + 4, none⟩ = some y4) :
    Below B W0 w' ∧ B ≤ w'.heap.size ∧ w'.cell? ⟨b1, p1, none⟩ = some x0 ∧ w'.cell? ⟨b1, p1 + 1, none⟩ = some x1 ∧ w'.cell? ⟨b1, p1 + 2, none⟩ = some x2 ∧ w'.cell? ⟨b1, p1 + 3, none⟩ = some x3 ∧ w'.cell? ⟨b1, p1 + 4, none⟩ = some x4 ∧ w'.cell? ⟨b2, p2, none⟩ = some y0 ∧ w'.cell? ⟨b2, p2 + 1, none⟩ = some y1 ∧ w'.cell? ⟨b2, p2 + 2, none⟩ = some y2 ∧ w'.cell? ⟨b2, p2 + 3, none⟩ = some y3 ∧ w'.cell? ⟨b2, p2 + 4, none⟩ = some y4 := by
  obtain ⟨g0, g1, h0, h1, h2, h3, h4, h5, h6, h7, h8, h9⟩ := h
  have k : ∀ {c o : Nat} {v : Value}, W.cell? ⟨c, o, none⟩ = some v → w'.cell? ⟨c, o, none⟩ = some v := fun {c o v} hv => (hb.cell (p := ⟨c, o, none⟩) (cell_lt hv)).trans hv
  exact ⟨g0.trans (hb.mono g1), Nat.le_trans g1 hb.size, k h0, k h1, k h2, k h3, k h4, k h5, k h6, k h7, k h8, k h9⟩

set_option maxHeartbeats 4000000 in
theorem refSame_any (a1 a2 : Option Addr) (n c1 c2 : Nat) (rs qs : List Rw) (w : World) (h1 : RowsIn w a1 rs) (h2 : RowsIn w a2 qs) (e : rs.map plain = qs.map plain) (hn : rs.length = n) (hm : n ≤ 9223372036854775807) :
    Calls Tryd.prog 13 #[.slice a1 n c1, .slice a2 n c2] w fun e w' => e = .returned (.bool true) ∧ Below w.heap.size w w' := by
  have hl : rs.length = qs.length := by simpa using congrArg List.length e
  have H : Aside (RowsIn w a1 rs ∧ RowsIn w a2 qs ∧ rs.map plain = qs.map plain ∧ rs.length = n ∧ qs.length = n) := ⟨h1, h2, e, hn, by omega⟩
  clear h1 h2 e hn hl
  go_enter Tryd.func13, Tryd.ntmps13
  go_wp2_with fail
  go_loopg [5] n (fun g1 vi wr => ∃ (k : Nat), vi = .int .i64 k ∧ k ≤ n ∧ n - k ≤ g1 ∧ Aside (Below w.heap.size w wr))
  case atStart => exact ⟨0, rfl, Nat.zero_le _, Nat.le_refl _, Below.refl _ _⟩
  case round =>
    obtain ⟨k, rfl, hk, hg1, SK⟩ := hrel
    by_cases hlt : k < n
    · have hltz : (k : Int) < (n : Int) := by omega
      have hk1 : k < rs.length := by rw [H.out.2.2.2.1]; exact hlt
      have hk2 : k < qs.length := by rw [H.out.2.2.2.2]; exact hlt
      obtain ⟨b1, o1, ha1, hc1⟩ := (H.out.1.keep SK.out).get hk1
      subst ha1
      obtain ⟨⟨r0, r1, r2, r3, r4⟩, K1⟩ := hc1 k hk1
      obtain ⟨b2, o2, ha2, hc2⟩ := (H.out.2.1.keep SK.out).get hk2
      subst ha2
      obtain ⟨⟨q0, q1, q2, q3, q4⟩, K2⟩ := hc2 k hk2
      clear hc1 hc2
      obtain ⟨e1, e2⟩ := plain_at H.out.2.2.1 hk1
      rw [← e2] at q1 q2 q3 q4
      have hz : cmpL (rwn rs k).k (rwn qs k).k = 0 := by rw [e1]; exact cmpL_self _
      have m1 := Nat.le_trans K1.lec K1.max
      have m2 := Nat.le_trans K2.lec K2.max
      have hC := fun W (j1 : Ints W (rwn rs k).a (rwn rs k).k) (j2 : Ints W (rwn qs k).a (rwn qs k).k) => refCmp_any (rwn rs k).a (rwn qs k).a (rwn rs k).k.length (rwn qs k).k.length (rwn rs k).cap (rwn qs k).cap (rwn rs k).k (rwn qs k).k W j1 j2 rfl rfl m1 m2
      rw [hz] at hC
      have J1 : Aside (Ints wr (rwn rs k).a (rwn rs k).k) := K1.mem
      have J2 : Aside (Ints wr (rwn qs k).a (rwn qs k).k) := K2.mem
      clear e1 e2 K1 K2 hz m1 m2
      generalize (rwn rs k).c = c at r1 r2 r3 r4 q1 q2 q3 q4
      generalize (rwn rs k).k.length = t1 at r0 hC
      generalize (rwn rs k).cap = t2 at r0 hC
      generalize (rwn rs k).a = t3 at r0 hC J1
      generalize (rwn rs k).k = t4 at hC J1
      generalize (rwn qs k).k.length = s1 at q0 hC
      generalize (rwn qs k).cap = s2 at q0 hC
      generalize (rwn qs k).a = s3 at q0 hC J2
      generalize (rwn qs k).k = s4 at hC J2
      have hsz := SK.out.size
      go_wp2_with fail
      go_region_held3 (fun w' => Below wr.heap.size wr w' ∧ wr.heap.size ≤ w'.heap.size ∧ w'.cell? ⟨b1, o1 + k * 5, none⟩ = some (.slice t3 t1 t2) ∧ w'.cell? ⟨b1, o1 + k * 5 + 1, none⟩ = some (.int .i64 c.n) ∧ w'.cell? ⟨b1, o1 + k * 5 + 2, none⟩ = some (.int .i64 c.s) ∧ w'.cell? ⟨b1, o1 + k * 5 + 3, none⟩ = some (.int .i64 c.lo) ∧ w'.cell? ⟨b1, o1 + k * 5 + 4, none⟩ = some (.int .i64 c.hi) ∧ w'.cell? ⟨b2, o2 + k * 5, none⟩ = some (.slice s3 s1 s2) ∧ w'.cell? ⟨b2, o2 + k * 5 + 1, none⟩ = some (.int .i64 c.n) ∧ w'.cell? ⟨b2, o2 + k * 5 + 2, none⟩ = some (.int .i64 c.s) ∧ w'.cell? ⟨b2, o2 + k * 5 + 3, none⟩ = some (.int .i64 c.lo) ∧ w'.cell? ⟨b2, o2 + k * 5 + 4, none⟩ = some (.int .i64 c.hi))
        (first | assumption | (exact ⟨(Below.refl _ _).drew, Nat.le_refl _, r0, r1, r2, r3, r4, q0, q1, q2, q3, q4⟩) | (exact ⟨Below.refl _ _, Nat.le_refl _, r0, r1, r2, r3, r4, q0, q1, q2, q3, q4⟩) | (refine ten_keep (W0 := wr) (B := wr.heap.size) (b1 := b1) (p1 := o1 + k * 5) (b2 := b2) (p2 := o2 + k * 5) (x0 := .slice t3 t1 t2) (x1 := .int .i64 c.n) (x2 := .int .i64 c.s) (x3 := .int .i64 c.lo) (x4 := .int .i64 c.hi) (y0 := .slice s3 s1 s2) (y1 := .int .i64 c.n) (y2 := .int .i64 c.s) (y3 := .int .i64 c.lo) (y4 := .int .i64 c.hi) hb2 ?_; assumption))
        ((go_at_call 31; refine (hC _ (J1.out.keep (by apply And.left; assumption)) (J2.out.keep (by apply And.left; assumption))).mono ?_; rintro e w2 ⟨rfl, hb2⟩))
      have S2 : Aside (Below w.heap.size w w2) := by
        have h : Below wr.heap.size wr w2 := by apply And.left; assumption
        exact SK.out.trans (h.mono hsz)
      go_wp2
      go_roundg (n - (k + 1))
      case measure => omega
      case rel => exact ⟨k + 1, by go_num, by omega, by omega, S2⟩
    · have hltz : ¬ (k : Int) < (n : Int) := by omega
      go_wp2
      go_ret
      exact ⟨rfl, SK.out⟩
end Go.Proofs.YtgimknplckkiaaaDoor.table

namespace Go.Proofs.YtgimknplckkiaaaDoor.table
open Go.ChangeShapes Go.WideShapes Go.ChangeAt Go.RowKit Go.Deep
open Go.Proofs.YtgimknplckkiaaaDoor.dims (nth Ints cell_lt cmpL vals vals_len vals_get vals_one vals_app own_below own_mono own_out RowOut info_int ret_bool ret_int cmp_any refCmp_any)
open Go.Proofs.YtgimknplckkiaaaDoor.cell (C4 mrg all one zero In64)
set_option linter.unusedVariables false
set_option maxRecDepth 100000

def posK (l : List Int) : Bool := l.all fun v => decide (0 ≤ v)
theorem posK_of {l : List Int} (h : ∀ i, i < l.length → 0 ≤ nth l i) : posK l = true := by
  unfold posK
  rw [List.all_eq_true]
  intro d hd
  obtain ⟨i, hi, rfl⟩ := List.mem_iff_getElem.1 hd
  have := h i hi
  simpa [nth, hi] using this
theorem posK_not {l : List Int} {k : Nat} (hk : k < l.length) (h : nth l k < 0) : posK l = false := by
  cases e : posK l with
  | false => rfl
  | true =>
    have := (List.all_eq_true.1 e) (nth l k) (by simp [nth, hk])
    have := of_decide_eq_true this
    omega
theorem posK_at {l : List Int} (h : posK l = true) {k : Nat} (hk : k < l.length) : 0 ≤ nth l k := of_decide_eq_true ((List.all_eq_true.1 h) (nth l k) (by simp [nth, hk]))

def sndR (r : Rw) (p : Int) : Bool := decide ((r.k.length : Int) = p) && (posK r.k && (decide (r.c.n ≠ 0) && cell.sound r.c))
def okAt (rs : List Rw) (p : Int) (i : Nat) : Bool := sndR (rwn rs i) p && (decide (i = 0) || decide (cmpL (rwn rs (i - 1)).k (rwn rs i).k < 0))
def sndT (rs : List Rw) (p : Int) : Bool := (List.range rs.length).all (okAt rs p)
theorem sndT_of {rs : List Rw} {p : Int} (h : ∀ i, i < rs.length → okAt rs p i = true) : sndT rs p = true := by
  unfold sndT
  rw [List.all_eq_true]
  intro i hi
  exact h i (List.mem_range.1 hi)
theorem sndT_not {rs : List Rw} {p : Int} {k : Nat} (hk : k < rs.length) (h : okAt rs p k = false) : sndT rs p = false := by
  cases e : sndT rs p with
  | false => rfl
  | true =>
    have := (List.all_eq_true.1 e) k (List.mem_range.2 hk)
    rw [h] at this; cases this
theorem sndT_at {rs : List Rw} {p : Int} (h : sndT rs p = true) {k : Nat} (hk : k < rs.length) : okAt rs p k = true := (List.all_eq_true.1 h) k (List.mem_range.2 hk)

theorem below0_any (v : Int) (w : World) :
    Calls Tryd.prog 70 #[.int .i64 v] w fun e w' => e = .returned (.bool (decide (v < 0))) ∧ w' = w := by
  go_enter Tryd.func70, Tryd.ntmps70
  go_wp2
  go_ret
  exact ⟨rfl, rfl⟩

set_option maxHeartbeats 2000000 in
theorem indexF_any (a : Option Addr) (n cap : Nat) (l : List Int) (w : World) (hI : Ints w a l) (hn : l.length = n) (hm : n ≤ 9223372036854775807) :
    Calls Tryd.prog 81 #[.slice a n cap, .func (.func 70) #[] #[]] w fun e w' => ∃ r, e = .returned (.int .i64 r) ∧ decide (0 ≤ r) = !(posK l) ∧ Below w.heap.size w w' := by
  have HN : Hid (l.length = n) := hn
  have HI : Aside (Ints w a l) := hI
  clear hn hI
  go_enter Tryd.func81, Tryd.ntmps81
  go_wp2_with fail
  go_loopg [8] n (fun g1 vi wr => ∃ (k : Nat), vi = .int .i64 k ∧ k ≤ n ∧ n - k ≤ g1 ∧ Aside (Below w.heap.size w wr ∧ ∀ i, i < k → 0 ≤ nth l i))
  case atStart => exact ⟨0, rfl, Nat.zero_le _, Nat.le_refl _, Below.refl _ _, fun i hi => by omega⟩
  case round =>
    obtain ⟨k, rfl, hk, hg1, SK⟩ := hrel
    by_cases hlt : k < n
    · have hltz : (k : Int) < (n : Int) := by omega
      have hkl : k < l.length := by rw [HN.out]; exact hlt
      obtain ⟨b, off, ha, hc⟩ := (HI.out.keep SK.out.1).get hkl
      subst ha
      have r0 := hc k hkl
      clear hc
      obtain ⟨x, hx⟩ : ∃ x, nth l k = x := ⟨_, rfl⟩
      rw [hx] at r0
      by_cases hs : 0 ≤ x
      · have hd : decide (x < 0) = false := decide_eq_false (by omega)
        have S2 : Aside (∀ i, i < k + 1 → 0 ≤ nth l i) := fun i hi => by
          by_cases e : i = k
          · subst e; rw [hx]; exact hs
          · exact SK.out.2 i (by omega)
        clear hx
        go_wp2_with (go_at_call 70; refine (below0_any _ _).mono ?_; rintro e w1 ⟨rfl, rfl⟩)
        go_roundg (n - (k + 1))
        case measure => omega
        case rel => exact ⟨k + 1, by go_num, by omega, by omega, SK.out.1, S2.out⟩
      · have hd : decide (x < 0) = true := decide_eq_true (by omega)
        have E : Hid (posK l = false) := posK_not hkl (by rw [hx]; omega)
        clear hx
        go_wp2_with (go_at_call 70; refine (below0_any _ _).mono ?_; rintro e w1 ⟨rfl, rfl⟩)
        go_ret
        exact ⟨_, rfl, by rw [E.out]; simp, SK.out.1⟩
    · have hltz : ¬ (k : Int) < (n : Int) := by omega
      have E : Hid (posK l = true) := posK_of fun i hi => SK.out.2 i (by have := HN.out; omega)
      go_wp2
      go_ret
      exact ⟨_, rfl, by rw [E.out]; simp, SK.out.1⟩

theorem containsF_any (a : Option Addr) (n cap : Nat) (l : List Int) (s : Bool) (w : World) (hI : Ints w a l) (hn : l.length = n) (hm : n ≤ 9223372036854775807) (hs : posK l = s) :
    Calls Tryd.prog 69 #[.slice a n cap, .func (.func 70) #[] #[]] w fun e w' => e = .returned (.bool (!s)) ∧ Below w.heap.size w w' := by
  have hX := indexF_any a n cap l w hI hn hm
  rw [hs] at hX
  clear hI hs
  go_enter Tryd.func69, Tryd.ntmps69
  go_wp2_with fail
  refine hX.mono ?_
  rintro e w1 ⟨r, rfl, hr, hb⟩
  have HB : Aside _ := hb
  have HR : Hid _ := hr
  clear hb hr hX
  go_wp2
  go_ret
  exact ⟨ret_bool HR.out, HB.out⟩

set_option maxHeartbeats 2000000 in
theorem soundR_any (r : Rw) (p : Int) (w : World) (hK : KeyOk w r.a r.k.length r.cap r.k) :
    Calls Tryd.prog 44 #[.agg #[.slice r.a r.k.length r.cap, .int .i64 r.c.n, .int .i64 r.c.s, .int .i64 r.c.lo, .int .i64 r.c.hi], .int .i64 p] w fun e w' => e = .returned (.bool (sndR r p)) ∧ Below w.heap.size w w' := by
  have hbx : ∀ o, Below w.heap.size w (w.alloc o) := fun o => (Below.refl _ _).alloc (Nat.le_refl _) _
  have E0 : sndR r p = (decide ((r.k.length : Int) = p) && (posK r.k && (decide (r.c.n ≠ 0) && cell.sound r.c))) := rfl
  obtain ⟨s, hs⟩ : ∃ s, posK r.k = s := ⟨_, rfl⟩
  have hC := fun o => containsF_any r.a r.k.length r.cap r.k s (w.alloc o) (hK.keep (hbx o)).mem rfl (Nat.le_trans hK.lec hK.max) hs
  rw [hs] at E0
  obtain ⟨t, ht⟩ : ∃ t, cell.sound r.c = t := ⟨_, rfl⟩
  have hD := fun W => cell.sound_any r.c W
  rw [ht] at hD E0
  obtain ⟨nk, hnk⟩ : ∃ nk, r.k.length = nk := ⟨_, rfl⟩
  rw [hnk] at hC E0 ⊢
  have HB : Aside (∀ o, Below w.heap.size w (w.alloc o)) := hbx
  clear hK hs ht hnk hbx
  generalize sndR r p = z at E0 ⊢
  by_cases h1 : (nk : Int) = p
  · subst h1
    cases s with
    | false =>
      as_aux_lemma =>
        have E : Hid (z = false) := by show _ = _; rw [E0]; simp
        clear E0
        go_enter Tryd.func44, Tryd.ntmps44
        go_wp2_with (go_at_call 69; refine (hC _).mono ?_; rintro e w1 ⟨rfl, hb1⟩)
        go_ret
        exact ⟨ret_bool E.out.symm, (HB.out _).trans (hb1.mono (by simp))⟩
    | true =>
      by_cases h2 : r.c.n = 0
      · as_aux_lemma =>
          have E : Hid (z = false) := by show _ = _; rw [E0]; simp [h2]
          have h2b : (r.c.n == 0) = true := by simpa using h2
          clear E0
          go_enter Tryd.func44, Tryd.ntmps44
          go_wp2_with (go_at_call 69; refine (hC _).mono ?_; rintro e w1 ⟨rfl, hb1⟩; have c1 := hb1.cell (p := ⟨w.heap.size, 1, none⟩) (by simp); simp [go_sem] at c1)
          go_ret
          exact ⟨ret_bool E.out.symm, (HB.out _).trans (hb1.mono (by simp))⟩
      · as_aux_lemma =>
          have E : Hid (z = t) := by show _ = _; rw [E0]; simp [h2]
          have h2b : (r.c.n == 0) = false := by simpa using h2
          clear E0
          go_enter Tryd.func44, Tryd.ntmps44
          go_wp2_with (first | (go_at_call 69; refine (hC _).mono ?_; rintro e w1 ⟨rfl, hb1⟩; have c1 := hb1.cell (p := ⟨w.heap.size, 1, none⟩) (by simp); have c2 := hb1.cell (p := ⟨w.heap.size, 2, none⟩) (by simp); have c3 := hb1.cell (p := ⟨w.heap.size, 3, none⟩) (by simp); have c4 := hb1.cell (p := ⟨w.heap.size, 4, none⟩) (by simp); simp [go_sem] at c1 c2 c3 c4) | (go_at_call 71; refine (hD _).mono ?_; rintro e w2 ⟨rfl, hb2⟩))
          go_ret
          exact ⟨ret_bool (by rw [E.out]; simp [h2]), ((HB.out _).trans (hb1.mono (by simp))).trans (hb2.mono (by have := hb1.size; simp at this; omega))⟩
  · as_aux_lemma =>
      have E : Hid (z = false) := by show _ = _; rw [E0]; simp [h1]
      have h1b : ((nk : Int) == p) = false := by simpa using h1
      clear E0 hC
      go_enter Tryd.func44, Tryd.ntmps44
      go_wp2
      go_ret
      exact ⟨ret_bool E.out.symm, HB.out _⟩
end Go.Proofs.YtgimknplckkiaaaDoor.table
