/-
  The contracts of the leaves: a key in memory of its own (table.same, the chapter's ints), the order of two rows (the sort's closure), a place below nought.
-/
import Derived.Test.YtfchpcmiipnbjaaDoorTableLeaf
import Derived.Laws.CopyOwn
namespace Go.Proofs.YtfchpcmiipnbjaaDoor.table
open Go.ChangeShapes Go.WideShapes Go.ChangeAt Go.RowKit Go.Deep
open Go.Proofs.YtfchpcmiipnbjaaDoor.dims (nth Ints cell_lt cmpL vals vals_len vals_get vals_one vals_app own_below own_mono own_out RowOut info_int ret_bool ret_int cmp_any refCmp_any)
open Go.Proofs.YtfchpcmiipnbjaaDoor.cell (C4 mrg all one zero In64)
set_option linter.unusedVariables false
set_option maxRecDepth 100000

/-- a key that a call hands out -/
def KeyOut (w : World) (v : Value) (l : List Int) : Prop := ∃ a cap, v = .slice a l.length cap ∧ KeyOk w a l.length cap l
theorem KeyOut.keep {w w1 : World} {v : Value} {l : List Int} (h : KeyOut w v l) (hb : Below w.heap.size w w1) : KeyOut w1 v l := by
  obtain ⟨a, cap, e, hI⟩ := h
  exact ⟨a, cap, e, hI.keep hb⟩

theorem heap_ints {w : World} {g : Nat} {t : TypeId} {l : List Int} (h : w.heap[g]? = some (.cells (vals l).toArray t (0, 0))) : Ints w (some ⟨g, 0, none⟩) l := by
  refine .inr ⟨g, 0, rfl, fun i hi => ?_⟩
  rw [Nat.zero_add, cell_of_row w g i _ t (0, 0) h]
  have := vals_get hi
  simpa using this

theorem own_cur {w : World} {base : Nat} {e : TypeId} {g n : Nat} {xs : List Value} (h : w.ownsRow base e 1 (.slice (some ⟨g, 0, none⟩) n n) n xs) : w.heap[g]? = some (.cells xs.toArray e (0, 0)) := by
  rcases h.2 with ⟨h', _⟩ | ⟨g', cap', cur, h', _, hg, _, _, hs, ht⟩
  · simp at h'
  · simp only [Value.slice.injEq, Option.some.injEq, Addr.mk.injEq, and_true, true_and] at h'
    obtain ⟨rfl, rfl⟩ := h'
    rw [List.take_of_length_le (by simp [hs])] at ht
    rw [hg, ← ht]

theorem key_cells {w : World} {a : Option Addr} {n cap : Nat} {l : List Int} (h : KeyOk w a n cap l) (hp : 0 < (vals l).length) : ∃ ad, a = some ad ∧ ∀ j v, (vals l)[j]? = some v → w.cell? (ad.add j) = some v := by
  rw [vals_len] at hp
  rcases h.mem with e | ⟨b, off, ha, hc⟩
  · rw [e] at hp; simp at hp
  · refine ⟨_, ha, fun j v hj => ?_⟩
    have hjl : j < l.length := by
      have := (List.getElem?_eq_some_iff.1 hj).1
      rwa [vals_len] at this
    rw [vals_get hjl] at hj
    injection hj with hj
    have := hc j hjl
    rw [show (⟨b, off, none⟩ : Addr).add j = ⟨b, off + j, none⟩ by by_cases e : j = 0 <;> simp [Addr.add, e], this, hj]

set_option maxHeartbeats 2000000 in
theorem same_any (a : Option Addr) (n cap : Nat) (l : List Int) (w : World) (h : KeyOk w a n cap l) (hn : n ≤ 1000000) :
    Calls Tryd.prog 30 #[.slice a n cap] w fun e w' => ∃ v, e = .returned v ∧ KeyOut w' v l ∧ Below w.heap.size w w' := by
  obtain ⟨i0, hi, hz0, hz1, hz2⟩ := info_parts info_int
  have H : Aside (KeyOk w a n cap l) := h
  have hl : (vals l).length = n := by rw [vals_len, h.len]
  obtain ⟨cs, hcs⟩ : ∃ cs, cs = vals l := ⟨_, rfl⟩
  have HC : Hid (cs = vals l) := hcs
  have HL : Hid (cs.length = n) := by show _ = _; rw [hcs, hl]
  clear hcs hl h
  go_enter Tryd.func30, Tryd.ntmps30
  go_wp2_with (at_make; refine wpList_make_full _ rfl _ _ 38 rfl w.heap.size 3 i0 (.int .i64 0) 1 Tryd.underlying38 hi hz0 hz1 .i64 .i64 _ _ n rfl rfl rfl rfl (by rw [hz2]; omega) (by unfold maxLen; omega) (Nat.le_refl _) ?_; intro w1 hown1 hg1; refine Hid.out ?_)
  refine Lib.hid ?_
  have hb1 : Below w.heap.size w w1 := (Below.refl _ _).grown hg1 (Nat.le_refl _) (fun q hq => by cases hq)
  obtain ⟨cur, hcur, hlen⟩ : ∃ cur : List Value, w1.heap[w.heap.size]? = some (.cells cur.toArray 3 (0, 0)) ∧ cur.length = n := by
    have e := hown1.1
    exact ⟨_, own_cur hown1, by omega⟩
  have HLC : Hid (cur.length = n) := hlen
  clear hown1 hg1 hlen
  go_wp2_with (with_reducible refine wpList_copy_splice rfl _ _ 38 38 rfl 3 Tryd.underlying38 (by kernel_rfl) (some ⟨w.heap.size, 0, none⟩) a n n n cap rfl rfl w.heap.size 0 cur 3 hcur cs (by rw [HL.out]; simp) (fun hp => ⟨rfl, by rw [HC.out] at hp ⊢; exact key_cells (H.out.keep hb1) hp⟩) (by rw [HL.out, HLC.out]; omega) (by rw [HC.out]; exact vals_one l) w.heap.size w hb1 (Nat.le_refl _) ?_; intro w2 HG2 hb2)
  go_ret
  refine ⟨_, rfl, ⟨some ⟨w.heap.size, 0, none⟩, n, by show Value.slice (some ⟨w.heap.size, 0, none⟩) n n = _; rw [H.out.len], ?_⟩, hb2⟩
  have e : splice cur 0 cs = vals l := by
    unfold splice
    rw [List.drop_eq_nil_of_le (by rw [HL.out, HLC.out]; omega), HC.out]; simp
  have hg := HG2.out
  rw [e] at hg
  exact ⟨heap_ints hg, rfl, by rw [H.out.len]; exact Nat.le_refl _, by omega, H.out.wf⟩

theorem box_keep {w : World} (o1 o2 : Obj) : Below w.heap.size w ((w.alloc o1).alloc o2) := ((Below.refl _ _).alloc (Nat.le_refl _) _).alloc (by simp) _

/-- the sort's closure: keys, place by place -/
theorem closure_any (x y : Rw) (w : World) (hx : KeyOk w x.a x.k.length x.cap x.k) (hy : KeyOk w y.a y.k.length y.cap y.k) :
    Calls Tryd.prog 65 #[.agg #[.slice x.a x.k.length x.cap, .int .i64 x.c.n, .int .i64 x.c.s, .int .i64 x.c.lo, .int .i64 x.c.hi], .agg #[.slice y.a y.k.length y.cap, .int .i64 y.c.n, .int .i64 y.c.s, .int .i64 y.c.lo, .int .i64 y.c.hi]] w
      fun e w' => e = .returned (.int .i64 (cmpL x.k y.k)) ∧ ∃ o1 o2, w' = (w.alloc o1).alloc o2 := by
  have hC := fun o1 o2 => cmp_any x.a y.a x.k.length y.k.length x.cap y.cap x.k y.k ((w.alloc o1).alloc o2) (hx.keep (box_keep o1 o2)).mem (hy.keep (box_keep o1 o2)).mem rfl rfl (Nat.le_trans hx.lec hx.max) (Nat.le_trans hy.lec hy.max) hx.lec hy.lec
  clear hx hy
  generalize cmpL x.k y.k = r at hC ⊢
  generalize x.k.length = n1 at hC ⊢
  generalize y.k.length = n2 at hC ⊢
  go_enter Tryd.func65, Tryd.ntmps65
  go_wp2_with (go_at_call 33; refine (hC _ _).mono ?_; rintro e w1 ⟨rfl, rfl⟩)
  go_ret
  exact ⟨rfl, _, _, rfl⟩
end Go.Proofs.YtfchpcmiipnbjaaDoor.table
