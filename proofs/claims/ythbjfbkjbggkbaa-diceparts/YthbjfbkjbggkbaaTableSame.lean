/-
  The contracts of the leaves: a key in memory of its own (table.same, the chapter's ints), the order of two rows (the sort's closure), a place below nought.
-/
import Derived.Test.YthbjfbkjbggkbaaTableLeaf
import Derived.Laws.CopyOwn
namespace Go.Proofs.Ythbjfbkjbggkbaa.table
open Go.ChangeShapes Go.WideShapes Go.ChangeAt Go.RowKit Go.Deep
open Go.Proofs.Ythbjfbkjbggkbaa.dims (nth Ints cell_lt cmpL vals vals_len vals_get vals_one vals_app own_below own_mono own_out RowOut info_int ret_bool ret_int refCmp_any)
open Go.Proofs.Ythbjfbkjbggkbaa.cell (C4 mrg all one zero In64)
set_option linter.unusedVariables false
set_option maxRecDepth 100000

/-- a key that a call hands out -/
def KeyOut (w : World) (v : Value) (l : List Int) : Prop := ∃ a cap, v = .slice a l.length cap ∧ KeyOk w a l.length cap l
theorem KeyOut.keep {w w1 : World} {v : Value} {l : List Int} (h : KeyOut w v l) (hb : Below w.heap.size w w1) : KeyOut w1 v l := by
  obtain ⟨a, cap, e, hI⟩ := h
  exact ⟨a, cap, e, hI.keep hb⟩

theorem heap_ints {w : World} {g : Nat} {t : TypeId} {l : List Int} (h : w.heap[g]? = some (.cells (vals l).toArray t (0, 0))) : Ints w (some ⟨g, 0, none⟩) l := by
  refine .inr ⟨g, 0, rfl, fun i hi => ?_⟩
  rw [Nat.zero_add, cell_of_row w g i _ t (0, 0) h]
  have := vals_get hi
  simpa using this

theorem own_cur {w : World} {base : Nat} {e : TypeId} {g n : Nat} {xs : List Value} (h : w.ownsRow base e 1 (.slice (some ⟨g, 0, none⟩) n n) n xs) : w.heap[g]? = some (.cells xs.toArray e (0, 0)) := by
  rcases h.2 with ⟨h', _⟩ | ⟨g', cap', cur, h', _, hg, _, _, hs, ht⟩
  · simp at h'
  · simp only [Value.slice.injEq, Option.some.injEq, Addr.mk.injEq, and_true, true_and] at h'
    obtain ⟨rfl, rfl⟩ := h'
    rw [List.take_of_length_le (by simp [hs])] at ht
    rw [hg, ← ht]

theorem key_cells {w : World} {a : Option Addr} {n cap : Nat} {l : List Int} (h : KeyOk w a n cap l) (hp : 0 < (vals l).length) : ∃ ad, a = some ad ∧ ∀ j v, (vals l)[j]? = some v → w.cell? (ad.add j) = some v := by
  rw [vals_len] at hp
  rcases h.mem with e | ⟨b, off, ha, hc⟩
  · rw [e] at hp; simp at hp
  · refine ⟨_, ha, fun j v hj => ?_⟩
    have hjl : j < l.length := by
      have := (List.getElem?_eq_some_iff.1 hj).1
      rwa [vals_len] at this
    rw [vals_get hjl] at hj
    injection hj with hj
    have := hc j hjl
    rw [show (⟨b, off, none⟩ : Addr).add j = ⟨b, off + j, none⟩ by by_cases e : j = 0 <;> simp [Addr.add, e], this, hj]

theorem box_keep {w : World} (o1 o2 : Obj) : Below w.heap.size w ((w.alloc o1).alloc o2) := ((Below.refl _ _).alloc (Nat.le_refl _) _).alloc (by simp) _

end Go.Proofs.Ythbjfbkjbggkbaa.table
