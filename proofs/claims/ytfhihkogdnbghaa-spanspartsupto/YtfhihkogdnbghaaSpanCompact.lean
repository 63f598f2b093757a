/-
  The contract of slices.CompactFunc of spans by their nodes: one of each run stays.
-/
import Derived.Test.YtfhihkogdnbghaaSpanApp
import Derived.Test.YtfhihkogdnbghaaSpanSmall
import Derived.Test.YtfhihkogdnbghaaByteGrows
import Derived.Lib.SliceRun
namespace Go.Proofs.Ytfhihkogdnbghaa.spans
open Go.ChangeShapes Go.WideShapes Go.ChangeAt Go.RowKit Go.Deep
open Go.Proofs.Ytfhihkogdnbghaa.bytes (ret_bool hid nth addr_add cell_lt own_below own_mono Grw wp_region_grow grow_same grow_of)
set_option linter.unusedVariables false
set_option maxRecDepth 100000
set_option linter.unusedSimpArgs false

theorem given1_any (s t : Sp) (w : World) :
    Calls Try.prog 51 #[spV s, spV t] w fun e w' => e = .returned (.bool (decide (s.2 = t.2))) ∧ Below w.heap.size w w' := by
  obtain ⟨x, y⟩ := s
  obtain ⟨x2, y2⟩ := t
  have hB : Below w.heap.size w ((w.alloc (.cells #[.int .i64 x, .int .i64 y] 38)).alloc (.cells #[.int .i64 x2, .int .i64 y2] 38)) := by (repeat (first | with_reducible exact Below.refl _ _ | (with_reducible refine Below.drew ?_) | (with_reducible refine Below.alloc ?_ (by first | omega | (simp; done) | (simp; omega)) _) | (with_reducible refine Below.setCell ?_ (by first | exact Nat.le_refl _ | omega | (simp; done) | (simp; omega)) _)))
  unfold spV
  dsimp only
  have HB : Aside _ := hB
  clear hB
  by_cases h : y = y2
  · have E : Hid (decide (y = y2) = true) := decide_eq_true h
    have d1 : (y == y2) = true := by simp [h]
    clear h
    go_enter Try.func51, Try.ntmps51
    go_wp2
    go_ret
    exact ⟨ret_bool E.out.symm, HB.out⟩
  · have E : Hid (decide (y = y2) = false) := decide_eq_false h
    have d1 : (y == y2) = false := by simp [h]
    clear h
    go_enter Try.func51, Try.ntmps51
    go_wp2
    go_ret
    exact ⟨ret_bool E.out.symm, HB.out⟩

/-! ### what stays -/
theorem So.cells {B n c g : Nat} {w : World} {l : List Sp} (h : So B w (.slice (some ⟨g, 0, none⟩) n c) l) (hn : l.length = n) {k : Nat} (hk : k < n) : w.cell? ⟨g, k * 2, none⟩ = some (.int .i64 (spn l k).1) ∧ w.cell? ⟨g, k * 2 + 1, none⟩ = some (.int .i64 (spn l k).2) := by
  subst hn
  obtain ⟨e1, e2⟩ := flatS_get l k hk
  exact ⟨(World.ownsRow.cellAt h (k * 2) (by omega)).trans e1, (World.ownsRow.cellAt h (k * 2 + 1) (by omega)).trans e2⟩
theorem So.frz {B n c g : Nat} {w : World} {l : List Sp} (h : So B w (.slice (some ⟨g, 0, none⟩) n c) l) (hn : l.length = n) (j : Nat) : w.frozen? ⟨g, j, none⟩ = false := by
  subst hn
  exact World.ownsRow.frozenAt h j
theorem So.cap {B n c g : Nat} {w : World} {l : List Sp} (h : So B w (.slice (some ⟨g, 0, none⟩) n c) l) : n ≤ c ∧ n = l.length ∧ c ≤ maxLen := by
  rcases h.2 with ⟨hv, h0⟩ | ⟨g1, cap, cur, hv, _, _, hc, hm, _⟩
  · cases hv
  · injection hv with h1 h2 h3
    subst h3
    exact ⟨by omega, h2, hm⟩
theorem So.low {B n c g : Nat} {w : World} {l : List Sp} (h : So B w (.slice (some ⟨g, 0, none⟩) n c) l) : B ≤ g ∧ g < w.heap.size := h.lt g rfl
theorem flatS_set : ∀ (l : List Sp) (k : Nat) (s : Sp), k < l.length → ((flatS l).set (k * 2) (.int .i64 s.1)).set (k * 2 + 1) (.int .i64 s.2) = flatS (l.set k s)
  | [], k, s, h => by simp at h
  | a :: r, 0, s, h => rfl
  | a :: r, k + 1, s, h => by
    have ih := flatS_set r k s (by simpa using h)
    have e : ∀ (a : Sp) (r : List Sp), flatS (a :: r) = .int .i64 a.1 :: .int .i64 a.2 :: flatS r := fun _ _ => rfl
    rw [e, List.set_cons_succ, e, show (k + 1) * 2 = k * 2 + 1 + 1 by omega, List.set_cons_succ, List.set_cons_succ, List.set_cons_succ, List.set_cons_succ, ih]
theorem So.set {B n c g : Nat} {w : World} {l : List Sp} (h : So B w (.slice (some ⟨g, 0, none⟩) n c) l) (hn : l.length = n) {k : Nat} (hk : k < n) (s : Sp) :
    So B ((w.setCell ⟨g, k * 2, none⟩ (.int .i64 s.1)).setCell ⟨g, k * 2 + 1, none⟩ (.int .i64 s.2)) (.slice (some ⟨g, 0, none⟩) n c) (l.set k s) ∧ w.grownBy ((w.setCell ⟨g, k * 2, none⟩ (.int .i64 s.1)).setCell ⟨g, k * 2 + 1, none⟩ (.int .i64 s.2)) (some g) := by
  subst hn
  obtain ⟨h1, g1⟩ := World.ownsRow.stored h (k * 2) (.int .i64 s.1)
  obtain ⟨h2, g2⟩ := World.ownsRow.stored h1 (k * 2 + 1) (.int .i64 s.2)
  refine ⟨?_, g1.andThen g2 fun j hj => by cases hj; exact .inr rfl⟩
  unfold So
  rw [← flatS_set l k s hk, List.length_set]
  exact h2
/-- the front of a row -/
theorem So.front {B n c g : Nat} {w : World} {x y : List Sp} (h : So B w (.slice (some ⟨g, 0, none⟩) n c) (x ++ y)) : So B w (.slice (some ⟨g, 0, none⟩) x.length c) x := by
  have hl := flatS_len x
  rcases h.2 with ⟨hv, h0⟩ | ⟨g1, cap, cur, hv, hb, hg, hc, hm, hs, ht⟩
  · cases hv
  · injection hv with h1 h2 h3
    subst h3
    injection h1 with h1
    injection h1 with h1
    subst h1
    rw [List.length_append] at hc ht
    refine ⟨hl, .inr ⟨g, c, cur, rfl, hb, hg, by omega, hm, hs, ?_⟩⟩
    rw [flatS_app] at ht
    have := congrArg (List.take (x.length * 2)) ht
    rw [List.take_take, Nat.min_eq_left (by omega), ← hl, List.take_left] at this
    rw [← hl]; exact this
/-- cells behind the front are written -/
theorem So.out_of {B k c g : Nat} {x : List Sp} : ∀ (vs : List Value) (o : Nat) (w : World), So B w (.slice (some ⟨g, 0, none⟩) k c) x → k * 2 ≤ o → So B (w.setCells g o vs) (.slice (some ⟨g, 0, none⟩) k c) x ∧ w.grownBy (w.setCells g o vs) (some g)
  | [], o, w, h, _ => ⟨h, World.grownBy.refl _ _⟩
  | v :: r, o, w, h, ho => by
    obtain ⟨hn, e, _⟩ := h.cap
    have hown : w.ownsRow B 38 2 (.slice (some ⟨g, 0, none⟩) k c) k (flatS x) := by rw [e]; rw [e] at h; exact h
    obtain ⟨h1, g1⟩ := World.ownsRow.stored hown o v
    rw [List.set_eq_of_length_le (by rw [flatS_len, ← e]; exact ho)] at h1
    have h1' : So B (w.setCell ⟨g, o, none⟩ v) (.slice (some ⟨g, 0, none⟩) k c) x := by unfold So; rw [e] at h1 ⊢; exact h1
    obtain ⟨h2, g2⟩ := So.out_of r (o + 1) _ h1' (by omega)
    exact ⟨h2, g1.andThen g2 fun j hj => by cases hj; exact .inr rfl⟩
theorem run_clear_spans (w : World) (t : TypeId) (ht : Try.prog.underlying t = some (.slice 38)) (b o n c : Nat) (hn : 0 < n)
    (hc : ∀ j, j < n * 2 → (w.cell? ⟨b, o + j, none⟩).isSome = true) (hf : ∀ j, j < n * 2 → w.frozen? ⟨b, o + j, none⟩ = false) :
    ∃ vs, ∀ ty, (Builtin.clear_ #[t] ty #[.slice (some ⟨b, o, none⟩) n c]).run Try.prog w = .ok (.tuple #[]) (w.setCells b o vs) := by
  obtain ⟨i0, hi, hz0, hz1, hz2⟩ := info_parts info_span
  have hv : ∀ w, (zeroValue 38).run Try.prog w = .ok (.agg #[.int .i64 0, .int .i64 0]) w := fun w => by simp [zeroValue, typeInfo, hi, hz0]
  obtain ⟨zs, hz⟩ : ∃ zs, (Builtin.zeroCells (Value.agg #[.int .i64 0, .int .i64 0]).cells n).toList = zs := ⟨_, rfl⟩
  have hl : zs.length = n * 2 := by rw [← hz, Array.length_toList, size_zeroCells]; rfl
  have h1 : ∀ v ∈ zs, v.oneCell' = true := fun v hv' => by
    rw [← hz] at hv'
    simp [Builtin.zeroCells] at hv'
    obtain ⟨i, hi, rfl⟩ := hv'
    have : i % 2 = 0 ∨ i % 2 = 1 := by omega
    rcases this with h | h <;> simp [Value.cells, h] <;> rfl
  have hst := run_storeCells_cells (P := Try.prog) b o zs 0 w (by simpa [hl] using hc) (by simpa [hl] using hf) h1
  simp only [Nat.add_zero] at hst
  obtain ⟨m, rfl⟩ : ∃ m, n = m + 1 := ⟨n - 1, by omega⟩
  exact ⟨zs, fun ty => by simp [Builtin.clear_, run_underlying ht, hv, hz, hst]⟩
theorem So.has {B n c g : Nat} {w : World} {l : List Sp} (h : So B w (.slice (some ⟨g, 0, none⟩) n c) l) (hn : l.length = n) {j : Nat} (hj : j < n * 2) : (w.cell? ⟨g, j, none⟩).isSome = true := by
  have := h.cells hn (k := j / 2) (by omega)
  by_cases e : j % 2 = 0
  · rw [show j = j / 2 * 2 by omega, this.1]; rfl
  · rw [show j = j / 2 * 2 + 1 by omega, this.2]; rfl
end Go.Proofs.Ytfhihkogdnbghaa.spans
