/-
  One disk, and rows of bytes of the call's own beside it.
-/
import Derived.Test.YtpaekckahapngaaDiskCrash
namespace Go.Proofs.Ytpaekckahapngaa.disk
open Go.ChangeShapes Go.WideShapes Go.ChangeAt Go.RowKit Go.Deep
open Go.Proofs.Ytpaekckahapngaa.bytes
set_option linter.unusedVariables false
set_option maxRecDepth 100000
set_option linter.unusedSimpArgs false

theorem Gd.bs1 {B k : Nat} {w w' : World} {v v' u : Value} {l : List UInt8} (g : Gd k w v w' v') (ho : Bs B w u l) (hk : some k ≠ u.ownBlock) (ap : ∀ q, v.ownBlock = some q → u.ownBlock ≠ some q) : Bs B w' u l := by
  refine ⟨ho.1, ?_⟩
  rcases ho.2 with h0 | ⟨q, cap, cur, hv, a, hb, r⟩
  · exact .inl h0
  · have hq : u.ownBlock = some q := by rw [hv]; rfl
    refine .inr ⟨q, cap, cur, hv, a, ?_, r⟩
    rw [g.same q (Array.getElem?_eq_some_iff.1 hb).1 (fun e => hk (by rw [hq, e])) (fun e => ap q e.symm hq)]; exact hb
theorem Gd.far1 {k : Nat} {w w' : World} {v v' u : Value} {B : Nat} {l : List UInt8} (g : Gd k w v w' v') (ho : Bs B w u l) (ap : ∀ q, v.ownBlock = some q → u.ownBlock ≠ some q) : ∀ q, v'.ownBlock = some q → u.ownBlock ≠ some q := fun q hq hu => by
  rcases g.row q hq with h1 | h1
  · exact ap q h1 hu
  · have := (ho.lt q hu).2; omega

/-- a disk, and rows of the call's own that are none of it -/
def OneF (B : Nat) (w : World) (k : Nat) (d : Dk) (us : List (Value × List UInt8)) : Prop :=
  ∃ v, DkIn 52 B w k v d ∧ ∀ u ∈ us, Bs B w u.1 u.2 ∧ ∀ q, v.ownBlock = some q → u.1.ownBlock ≠ some q
section
variable {B k : Nat} {w : World} {d d' : Dk} {us : List (Value × List UInt8)}
theorem OneF.keep {w' : World} (h : OneF B w k d us) (hb : Below w.heap.size w w') : OneF B w' k d us := by
  obtain ⟨v, h1, hu⟩ := h
  exact ⟨v, h1.keep hb, fun u hm => ⟨(hu u hm).1.keep hb, (hu u hm).2⟩⟩
theorem OneF.base (h : OneF B w k d us) : B ≤ w.heap.size := by
  obtain ⟨v, h1, hu⟩ := h
  exact h1.base
theorem OneF.len (h : OneF B w k d us) : d.b.length ≤ 1048576 := by
  obtain ⟨v, h1, hu⟩ := h
  exact h1.len_max
theorem OneF.fit (h : OneF B w k d us) : Fit d := by
  obtain ⟨v, h1, hu⟩ := h
  exact h1.fit
theorem OneF.less {vs : List (Value × List UInt8)} (h : OneF B w k d us) (hs : ∀ u ∈ vs, u ∈ us) : OneF B w k d vs := by
  obtain ⟨v, h1, hu⟩ := h
  exact ⟨v, h1, fun u hm => hu u (hs u hm)⟩
theorem OneF.row {u : Value} {l : List UInt8} (h : OneF B w k d us) (hm : (u, l) ∈ us) : Bs B w u l := by
  obtain ⟨v, h1, hu⟩ := h
  exact (hu _ hm).1
/-- a new row -/
theorem OneF.more {w' : World} {u : Value} {l : List UInt8} (h : OneF B w k d us) (hb : Below w.heap.size w w') (ho : Bs w.heap.size w' u l) : OneF B w' k d ((u, l) :: us) := by
  obtain ⟨v, h1, hu⟩ := h
  refine ⟨v, h1.keep hb, fun x hm => ?_⟩
  rcases List.mem_cons.1 hm with rfl | hm
  · refine ⟨own_mono ho h1.base, fun q hq hq2 => ?_⟩
    have := (h1.own.lt q hq).2
    have := (ho.lt q hq2).1
    omega
  · exact ⟨(hu x hm).1.keep hb, (hu x hm).2⟩
/-- the one row beside the disk grows, or is written -/
theorem OneF.grow {w' : World} {u u' : Value} {l l' : List UInt8} (h : OneF B w k d [(u, l)]) (g : Gr w u w' u') (ho : Bs B w' u' l') : OneF B w' k d [(u', l')] ∧ Below B w w' := by
  obtain ⟨v, h1, hu⟩ := h
  obtain ⟨hu1, ap⟩ := hu (u, l) (by simp)
  have hk : some k ≠ u.ownBlock := box_row h1.box tk1 hu1
  refine ⟨⟨v, ⟨(g.grown.block k h1.lt hk).trans h1.box, h1.low, own_grown h1.own g.grown fun q hq e => ap q hq e, h1.fit⟩, fun x hm => ?_⟩, g.below hu1 h1.base⟩
  obtain rfl : x = (u', l') := by simpa using hm
  refine ⟨ho, fun q hq hq2 => ?_⟩
  rcases g.row q hq2 with h3 | h3
  · exact ap q hq h3
  · have := (h1.own.lt q hq).2; omega
theorem one_op {x : Ending} {F : FuncId} {args : Array Value} (h : OneF B w k d us) (hop : ∀ v, DkIn 52 B w k v d → Calls Try.prog F args w fun e w' => e = x ∧ ∃ v', DkIn 52 B w' k v' d' ∧ Gd k w v w' v') :
    Calls Try.prog F args w fun e w' => e = x ∧ OneF B w' k d' us ∧ Below B w w' := by
  obtain ⟨v, h1, hu⟩ := h
  refine (hop v h1).mono ?_
  rintro e w' ⟨he, v', h3, g⟩
  exact ⟨he, ⟨v', h3, fun u hm => ⟨g.bs1 (hu u hm).1 (box_row h1.box tk1 (hu u hm).1) (hu u hm).2, g.far1 (hu u hm).1 (hu u hm).2⟩⟩, h1.below g⟩
theorem sync1 (h : OneF B w k d us) : Calls Try.prog 19 #[.pointer (some ⟨k, 0, none⟩)] w fun e w' => e = .returned (.int .u16 ((sync d).2 : Nat)) ∧ OneF B w' k (sync d).1 us ∧ Below B w w' := one_op h fun v hv => sync_any B k v d w hv
theorem cut1 (h : OneF B w k d us) (n : Int) : Calls Try.prog 21 #[.pointer (some ⟨k, 0, none⟩), .int .i64 n] w fun e w' => e = .returned (.int .u16 ((cut n d).2 : Nat)) ∧ OneF B w' k (cut n d).1 us ∧ Below B w w' := one_op h fun v hv => cut_any B k n v d w hv
theorem app1 (h : OneF B w k d us) {a : Option Addr} {n c : Nat} {y : List UInt8} (hS : Sl w a n c y) : Calls Try.prog 12 #[.pointer (some ⟨k, 0, none⟩), .slice a n c] w fun e w' => e = .returned (.int .u16 ((app y d).2 : Nat)) ∧ OneF B w' k (app y d).1 us ∧ Below B w w' := one_op h fun v hv => append_any B k n c a y v d w hv hS
theorem crash1 (h : OneF B w k d us) (n : Int) : Calls Try.prog 20 #[.pointer (some ⟨k, 0, none⟩), .int .i64 n] w fun e w' => e = .returned (.tuple #[]) ∧ OneF B w' k (crash n d) us ∧ Below B w w' := one_op h fun v hv => crash_any B k n v d w hv
theorem halt1 (h : OneF B w k d us) (n : Int) (hn : n ≤ 9223372036854775807) : Calls Try.prog 10 #[.pointer (some ⟨k, 0, none⟩), .int .i64 n] w fun e w' => e = .returned (.tuple #[]) ∧ OneF B w' k (halt n d) us ∧ Below B w w' := one_op h fun v hv => (halt_any B k n v d w hv hn).mono fun e w' ⟨h1, h2⟩ => ⟨h1, v, h2⟩
theorem halted1 (h : OneF B w k d us) : Calls Try.prog 11 #[.pointer (some ⟨k, 0, none⟩)] w fun e w' => e = .returned (.bool (decide (d.left = 0))) ∧ w' = w := by
  obtain ⟨v, h1, hu⟩ := h
  exact halted_any B k v d w h1
theorem read1 (h : OneF B w k d us) : Calls Try.prog 14 #[.pointer (some ⟨k, 0, none⟩)] w fun e w' => ∃ a c, e = .returned (.slice a d.b.length c) ∧ OneF B w' k d ((.slice a d.b.length c, d.b) :: us) ∧ Below w.heap.size w w' ∧ Sl w' a d.b.length c d.b := by
  have h2 := h
  obtain ⟨v, h1, hu⟩ := h
  have hl := h2.len
  refine (read_any B k v d w h1).mono ?_
  rintro e w' ⟨v', rfl, ho, hb⟩
  obtain ⟨a, c, rfl, hS⟩ := ho.sl (by omega)
  exact ⟨a, c, rfl, h2.more hb ho, hb, hS⟩
theorem new1 (m : Nat) (h : m ≤ 1048576) (hB : B ≤ w.heap.size) : Calls Try.prog 9 #[.int .i64 (m : Nat)] w fun e w' => e = .returned (.pointer (some ⟨w.heap.size, 0, none⟩)) ∧ OneF B w' w.heap.size (new m) [] ∧ Below w.heap.size w w' :=
  (new_any B m w h hB).mono fun e w' ⟨h1, h2, h3⟩ => ⟨h1, ⟨_, h2, fun u hu => by simp at hu⟩, h3⟩
end
/-- bytes that are written out -/
theorem sl_lit (w : World) (l : List UInt8) (hm : l.length ≤ 9223372036854775807) : Sl (w.alloc (.cells (Lib.byteCells l).toArray 5)) (some ⟨w.heap.size, 0, none⟩) l.length l.length l := by
  refine ⟨⟨.inr ⟨w.heap.size, 0, rfl, fun i hi => ?_⟩, fun _ p hp => by injection hp with hp; subst hp; simp, rfl, Nat.le_refl _⟩, hm⟩
  rw [Nat.zero_add]
  refine cell_marked w _ _ (0, 0) ?_
  simp [Lib.byteCells, bth, hi]
end Go.Proofs.Ytpaekckahapngaa.disk
