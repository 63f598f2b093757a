/-
  What the statements' own Make hands out: plain, and its lists.
-/
import Derived.Test.YtlokamblbhooaaaCodeFacts
import Derived.Deep.RegionHeldLaw
namespace Go.Proofs.Ytlokamblbhooaaa.code
open Go.ChangeShapes Go.WideShapes Go.ChangeAt Go.RowKit Go.Deep
open Go.Proofs.Ytlokamblbhooaaa.dims (nth Ints cell_lt vals vals_len vals_get vals_one vals_app own_below own_mono own_out own_apart RowOut ret_bool ret_int)
set_option linter.unusedVariables false
set_option maxRecDepth 100000
set_option linter.unusedSimpArgs false

/-- nodes that rise, below k -/
def NdL (l : List Int) (k : Nat) : Prop := nodesOk l = true ∧ ∀ x ∈ l, 0 ≤ x ∧ x < (k : Int)
theorem NdL.nil : NdL [] 0 := ⟨rfl, by simp⟩
theorem NdL.skip {l : List Int} {k : Nat} (h : NdL l k) : NdL l (k + 1) := ⟨h.1, fun x hx => by have := h.2 x hx; omega⟩
theorem NdL.push {l : List Int} {k : Nat} (h : NdL l k) (hk : k ≤ 5) : NdL (l ++ [(k : Int)]) (k + 1) := by
  refine ⟨(nodesOk_iff _).2 fun i hi => ?_, fun x hx => ?_⟩
  · have h0 := (nodesOk_iff l).1 h.1
    by_cases e : i < l.length
    · have e1 : nth (l ++ [(k : Int)]) i = nth l i := by simp [nth, List.getElem?_append_left e]
      have e2 : nth (l ++ [(k : Int)]) (i - 1) = nth l (i - 1) := by simp [nth, List.getElem?_append_left (show i - 1 < l.length by omega)]
      unfold ndGood
      rw [e1, e2]
      exact h0 i e
    · have ei : i = l.length := by simp at hi; omega
      subst ei
      have e1 : nth (l ++ [(k : Int)]) l.length = (k : Int) := by simp [nth]
      unfold ndGood
      rw [e1]
      refine ⟨by omega, fun hp => ?_⟩
      have e2 : nth (l ++ [(k : Int)]) (l.length - 1) = nth l (l.length - 1) := by simp [nth, List.getElem?_append_left (show l.length - 1 < l.length by omega)]
      rw [e2]
      exact (h.2 _ (nth_mem (by omega))).2
  · rcases List.mem_append.1 hx with hx | hx
    · have := h.2 x hx; omega
    · simp at hx; subst hx; omega
theorem NdL.ok {l : List Int} {k : Nat} (h : NdL l k) (hk : k ≤ 6) : ∀ x ∈ l, I64 x := fun x hx => by have := h.2 x hx; unfold I64; omega
theorem mkF_ok (fs : List Ft) : factsOk ((fs.take 60).map mkF) = true := by
  refine factsOk_iff.2 ⟨fun f hf => ?_, by simp; omega⟩
  obtain ⟨z, -, rfl⟩ := List.mem_map.1 hf
  refine keyOk_iff.2 ⟨fun v hv => ?_, by simp [mkF]; omega⟩
  obtain ⟨u, -, rfl⟩ := List.mem_map.1 hv
  exact mkP_ok u
theorem md_ok {x m : Int} (h : 0 ≤ x ∧ x ≤ 65535) (hm : 0 < m) : 0 ≤ (IntKind.i64.wrap x).tmod m ∧ (IntKind.i64.wrap x).tmod m < m := by
  have e : IntKind.i64.wrap x = x := by rw [IntKind.wrap_i64]; omega
  rw [e, Int.tmod_eq_emod_of_nonneg h.1]
  exact ⟨Int.emod_nonneg _ (by omega), Int.emod_lt_of_pos _ hm⟩
theorem grown_drew (W : World) (row : Option Nat) : W.grownBy W.drew row := ⟨rfl, rfl, rfl, Nat.le_refl _, fun _ _ _ => rfl⟩
theorem grown_row {W0 W w3 : World} {B : Nat} {row : Option Nat} (h : W0.grownBy W (some B)) (k : W.grownBy w3 row) (hr : ∀ q, row = some q → W0.heap.size ≤ q) : W0.grownBy w3 (some B) :=
  ⟨k.os.trans h.os, k.tape.trans h.tape, k.output.trans h.output, Nat.le_trans h.size k.size, fun i hi hne => (k.block i (Nat.lt_of_lt_of_le hi h.size) fun e => by have := hr i e.symm; omega).trans (h.block i hi hne)⟩
theorem grown_any {W W' : World} (hb : Below W.heap.size W W') (row : Option Nat) : W.grownBy W' row := ⟨hb.os, hb.tape, hb.output, hb.size, fun i hi _ => hb.block i hi⟩
theorem FsOwn.mono {B B' : Nat} {W : World} {v : Value} {os : List Ft} (h : FsOwn B W v os) (hB : B' ≤ B) : FsOwn B' W v os := ⟨own_mono h.own hB, fun f hf => ⟨own_mono (h.all f hf).own hB, (h.all f hf).key, (h.all f hf).num⟩⟩
theorem EsOwn.mono {B B' : Nat} {W : World} {v : Value} {es : List Et} (h : EsOwn B W v es) (hB : B' ≤ B) : EsOwn B' W v es := ⟨own_mono h.own hB, fun e he => ⟨(h.all e he).own.mono hB, (h.all e he).num⟩⟩
/-- an entry stays where others are laid -/
theorem EtOwn.step {B b j : Nat} {W W1 w3 : World} {e : Et} {o : Obj} {row : Option Nat} {cs : Array Value} {v : Value} (h : EtOwn B W e) (hb : Below W.heap.size W W1) (hg : (W1.alloc o).grownBy w3 row) (hr : Far (W1.alloc o) row 3) (hr2 : Far (W1.alloc o) row 53) (hx : Boxed w3 b cs 30) : EtOwn B (w3.setCell ⟨b, j, none⟩ v) e :=
  (((h.far (grown_below hb) (far_none _ _) (far_none _ _)).far (World.grownBy_alloc _ _ none) (far_none _ _) (far_none _ _)).far hg hr hr2).far (grown_at _ _ _ _) (hx.far (by decide)) (hx.far (by decide))
theorem entsUp_snoc {l : List PEnt} {x : PEnt} {la : Int} (h : entsUp l = true) (hl : ∀ e ∈ l, e.1 ≤ la) (hx : la < x.1) (hf : factsOk x.2 = true) : entsUp (l ++ [x]) = true := by
  induction l with
  | nil => simp [entsUp, hf]
  | cons y l ih =>
    have h0 := (entsUp_cons y l).1 h
    refine (entsUp_cons y (l ++ [x])).2 ⟨h0.1, fun _ => ?_, ih h0.2.2 fun e he => hl e (by simp [he])⟩
    rcases l with _ | ⟨z, l⟩
    · have := hl y (by simp)
      simp only [List.nil_append, pen_cons_zero]
      omega
    · have := h0.2.1 (by simp)
      simpa [pen] using this
/-- what Make hands out -/
def MkRes (k : Int) (v : Value) (W : World) : Prop := ∃ r, v = rcV r ∧ RecIn W r ∧ sndRec (pr r) = true ∧ r.kind = k
def zeroC : Array Value := #[.int .u8 0, .int .u32 0, .int .u32 0, .slice none 0 0, .slice none 0 0, .int .u32 0, .slice none 0 0, .int .i64 0, .int .i64 0, .slice none 0 0]
end Go.Proofs.Ytlokamblbhooaaa.code
