/-
  What the statements' own Make hands out: plain, and its lists.
-/
import Derived.Test.YtlokamblbhooaaaCodeFacts
namespace Go.Proofs.Ytlokamblbhooaaa.code
open Go.ChangeShapes Go.WideShapes Go.ChangeAt Go.RowKit Go.Deep
open Go.Proofs.Ytlokamblbhooaaa.dims (nth Ints cell_lt vals vals_len vals_get vals_one vals_app own_below own_mono own_out own_apart RowOut ret_bool ret_int)
set_option linter.unusedVariables false
set_option maxRecDepth 100000
set_option linter.unusedSimpArgs false

/-- nodes that rise, below k -/
def NdL (l : List Int) (k : Nat) : Prop := nodesOk l = true ∧ ∀ x ∈ l, 0 ≤ x ∧ x < (k : Int)
theorem NdL.nil : NdL [] 0 := ⟨rfl, by simp⟩
theorem NdL.skip {l : List Int} {k : Nat} (h : NdL l k) : NdL l (k + 1) := ⟨h.1, fun x hx => by have := h.2 x hx; omega⟩
theorem NdL.push {l : List Int} {k : Nat} (h : NdL l k) (hk : k ≤ 5) : NdL (l ++ [(k : Int)]) (k + 1) := by
  refine ⟨(nodesOk_iff _).2 fun i hi => ?_, fun x hx => ?_⟩
  · have h0 := (nodesOk_iff l).1 h.1
    by_cases e : i < l.length
    · have e1 : nth (l ++ [(k : Int)]) i = nth l i := by simp [nth, List.getElem?_append_left e]
      have e2 : nth (l ++ [(k : Int)]) (i - 1) = nth l (i - 1) := by simp [nth, List.getElem?_append_left (show i - 1 < l.length by omega)]
      unfold ndGood
      rw [e1, e2]
      exact h0 i e
    · have ei : i = l.length := by simp at hi; omega
      subst ei
      have e1 : nth (l ++ [(k : Int)]) l.length = (k : Int) := by simp [nth]
      unfold ndGood
      rw [e1]
      refine ⟨by omega, fun hp => ?_⟩
      have e2 : nth (l ++ [(k : Int)]) (l.length - 1) = nth l (l.length - 1) := by simp [nth, List.getElem?_append_left (show l.length - 1 < l.length by omega)]
      rw [e2]
      exact (h.2 _ (nth_mem (by omega))).2
  · rcases List.mem_append.1 hx with hx | hx
    · have := h.2 x hx; omega
    · simp at hx; subst hx; omega
theorem NdL.ok {l : List Int} {k : Nat} (h : NdL l k) (hk : k ≤ 6) : ∀ x ∈ l, I64 x := fun x hx => by have := h.2 x hx; unfold I64; omega
theorem mkF_ok (fs : List Ft) : factsOk ((fs.take 60).map mkF) = true := by
  refine factsOk_iff.2 ⟨fun f hf => ?_, by simp; omega⟩
  obtain ⟨z, -, rfl⟩ := List.mem_map.1 hf
  refine keyOk_iff.2 ⟨fun v hv => ?_, by simp [mkF]; omega⟩
  obtain ⟨u, -, rfl⟩ := List.mem_map.1 hv
  exact mkP_ok u
/-- what Make hands out -/
def MkRes (k : Int) (v : Value) (W : World) : Prop := ∃ r, v = rcV r ∧ RecIn W r ∧ sndRec (pr r) = true ∧ r.kind = k
def zeroC : Array Value := #[.int .u8 0, .int .u32 0, .int .u32 0, .slice none 0 0, .slice none 0 0, .int .u32 0, .slice none 0 0, .int .i64 0, .int .i64 0, .slice none 0 0]
end Go.Proofs.Ytlokamblbhooaaa.code
