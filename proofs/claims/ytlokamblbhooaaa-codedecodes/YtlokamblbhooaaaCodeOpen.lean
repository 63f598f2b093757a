/-
  Bytes that came in.
-/
import Derived.Test.YtlokamblbhooaaaCodeKnown
import Derived.Test.YtlokamblbhooaaaDimsOpenK
namespace Go.Proofs.Ytlokamblbhooaaa.code
open Go.ChangeShapes Go.WideShapes Go.ChangeAt Go.RowKit Go.Deep
open Go.Proofs.Ytlokamblbhooaaa.dims (nth Ints cell_lt Nums)
set_option linter.unusedVariables false
set_option maxRecDepth 100000

def bytesOf (l : List Int) : List UInt8 := l.map fun x => UInt8.ofNat x.toNat
theorem bytes_of_nums {w : World} {a : Option Addr} {n c : Nat} {l : List Int} (h : Nums .u8 w a n c l) : BytesAt w a n c (bytesOf l) := by
  have hl : (bytesOf l).length = l.length := by simp [bytesOf]
  have hw : ∀ i, i < l.length → bth (bytesOf l) i = nth l i := fun i hi => by
    have h1 := h.wf i hi
    have h2 : 0 ≤ nth l i ∧ nth l i ≤ 255 := by simpa [Lit.wf, IntKind.min, IntKind.max, IntKind.signed, IntKind.bits] using h1
    have e : nth l i = l[i] := by simp [nth, hi]
    simp only [bth, bytesOf, List.getD_eq_getElem?_getD, List.getElem?_map, List.getElem?_eq_getElem hi, Option.map_some, Option.getD_some]
    rw [← e]
    have : (UInt8.ofNat (nth l i).toNat).toNat = (nth l i).toNat := by simp; omega
    rw [this]; omega
  refine ⟨?_, fun h0 p hp => ?_, hl.trans h.eln, h.lec⟩
  · rcases h.mem with h0 | ⟨b, off, ha, hc⟩
    · subst h0; exact .inl rfl
    · exact .inr ⟨b, off, ha, fun i hi => by rw [hl] at hi; rw [hw i hi]; exact hc i hi⟩
  · rcases h.mem with h1 | ⟨b, off, ha, hc⟩
    · subst h1; exact absurd rfl h0
    · rw [ha] at hp
      injection hp with hp
      subst hp
      have : 0 < l.length := by
        rcases l with _ | ⟨x, l⟩
        · exact absurd rfl h0
        · simp
      exact cell_lt (hc 0 this)
end Go.Proofs.Ytlokamblbhooaaa.code
