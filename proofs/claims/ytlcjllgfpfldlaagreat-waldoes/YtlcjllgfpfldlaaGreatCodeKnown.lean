/-
 The chapter's example holds: the contract of the statements' own 'known'.
-/
import Derived.Test.YtlcjllgfpfldlaaGreatWalZ28K
open Go.ChangeShapes Go.WideShapes Go.ChangeAt Go.RowKit Go.Deep
set_option linter.unusedVariables false
set_option maxRecDepth 100000
set_option linter.unusedSimpArgs false
namespace Go.Proofs.YtlcjllgfpfldlaaGreat
namespace code

structure BytesAt (w : World) (a : Option Addr) (n c : Nat) (l : List UInt8) : Prop where
 mem : ByIn w a l
 low : l ≠ [] → ∀ p, a = some p → p.block < w.heap.size
 len : l.length = n
 cap : n ≤ c
theorem BytesAt.keep {w w1 : World} {a : Option Addr} {n c : Nat} {l : List UInt8} (h : BytesAt w a n c l) (hb : Below w.heap.size w w1) : BytesAt w1 a n c l := ⟨h.mem.keep hb, fun h0 p hp => Nat.lt_of_lt_of_le (h.low h0 p hp) hb.size, h.len, h.cap⟩
theorem Bs.bytes {B : Nat} {w : World} {v : Value} {l : List UInt8} (h : Bs B w v l) : ∃ a c, v = .slice a l.length c ∧ BytesAt w a l.length c l := by
 rcases h.2 with ⟨h1, h2⟩ | ⟨g, cap, cur, h1, _, hg, hc, _⟩
 ·have : l = [] := List.eq_nil_of_length_eq_zero h2
  subst this
  exact ⟨none, 0, h1, .inl rfl, (fun _ p hp => by cases hp), rfl, by simp⟩
 ·refine ⟨some ⟨g, 0, none⟩, cap, h1, .inr ⟨g, 0, rfl, fun i hi => ?_⟩, fun _ p hp => ?_, rfl, hc⟩
  ·have := World.ownsRow.cells h (g := g) (by rw [h1]; rfl) i (.int .u8 (bth l i)) (by simp [Lib.byteCells, bth, hi])
   rw [show (⟨g, 0, none⟩ : Addr).add i = ⟨g, 0 + i, none⟩ by by_cases e : i = 0 <;> simp [Addr.add, e]] at this
   exact this
  ·injection hp with hp
   subst hp
   exact (Array.getElem?_eq_some_iff.1 hg).1
theorem str_of {w : World} {a : Option Addr} {l : List UInt8} (h : ByIn w a l) (n c : Nat) (hn : l.length = n) : (convert 54 9 (.slice a n c)).run Tryz.prog w = .ok (.string ⟨l.toArray⟩) w := by
 subst hn
 rcases h with rfl | ⟨b, off, rfl, hc⟩
 ·show (convert 54 9 (.slice a 0 c)).run Tryz.prog w = _
  rw [run_convert_bytes_string w 54 9 5 a 0 c Tryz.underlying54 Tryz.underlying5 Tryz.underlying9]
  cases a <;> rfl
 ·refine run_convert_bytes_back (P := Tryz.prog) w 54 9 5 ⟨b, off, none⟩ c l Tryz.underlying54 Tryz.underlying5 Tryz.underlying9 fun j hj => ?_
  rw [show (⟨b, off, none⟩ : Addr).add j = ⟨b, off + j, none⟩ by by_cases e : j = 0 <;> simp [Addr.add, e], hc j hj]
  simp [bth, hj]

def exA : Rc := ⟨3, 5, 0, none, 0, [], none, 0, [], 0, none, 0, [], 0, 0, none, 0, []⟩
theorem exA_in (w : World) : RecIn w exA := ⟨by simp [exA], by simp [exA, U32], by simp [exA, U32], .inl rfl, by simp [exA], by simp [exA], .inl rfl, by simp [exA], by simp [exA, U32], .inl rfl, by simp [exA], by simp [exA, I64], by simp [exA, I64], .inl rfl, by simp [exA]⟩
theorem exA_snd : sndRec (pr exA) = true := by kernel_rfl
theorem exA_B : recB (pr exA) = [3, 0, 0, 0, 5] := by kernel_rfl
end code
end Go.Proofs.YtlcjllgfpfldlaaGreat
