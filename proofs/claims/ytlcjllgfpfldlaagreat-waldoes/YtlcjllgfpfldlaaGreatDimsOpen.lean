/-
 What the row's reading tells of lists of numbers, of dimensions and of choices that came in.
-/
import Derived.Test.YtlcjllgfpfldlaaGreatDimsRow
import Derived.Deep.Slices
import Derived.Deep.Fields
import Derived.Lib.SmallJoins
import Derived.ChangeOld
open Go.ChangeShapes Go.WideShapes Go.ChangeAt Go.RowKit Go.Deep Go.Joins
set_option linter.unusedVariables false
set_option maxRecDepth 100000
namespace Go.Proofs.YtlcjllgfpfldlaaGreat
namespace dims
structure Nums (k : IntKind) (W : World) (a : Option Addr) (len cap : Nat) (l : List Int) : Prop where
 mem : Smalls k W a l
 eln : l.length = len
 lec : len ≤ cap
 max : cap ≤ maxLen
 wf : ∀ i, i < l.length → (Lit.int k (nth l i)).wf = true

theorem nums_open {H : Type} {enc : TypeId × Value → H} {W : World} {base : Nat} {spare : Nat → Bool} {held : Bool} {fuel : Nat} {t e : TypeId} {k : IntKind} {a : Option Addr} {len cap : Nat} {x : DataW H × List MemPlace}
  (ht : Tryz.prog.underlying t = some (.slice e)) (he : Tryz.prog.underlying e = some (.int k)) (hc : Tryz.prog.cellsOf e = 1)
  (h : DataW.trod enc Tryz.prog W base spare held fuel t [.slice a len cap] = some x) : ∃ l, Nums k W a len cap l := by
 rcases open_ints ht he hc h with ⟨hcs, _⟩ | ⟨y, l, c, zs, hcs, _, hl, hm, hz, _, hcell, hwz⟩
 ·simp at hcs
  obtain ⟨rfl, rfl, rfl⟩ := hcs
  exact ⟨[], ⟨.inl rfl, rfl, nrQ _, Nat.zero_le _, fun i hi => by simp at hi⟩⟩
 ·simp at hcs
  obtain ⟨rfl, rfl, rfl⟩ := hcs
  have hzl : len ≤ zs.length := by rw [hz]; split <;> omega
  have hlen : (zs.take len).length = len := by simp; omega
  refine ⟨zs.take len, ⟨?_, hlen, hl, hm, fun i hi => hwz _ (by
   have hi2 : i < zs.length := by omega
   have hi3 : i < len := by omega
   have e : nth (zs.take len) i = zs[i] := by simp [nth, hi2, hi3]
   rw [e]; exact List.getElem_mem _)⟩⟩
  by_cases h0 : len = 0
  ·subst h0; exact .inl (by simp)
  ·obtain ⟨b, off, spot⟩ := y
   have hc := hcell 0 (by omega)
   have hspot : spot = none := by simpa [Addr.add] using World.cell?_spot hc
   subst hspot
   refine .inr ⟨b, off, rfl, fun i hi => ?_⟩
   have hi2 : i < len := by omega
   have := hcell i (by omega)
   rw [show (⟨b, off, none⟩ : Addr).add i = ⟨b, off + i, none⟩ by by_cases e : i = 0 <;> simp [Addr.add, e]] at this
   rw [this]
   simp [nth, hi2]

theorem addr_add (b off i : Nat) : (⟨b, off, none⟩ : Addr).add i = ⟨b, off + i, none⟩ := by by_cases e : i = 0 <;> simp [Addr.add, e]

theorem Nums.ints {W : World} {a : Option Addr} {len cap : Nat} {l : List Int} (h : Nums .i64 W a len cap l) : Ints W a l := h.mem
end dims
end Go.Proofs.YtlcjllgfpfldlaaGreat
