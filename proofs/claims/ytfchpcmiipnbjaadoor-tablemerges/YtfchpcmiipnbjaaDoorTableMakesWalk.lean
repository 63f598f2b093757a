/-
  The walk of TableMakes: of whatever facts the call answers true.
-/
import Derived.Test.YtfchpcmiipnbjaaDoorTableKnown
import Derived.Test.YtfchpcmiipnbjaaDoorTableRefMake
import Derived.Test.YtfchpcmiipnbjaaDoorTableHeavy
import Derived.Test.YtfchpcmiipnbjaaDoorTableOpen
namespace Go.Proofs.YtfchpcmiipnbjaaDoor.table
open Go.ChangeShapes Go.WideShapes Go.ChangeAt Go.RowKit Go.Deep
open Go.Proofs.YtfchpcmiipnbjaaDoor.dims (nth Ints cell_lt cmpL own_below ret_bool)
open Go.Proofs.YtfchpcmiipnbjaaDoor.cell (C4 mrg all one zero In64)
set_option linter.unusedVariables false
set_option maxRecDepth 100000

theorem same_tabs {W : World} {v1 v2 : Value} {t : List PRow} (h1 : TabOut W v1 t) (h2 : TabOut W v2 t) :
    Calls Tryd.prog 18 #[v1, v2] W fun e w' => e = .returned (.bool true) ∧ Below W.heap.size W w' := by
  obtain ⟨a1, c1, rs, rfl, hR1, e1, hc1, hm1⟩ := h1
  obtain ⟨a2, c2, qs, rfl, hR2, e2, hc2, hm2⟩ := h2
  have hl : qs.length = rs.length := by
    have := congrArg List.length (e1.trans e2.symm)
    simpa using this.symm
  rw [hl]
  exact refSame_any a1 a2 rs.length c1 c2 rs qs W hR1 hR2 (e1.trans e2.symm) rfl (Nat.le_trans hc1 hm1)

set_option maxHeartbeats 4000000 in
theorem makes_walk (a : Option Addr) (n cap : Nat) (fs : List Ft) (w : World) (hp : Pow w) (hF : FactsIn w a fs) (hn : fs.length = n ∧ n ≤ cap ∧ cap ≤ maxLen) (hb : ∀ f ∈ fs, f.k.length ≤ 17592186044416) :
    Calls Tryd.prog 4 #[.slice a n cap] w fun e w' => e = .returned (.bool true) ∧ Below w.heap.size w w' := by
  have hK := known_any w hp
  have hH := heavy_any none a 0 n 0 cap [] fs w (.inl rfl) rfl (by omega) hF hn.1 (Nat.le_trans hn.2.1 (Nat.le_trans hn.2.2 maxLen_le2)) (fun r hr => by simp at hr) hb
  have HH : Aside (Pow w ∧ FactsIn w a fs ∧ fs.length = n) := ⟨hp, hF, hn.1⟩
  clear hp hF hn hb
  go_enter Tryd.func4, Tryd.ntmps4
  go_wp2_with fail
  refine hH.mono ?_
  rintro e w0 ⟨hh, rfl⟩
  clear hH
  rcases hh with rfl | ⟨rfl, HL⟩
  · go_wp2_with (go_at_call 12; refine hK.mono ?_; rintro e w1 ⟨rfl, hb1⟩)
    go_ret
    exact ⟨rfl, hb1⟩
  have HLi : Aside (Light [] fs) := HL
  clear HL
  go_wp2_with (go_at_call 12; refine hK.mono ?_; rintro e w1 ⟨rfl, hb1⟩; refine Hid.out ?_)
  refine Lib.hid ?_
  have B1 : Aside (Below w0.heap.size w0 w1) := hb1
  clear hb1 hK
  have hln : n ≤ 300 := by rw [← HH.out.2.2]; exact HLi.out.2.1
  have C1 := make_any a n cap fs w1 (HH.out.1.keep B1.out) (HH.out.2.1.keep B1.out) HH.out.2.2 (by omega) (fun f hf => by have := HLi.out.2.2.2 f hf; omega)
  go_wp2_with fail
  refine C1.mono ?_
  rintro e w2 ⟨v1, rfl, hT1, hb2⟩
  have B2 : Aside (Below w0.heap.size w0 w2) := B1.out.trans (hb2.mono B1.out.size)
  have T1 : Aside (TabOut w2 v1 (tab (rowsOf (fs.map pf)))) := hT1
  clear C1 hT1 hb2 B1
  have C2 := refMake_any a n cap fs w2 (HH.out.2.1.keep B2.out) HH.out.2.2 (by omega) (fun f hf => by have := HLi.out.2.2.2 f hf; omega)
  go_wp2_with fail
  refine C2.mono ?_
  rintro e w3 ⟨v2, rfl, hT2, hb3⟩
  have B3 : Aside (Below w0.heap.size w0 w3) := B2.out.trans (hb3.mono B2.out.size)
  have C3 := same_tabs (T1.out.keep hb3) hT2
  clear C2 hT2 hb3 B2 T1
  go_wp2_with fail
  refine C3.mono ?_
  rintro e w4 ⟨rfl, hb4⟩
  have B4 : Aside (Below w0.heap.size w0 w4) := B3.out.trans (hb4.mono B3.out.size)
  clear C3 hb4
  go_wp2
  go_ret
  exact ⟨rfl, B4.out⟩
end Go.Proofs.YtfchpcmiipnbjaaDoor.table
