/-
  The walk of TableMerges: of whatever rows the call answers true.
-/
import Derived.Test.YtfchpcmiipnbjaaDoorTableMakesWalk
import Derived.Test.YtfchpcmiipnbjaaDoorTableConcat
import Derived.Test.YtfchpcmiipnbjaaDoorTableRefMerge
import Derived.Test.YtfchpcmiipnbjaaDoorTableOpenR
namespace Go.Proofs.YtfchpcmiipnbjaaDoor.table
open Go.ChangeShapes Go.WideShapes Go.ChangeAt Go.RowKit Go.Deep
open Go.Proofs.YtfchpcmiipnbjaaDoor.dims (nth Ints cell_lt cmpL own_below ret_bool)
open Go.Proofs.YtfchpcmiipnbjaaDoor.cell (C4 mrg all one zero In64)
set_option linter.unusedVariables false
set_option maxRecDepth 100000

set_option maxHeartbeats 4000000 in
theorem merges_walk (a1 a2 : Option Addr) (n1 c1 n2 c2 : Nat) (rs qs : List Rw) (w : World) (hp : Pow w) (h1 : RowsIn w a1 rs) (e1 : rs.length = n1 ∧ n1 ≤ c1 ∧ c1 ≤ maxLen) (b1 : ∀ f ∈ rs, f.k.length ≤ 17592186044416) (h2 : RowsIn w a2 qs) (e2 : qs.length = n2 ∧ n2 ≤ c2 ∧ c2 ≤ maxLen) (b2 : ∀ f ∈ qs, f.k.length ≤ 17592186044416) :
    Calls Tryd.prog 5 #[.slice a1 n1 c1, .slice a2 n2 c2] w fun e w' => e = .returned (.bool true) ∧ Below w.heap.size w w' := by
  have hK := known_any w hp
  have hH1 := heavy_any a1 none n1 0 c1 0 rs [] w h1 e1.1 (Nat.le_trans e1.2.1 (Nat.le_trans e1.2.2 maxLen_le2)) (.inl rfl) rfl (by omega) b1 (fun r hr => by simp at hr)
  have hH2 := heavy_any a2 none n2 0 c2 0 qs [] w h2 e2.1 (Nat.le_trans e2.2.1 (Nat.le_trans e2.2.2 maxLen_le2)) (.inl rfl) rfl (by omega) b2 (fun r hr => by simp at hr)
  have HH : Aside (Pow w ∧ RowsIn w a1 rs ∧ rs.length = n1 ∧ RowsIn w a2 qs ∧ qs.length = n2) := ⟨hp, h1, e1.1, h2, e2.1⟩
  clear hp h1 e1 h2 e2 b1 b2
  go_enter Tryd.func5, Tryd.ntmps5
  go_wp2_with fail
  refine hH1.mono ?_
  rintro e w0 ⟨hh, rfl⟩
  clear hH1
  rcases hh with rfl | ⟨rfl, HL⟩
  · go_wp2_with (go_at_call 12; refine hK.mono ?_; rintro e w1 ⟨rfl, hb1⟩)
    go_ret
    exact ⟨rfl, hb1⟩
  have L1 : Aside (Light rs []) := HL
  clear HL
  go_wp2_with fail
  refine hH2.mono ?_
  rintro e w0 ⟨hh, rfl⟩
  clear hH2
  rcases hh with rfl | ⟨rfl, HL⟩
  · go_wp2_with (go_at_call 12; refine hK.mono ?_; rintro e w1 ⟨rfl, hb1⟩)
    go_ret
    exact ⟨rfl, hb1⟩
  have L2 : Aside (Light qs []) := HL
  clear HL
  go_wp2_with (go_at_call 12; refine hK.mono ?_; rintro e w1 ⟨rfl, hb1⟩; refine Hid.out ?_)
  refine Lib.hid ?_
  have B1 : Aside (Below w0.heap.size w0 w1) := hb1
  clear hb1 hK
  have m1 : n1 ≤ 300 := by rw [← HH.out.2.2.1]; exact L1.out.1
  have m2 : n2 ≤ 300 := by rw [← HH.out.2.2.2.2]; exact L2.out.1
  have C1 := merge_any a1 a2 n1 n2 c1 c2 rs qs w1 (HH.out.1.keep B1.out) (HH.out.2.1.keep B1.out) HH.out.2.2.1 (by omega) (HH.out.2.2.2.1.keep B1.out) HH.out.2.2.2.2 (by omega) (fun r hr => by have := L1.out.2.2.1 r hr; omega) (fun r hr => by have := L2.out.2.2.1 r hr; omega)
  go_wp2_with fail
  refine C1.mono ?_
  rintro e w2 ⟨v1, rfl, hT1, hb2⟩
  have B2 : Aside (Below w0.heap.size w0 w2) := B1.out.trans (hb2.mono B1.out.size)
  have T1 : Aside (TabOut w2 v1 (tab (rs.map plain ++ qs.map plain))) := hT1
  clear C1 hT1 hb2 B1
  have C2 := refMerge_any a1 a2 n1 n2 c1 c2 rs qs w2 (HH.out.2.1.keep B2.out) HH.out.2.2.1 (by omega) (HH.out.2.2.2.1.keep B2.out) HH.out.2.2.2.2 (by omega) (fun r hr => by have := L1.out.2.2.1 r hr; omega) (fun r hr => by have := L2.out.2.2.1 r hr; omega)
  go_wp2_with fail
  refine C2.mono ?_
  rintro e w3 ⟨v2, rfl, hT2, hb3⟩
  have B3 : Aside (Below w0.heap.size w0 w3) := B2.out.trans (hb3.mono B2.out.size)
  have C3 := same_tabs (T1.out.keep hb3) hT2
  clear C2 hT2 hb3 B2 T1
  go_wp2_with fail
  refine C3.mono ?_
  rintro e w4 ⟨rfl, hb4⟩
  have B4 : Aside (Below w0.heap.size w0 w4) := B3.out.trans (hb4.mono B3.out.size)
  clear C3 hb4
  go_wp2
  go_ret
  exact ⟨rfl, B4.out⟩
end Go.Proofs.YtfchpcmiipnbjaaDoor.table
