/-
  Contracts of package cell's leaves (Of, held.empty, held.ordered) and of the chapter's own Of.
-/
import Derived.Test.YthdknjndcahhoaaDoorRows
import Derived.WalkKit
import Derived.ProofKit
import Derived.OpenShut
import Derived.Below
import Derived.Outline
import Derived.WalkSpells
import Derived.WalkLawsBesides
import Derived.RegionTactic
import Derived.BigRegion
namespace Go.Proofs.YthdknjndcahhoaaDoor.cell
open Go.ChangeShapes Go.WideShapes Go.ChangeAt Go.RowKit
set_option linter.unusedVariables false
set_option maxRecDepth 100000

theorem of_any (v : Int) (w : World) :
    Calls Tryd.prog 28 #[.int .i64 v] w fun e w' => e = .returned (.agg #[.int .i64 1, .int .i64 v, .int .i64 v, .int .i64 v]) ∧ w' = w.alloc (.cells #[.int .i64 1, .int .i64 v, .int .i64 v, .int .i64 v] 55) := by
  go_enter Tryd.func28, Tryd.ntmps28
  go_wp2
  exact bodyPost_ret (v := .agg #[.int .i64 1, .int .i64 v, .int .i64 v, .int .i64 v]) (by simp [results, Tryd.results28, go_sem]) rfl ⟨rfl, rfl⟩

theorem refOf_any (v : Int) (w : World) :
    Calls Tryd.prog 35 #[.int .i64 v] w fun e w' => e = .returned (.agg #[.int .i64 1, .int .i64 v, .int .i64 v, .int .i64 v]) ∧ w' = w.alloc (.cells #[.int .i64 1, .int .i64 v, .int .i64 v, .int .i64 v] 55) := by
  go_enter Tryd.func35, Tryd.ntmps35
  go_wp2
  exact bodyPost_ret (v := .agg #[.int .i64 1, .int .i64 v, .int .i64 v, .int .i64 v]) (by simp [results, Tryd.results35, go_sem]) rfl ⟨rfl, rfl⟩

theorem empty_any (n s a b : Int) (w : World) :
    Calls Tryd.prog 72 #[.agg #[.int .i64 n, .int .i64 s, .int .i64 a, .int .i64 b]] w fun e w' => e = .returned (.bool (n == 0)) ∧ w' = w.alloc (.cells #[.int .i64 n, .int .i64 s, .int .i64 a, .int .i64 b] 91) := by
  go_enter Tryd.func72, Tryd.ntmps72
  go_wp2
  go_ret
  exact ⟨rfl, rfl⟩

theorem ordered_any (n s a b : Int) (w : World) :
    Calls Tryd.prog 67 #[.agg #[.int .i64 n, .int .i64 s, .int .i64 a, .int .i64 b]] w fun e w' => e = .returned (.bool (decide (a ≤ b))) ∧ w' = w.alloc (.cells #[.int .i64 n, .int .i64 s, .int .i64 a, .int .i64 b] 91) := by
  go_enter Tryd.func67, Tryd.ntmps67
  go_wp2
  go_ret
  exact ⟨rfl, rfl⟩
end Go.Proofs.YthdknjndcahhoaaDoor.cell
