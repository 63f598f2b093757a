/-
  What the statements on frames one behind the other use.
-/
import Derived.Test.YtimijfibfjlkjaaFrameUse
import Derived.Test.YtimijfibfjlkjaaFrameRows
import Derived.Test.YtimijfibfjlkjaaFrameRefScan
namespace Go.Proofs.Ytimijfibfjlkjaa.frame
open Go.ChangeShapes Go.WideShapes Go.ChangeAt Go.RowKit Go.Deep
open Go.Proofs.Ytimijfibfjlkjaa.bytes
set_option linter.unusedVariables false
set_option maxRecDepth 100000
set_option linter.unusedSimpArgs false

theorem mem_wt {ls : List Lr} {y : Lr} (hy : y ∈ ls) : y.l.length + 7 ≤ wt ls := by
  induction ls with
  | nil => cases hy
  | cons z ls ih =>
    have e : wt (z :: ls) = (z.l.length + 7) + wt ls := by simp [wt]
    rw [e]
    rcases List.mem_cons.1 hy with rfl | hy
    · omega
    · have := ih hy; omega
theorem small_of {ls : List Lr} (h : wt ls ≤ 3000) : (∀ x ∈ ls.map (·.l), x.length ≤ 60000) ∧ ls.length ≤ 3000 := by
  constructor
  · intro x hx
    obtain ⟨y, hy, rfl⟩ := List.mem_map.1 hx
    have := mem_wt hy
    omega
  · have : ls.length ≤ wt ls := by
      clear h
      induction ls with
      | nil => simp [wt]
      | cons y ls ih => unfold wt at ih ⊢; rw [List.map_cons, List.sum_cons, List.length_cons]; omega
    omega
theorem scan_whole {ls : List Lr} (h : wt ls ≤ 3000) : scanB (rowsB (ls.map (·.l))) = ls.map (·.l) := by
  have := scan_rows (small_of h).1 []
  rw [List.append_nil] at this
  rw [this]
  show _ ++ scanB [] = _
  rw [show scanB [] = [] from rfl, List.append_nil]
theorem rows_scan_bound (l : List UInt8) : (scanB l).length ≤ l.length := Nat.le_trans (rows_count _) (rows_scan_le l)

theorem same_in {B : Nat} {W : World} {a1 a2 : Option Addr} {n c1 c2 : Nat} {ys zs : List Lr} (h1 : RowOut B W (.slice a1 n c1) ys) (h2 : ListsIn W a2 zs) (e1 : ys.length = n) (e2 : zs.length = n) (hn : n ≤ 1000000000) (h : ys.map (·.l) = zs.map (·.l)) :
    Calls Try.prog 14 #[.slice a1 n c1, .slice a2 n c2] W fun e w' => e = .returned (.bool true) ∧ Below W.heap.size W w' := by
  obtain ⟨a', c', e, hl⟩ := h1.lists
  injection e with e3 e4 e5
  subst e3
  have := lawSame_any n n c1 c2 _ _ ys zs W hl h2 e1 e2 (by omega) (by omega)
  have hd : decide (ys.map (·.l) = zs.map (·.l)) = true := decide_eq_true h
  rwa [hd] at this
theorem same_out {B B2 : Nat} {W : World} {a1 a2 : Option Addr} {n c1 c2 : Nat} {ys zs : List Lr} (h1 : RowOut B W (.slice a1 n c1) ys) (h2 : RowOut B2 W (.slice a2 n c2) zs) (e1 : ys.length = n) (e2 : zs.length = n) (hn : n ≤ 1000000000) (h : ys.map (·.l) = zs.map (·.l)) :
    Calls Try.prog 14 #[.slice a1 n c1, .slice a2 n c2] W fun e w' => e = .returned (.bool true) ∧ Below W.heap.size W w' := by
  obtain ⟨a', c', e, hl⟩ := h2.lists
  injection e with e3 e4 e5
  subst e3
  exact same_in h1 hl e1 e2 hn h
/-- frames that are cut anywhere -/
theorem cut_says {ls : List Lr} (h : wt ls ≤ 3000) (q : Nat) : ∃ m, m ≤ ls.length ∧ scanB ((rowsB (ls.map (·.l))).take q) = (ls.take m).map (·.l) ∧ (rowsB ((ls.take m).map (·.l))).length ≤ q ∧ ((rowsB (ls.map (·.l))).length ≤ q → m = ls.length) := by
  obtain ⟨m, h1, h2, h3, h4⟩ := scan_cut (l := ls.map (·.l)) (small_of h).1 q
  rw [List.length_map] at h1 h4
  rw [← List.map_take] at h2 h3
  exact ⟨m, h1, h2, h3, h4⟩
end Go.Proofs.Ytimijfibfjlkjaa.frame
