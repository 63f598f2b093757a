/-
  The contracts of spans.isNode, of spans.follows, and of maps.DeleteFunc of a set of nodes: what is no node goes.
-/
import Derived.Test.YtfhihkogdnbghaaSpanHold
import Derived.Lib.SlMapFilter
import Derived.Maps.Ext
import Derived.Maps.RangeWalk
import Derived.Laws.IdiomRangeMap
import Derived.Deep.LoopGhost
import Derived.Lib.SlKeysI
namespace Go.Proofs.Ytfhihkogdnbghaa.spans
open Go.ChangeShapes Go.WideShapes Go.ChangeAt Go.RowKit Go.Deep Go.Maps
open Go.Proofs.Ytfhihkogdnbghaa.bytes (ret_bool hid nth addr_add cell_lt own_below own_mono)
set_option linter.unusedVariables false
set_option maxRecDepth 100000
set_option linter.unusedSimpArgs false

def isN (x n : Int) : Bool := decide (0 ≤ x) && decide (x < min n 6)
theorem isN_yes {x n : Int} (h : 0 ≤ x ∧ x < min n 6) : isN x n = true := by unfold isN; rw [decide_eq_true h.1, decide_eq_true h.2]; rfl
theorem isN_no {x n : Int} (h : ¬ (0 ≤ x ∧ x < min n 6)) : isN x n = false := by
  unfold isN
  by_cases h0 : 0 ≤ x
  · rw [decide_eq_false (show ¬ x < min n 6 from fun h1 => h ⟨h0, h1⟩)]; simp
  · rw [decide_eq_false h0]; rfl
theorem isNode_any (x n : Int) (w : World) :
    Calls Try.prog 33 #[.int .i64 x, .int .i64 n] w fun e w' => e = .returned (.bool (isN x n)) ∧ w' = w := by
  by_cases h0 : 0 ≤ x
  · by_cases h6 : 6 < n
    · have e1 : min n 6 = 6 := by omega
      by_cases hx : x < 6
      · rw [isN_yes ⟨h0, by omega⟩]
        go_enter Try.func33, Try.ntmps33
        go_wp2
        go_ret
        exact ⟨rfl, rfl⟩
      · rw [isN_no (by omega)]
        go_enter Try.func33, Try.ntmps33
        go_wp2
        go_ret
        exact ⟨rfl, rfl⟩
    · have e1 : min n 6 = n := by omega
      by_cases hx : x < n
      · rw [isN_yes ⟨h0, by omega⟩]
        go_enter Try.func33, Try.ntmps33
        go_wp2
        go_ret
        exact ⟨rfl, rfl⟩
      · rw [isN_no (by omega)]
        go_enter Try.func33, Try.ntmps33
        go_wp2
        go_ret
        exact ⟨rfl, rfl⟩
  · rw [isN_no (by omega)]
    go_enter Try.func33, Try.ntmps33
    go_wp2
    go_ret
    exact ⟨rfl, rfl⟩

theorem nodes1_any (x : Int) (w : World) :
    Calls Try.prog 32 #[.int .i64 x, .agg #[]] w fun e w' => e = .returned (.bool (!isN x 6)) ∧ w.grownBy w' none := by
  have hC := fun W => isNode_any x 6 W
  generalize isN x 6 = b at hC
  have hg := World.grownBy_alloc w (.cells #[] 63) none
  go_enter Try.func32, Try.ntmps32
  go_wp2_with (go_at_call 33; refine (hC _).mono ?_; rintro e w1 ⟨rfl, rfl⟩)
  go_ret
  exact ⟨rfl, hg⟩

/-! ### what is no node goes -/
def pdN (kl : Lit) (_ : DataW Unit) : Bool := match kl with | .int _ x => !isN x 6 | _ => true
theorem mapK : Try.prog.underlying 60 = some (TypeDesc.map 3 63) := Try.underlying60

set_option maxRecDepth 100000 in
set_option maxHeartbeats 4000000 in
theorem del_any (b n : Nat) (D : DataW Unit) (w : World) (hown : w.ownsMap Try.prog 3 (unitElem (H := Unit)) b n D) :
    Calls Try.prog 31 #[.map (some b), .func (.func 32) #[] #[]] w fun e w' => e = .returned (.tuple #[]) ∧ w'.ownsMap Try.prog 3 (unitElem (H := Unit)) b n (Lib.deleteFuncD pdN D) ∧ w.grownBy w' (some b) := by
  obtain ⟨es0, rfl, hap, hkeys⟩ := hown.entries lawI
  have HE : Aside (_ ∧ _) := ⟨hap, hkeys⟩
  go_enter Try.func31, Try.ntmps31
  go_wp2_with (first
    | (at_range; refine wpList_range_own _ rfl _ 60 rfl 3 63 lawI mapK (unitElem (H := Unit)) b n _ rfl hown ?_; intro w0 hrg0 hg0 hs0)
    | go_in)
  go_frame
  go_loopw [8] (fun _ wr => ∃ (left : Lit → Bool) (cnt : Nat), wr.ranges Try.prog 3 (unitElem (H := Unit)) b w.heap.size n (Fk pdN es0 left) left cnt ∧ w.grownBy wr (some b))
    (fun _ wr => wr.rangeLeft b w.heap.size)
  case atStart => exact ⟨_, _, by rw [Fk_start hkeys]; exact hrg0, hg0.but _⟩
  case round =>
    obtain ⟨left, cnt, hrg, hgw⟩ := hrel
    go_wp2_with (first
      | (at_next; refine wpList_next_ranges _ rfl _ rfl 3 lawI (unitElem (H := Unit)) id id (fun key _ _ => ⟨key, rfl⟩) (fun v _ _ => ⟨v, rfl⟩) b w.heap.size n _ _ _ rfl hrg ?_ ?_)
      | go_in)
    · intro _ hl0
      go_wp2
      go_end0
      exact ⟨rfl, by rw [← Fk_end hl0]; exact hrg.owns, hgw⟩
    · intro x c kl yd yp w1 cnt1 hkey hlx hv hat hrg1 hlt hg1 hs1 hen
      have hgw1 := hgw.andThen hg1 (fun j hj => by cases hj; exact Or.inl (Nat.le_refl _))
      have hbl := hrg1.owns.lt
      have hrl := hrg1.lt
      obtain ⟨z, rfl, rfl, hzw⟩ := Maps.keyOf_i64 Try.underlying3 hkey
      obtain ⟨rfl, hy2⟩ := unitElem_inv hv
      have hga := World.grownBy_alloc w1 (.cells #[] 63) none
      have hrgA := hrg1.kept hga (by simp) (by simp)
      have hC := fun W => nodes1_any z W
      unfold encZ
      cases hp : isN z 6 <;> simp only [hp, Bool.not_true, Bool.not_false] at hC
      · -- struck
        go_wp2_with (first
          | (go_at_call 32; refine (hC _).mono ?_; rintro e w2 ⟨rfl, hg2⟩; have hrg2 := hrgA.kept hg2 (by simp) (by simp))
          | (at_delete; refine wpList_delete_ranges _ rfl _ _ 60 3 rfl 63 lawI mapK (unitElem (H := Unit)) b w.heap.size n _ _ _ rfl hrg2 _ _ rfl hkey ?_; intro w3 cnt3 hrg3 hle hturn; go_frame)
          | go_in)
        rw [strike_twice] at hrg3
        go_roundw
        case rel => exact ⟨_, cnt3, by rw [← Fk_struck hap (lawI.key hkey) hlx (show pdN (.int .i64 z) yd = true by simp [pdN, hp]) hat]; exact hrg3, ((hgw1.andThen hga (fun j hj => by cases hj)).andThen hg2 (fun j hj => by cases hj)).andThen hturn.grown (fun j hj => by cases hj; exact Or.inr rfl)⟩
        case measure => rw [hrg3.left_eq, hrg.left_eq]; omega
      · go_wp2_with (first
          | (go_at_call 32; refine (hC _).mono ?_; rintro e w2 ⟨rfl, hg2⟩)
          | go_in)
        have hrg2 := hrgA.kept hg2 (by simp) (by simp)
        go_roundw
        case rel => exact ⟨_, cnt1, by rw [← Fk_stays hap (lawI.key hkey) hlx (show pdN (.int .i64 z) yd = false by simp [pdN, hp]) hat]; exact hrg2, (hgw1.andThen hga (fun j hj => by cases hj)).andThen hg2 (fun j hj => by cases hj)⟩
        case measure => rw [hrg2.left_eq, hrg.left_eq]; exact hlt
end Go.Proofs.Ytfhihkogdnbghaa.spans
