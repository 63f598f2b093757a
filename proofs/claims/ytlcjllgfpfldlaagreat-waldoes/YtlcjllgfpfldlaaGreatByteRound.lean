/-
 A region within a round of a range over a function is walked as it is anywhere, if nothing in it is deferred.
-/
import Derived.RangeFuncCalls
import Derived.TacticsIn
import Derived.OrdersIn
import Derived.RegionTactic
import Derived.Test.YtlcjllgfpfldlaaGreatRows
open Go.RowKit
set_option linter.unusedVariables false
set_option maxRecDepth 100000
namespace Go.Proofs.YtlcjllgfpfldlaaGreat
namespace bytes
variable {P : Program} {ops : Array Oper} {Q : Exit → Act → World → Prop}
def noDefer (ops : Array Oper) : Bool := ops.toList.all fun o => match o.op with
 | .defer _ => false
 | _ => true
theorem operIn_of_oper {l n : Nat} {o : Oper} {a : Act} {w : World} {next : Act → World → Prop} (hd : ∀ c, o.op ≠ .defer c) (h : o.wp P a w next Q) : o.wpIn (Fence.wide.inRound l) n P a w next Q := by
 refine ⟨fun _ _ => trivial, ?_⟩
 rw [show (Fence.wide.inRound l).round = some l from rfl, Oper.semAt_some l _ o hd]
 unfold Oper.wp at h
 generalize (execOp a.eval o).run P w = r at *
 have hn : (Fence.wide.inRound l).depth.isSome = true → 1 ≤ n := fun h => by simp [Fence.wide] at h
 cases r with
 | ok x w' =>
  cases x with
  | enter f args => exact ⟨hn, (CallsIn.inRound l ((callsIn_wide (n := n - 1)).2 h)).mono fun e w'' he => by cases e <;> exact he⟩
  | row row args => exact ⟨hn, fun c cs _ => by obtain ⟨v, w2, r, s⟩ := h c cs; exact ⟨v, w2, r, stepsIn_wide.2 s⟩⟩
  | _ => first | exact h | exact h.elim
 | halt x w' =>
  cases x with
  | panic v => exact h
  | _ => exact h.elim
theorem anyIn_of_any {l n : Nat} {md : Region.Mode} (hd : noDefer ops = true) (hQ : ∀ a w, ¬ Q .outgrown a w) : ∀ (fuel : Nat) (listed : Array Bool) (a : Act) (w : World), wpAny P md ops Q fuel listed a w → wpAnyIn (Fence.wide.inRound l) n P md ops Q fuel listed a w
 | 0, _, _, _, h => h
 | fuel + 1, listed, a, w, h => ⟨h.1, fun i hi => by
   have h2 := h.2 i hi
   unfold wpOp at h2
   unfold wpOpIn
   split
   ·rename_i h0
    simp only [h0] at h2
    exact anyIn_of_any hd hQ fuel _ a w h2
   ·rename_i o ho
    simp only [ho] at h2
    split
    ·rename_i hw
     simp only [hw, if_true] at h2
     rcases h2 with h2 | ⟨_, a0, w0, hl⟩
     ·have hdo : ∀ c, o.op ≠ .defer c := fun c e => by
       have hm : o ∈ ops.toList := by
        have := Array.mem_of_getElem? ho
        exact this.val
       have := List.all_eq_true.1 hd o hm
       rw [e] at this
       cases this
      exact Oper.wpIn_mono (fun a' w' h' => anyIn_of_any hd hQ fuel _ a' w' h') (operIn_of_oper hdo h2)
     ·exact absurd hl (hQ a0 w0)
    ·rename_i hw
     simp only [hw] at h2
     exact ⟨fun _ _ => trivial, anyIn_of_any hd hQ fuel _ _ w h2⟩⟩
theorem wpIn_round {l n id : Nat} {a : Act} {w : World} (hm : P.follows .mixedOrders = true) (hd : noDefer ops = true) (hQ : ∀ a w, ¬ Q .outgrown a w)
  (h : wpAny P .any ops Q ops.size (Array.replicate ops.size false) a w.drew) : (Code.region id ops true).wpIn (Fence.wide.inRound l) n P Q a w :=
 wpIn_region_any hm (anyIn_of_any hd hQ _ _ _ _ h)
end bytes
end Go.Proofs.YtlcjllgfpfldlaaGreat
