/-
  The walk of the statement CellAll.
-/
import Derived.Test.YtjkdmdadfiakgaaCellRow
namespace Go.Proofs.Ytjkdmdadfiakgaa.cell
open Go.ChangeShapes Go.WideShapes Go.ChangeAt Go.RowKit
set_option linter.unusedVariables false

set_option maxHeartbeats 1000000 in
theorem all_walk (a : Option Addr) (len cap : Nat) (zs : List Int) (w : World) (h : IsRow w a len cap zs) :
    Calls Try.prog 6 #[.slice a len cap] w fun e w' => e = .returned (.bool true) ∧ Below w.heap.size w w' := by
  obtain ⟨hi, hlen, hmax, hin⟩ := h.ints
  unfold maxLen at hmax
  have HI := hi
  by_cases hbig : 1000 < len
  · have hbig2 : (1000 : Int) < (len : Int) := by omega
    clear hi HI hlen hin h hmax
    go_enter Try.func6, Try.ntmps6
    go_wp2_with (go_at_call 12; refine (known_any _).mono ?_; rintro e w1 ⟨rfl, hb1⟩)
    go_ret
    exact ⟨rfl, hb1⟩
  · have hbig2 : ¬ (1000 : Int) < (len : Int) := by omega
    have hs : sound (all (zs.take len)) = true := sound_all _ hin (by omega)
    have HI : Hid (Ints w a (zs.take len) ∧ (zs.take len).length = len ∧ sound (all (zs.take len)) = true) := ⟨hi, hlen, hs⟩
    clear hi hlen hin h hs
    go_enter Try.func6, Try.ntmps6
    go_wp2_with fail
    refine (known_any _).mono ?_
    rintro e w1 ⟨rfl, hb1⟩
    go_wp2_with fail
    refine (all_any a len cap (zs.take len) _ (HI.out.1.keep hb1) HI.out.2.1 (by omega)).mono ?_
    rintro e w2 ⟨rfl, hb2⟩
    have hb2' : Below w.heap.size w w2 := hb1.trans (hb2.mono hb1.size)
    go_wp2_with fail
    refine (refAll_any a len cap (zs.take len) _ (HI.out.1.keep hb2') HI.out.2.1 (by omega)).mono ?_
    rintro e w3 ⟨rfl, hb3⟩
    have hb3' : Below w.heap.size w w3 := hb2'.trans (hb3.mono hb2'.size)
    go_wp2_with fail
    refine (all_any a len cap (zs.take len) _ (HI.out.1.keep hb3') HI.out.2.1 (by omega)).mono ?_
    rintro e w4 ⟨rfl, hb4⟩
    have hb4' : Below w.heap.size w w4 := hb3'.trans (hb4.mono hb3'.size)
    go_wp2_with fail
    have hS := sound_any (all (zs.take len)) w4
    rw [HI.out.2.2] at hS
    refine hS.mono ?_
    rintro e w5 ⟨rfl, hb5⟩
    have hb5' : Below w.heap.size w w5 := hb4'.trans (hb5.mono hb4'.size)
    clear hS
    go_wp2
    go_ret
    exact ⟨rfl, hb5'⟩
end Go.Proofs.Ytjkdmdadfiakgaa.cell
