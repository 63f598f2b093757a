/-
  The contracts of the pair's take and whole.
-/
import Derived.Test.YtimijfibfjlkjaaByteKit
import Derived.Test.YtimijfibfjlkjaaSumMath
namespace Go.Proofs.Ytimijfibfjlkjaa.sum
open Go.ChangeShapes Go.WideShapes Go.ChangeAt Go.RowKit Go.Deep
open Go.Proofs.Ytimijfibfjlkjaa.bytes
set_option linter.unusedVariables false
set_option maxRecDepth 100000

/-- the pair's box holds two numbers, and may be written -/
def Has2 (w : World) (b : Nat) (x y : Nat) : Prop :=
  w.cell? ⟨b, 0, none⟩ = some (.int .u32 x) ∧ w.cell? ⟨b, 1, none⟩ = some (.int .u32 y) ∧ w.frozen? ⟨b, 0, none⟩ = false ∧ w.frozen? ⟨b, 1, none⟩ = false

set_option maxHeartbeats 1000000 in
theorem take_any (b : Nat) (x y c : Nat) (w : World) (hb : b < w.heap.size) (h : Has2 w b x y) (hx : x < 65521) (hy : y < 65521) (hc : c < 256) :
    Calls Try.prog 30 #[.pointer (some ⟨b, 0, none⟩), .int .u8 c] w fun e w' => e = .returned (.tuple #[]) ∧ Below b w w' ∧ Has2 w' b ((x + c) % 65521) ((y + (x + c) % 65521) % 65521) := by
  obtain ⟨c0, c1, f0, f1⟩ := h
  obtain ⟨u, hu⟩ : ∃ u, (x + c) % 65521 = u := ⟨_, rfl⟩
  have hu2 : u < 65521 := by omega
  rw [hu]
  obtain ⟨v, hv⟩ : ∃ v, (y + u) % 65521 = v := ⟨_, rfl⟩
  have hv2 : v < 65521 := by omega
  rw [hv]
  have e1 : ((x : Int) + (c : Int)) % 65521 = (u : Int) := by omega
  have e2 : ((y : Int) + (u : Int)) % 65521 = (v : Int) := by omega
  have e3 : IntKind.u32.wrap ((y : Int) + (u : Int)) = (y : Int) + (u : Int) := by rw [IntKind.wrap_u32]; omega
  go_enter Try.func30, Try.ntmps30
  go_wp2
  go_region
  go_wp2
  go_end0
  refine ⟨rfl, ?_, ?_⟩
  · (repeat (first | with_reducible exact Below.refl _ _ | (with_reducible refine Below.drew ?_) | (with_reducible refine Below.alloc ?_ (by first | omega | (simp; done) | (simp; omega)) _) | (with_reducible refine Below.setCell ?_ (by first | exact Nat.le_refl _ | omega | (simp; done) | (simp; omega)) _)))
  · unfold Has2
    simp [go_sem, *]

theorem or_u32 (x y : Nat) (hx : x < 65521) (hy : y < 65521) : bits .or .u32 ((y : Int) * 65536) (x : Int) = ((y * 65536 + x : Nat) : Int) := by
  have h0 := Nat.two_pow_add_eq_or_of_lt (i := 16) (b := x) (by omega) y
  rw [show 2 ^ 16 * y = y * 65536 by omega] at h0
  have h1 : (BitVec.ofInt 32 ((y * 65536 : Nat) : Int)).toNat = y * 65536 := by
    rw [BitVec.ofInt_natCast, BitVec.toNat_ofNat]; exact Nat.mod_eq_of_lt (by omega)
  have h2 : (BitVec.ofInt 32 (x : Int)).toNat = x := by
    rw [BitVec.ofInt_natCast, BitVec.toNat_ofNat]; exact Nat.mod_eq_of_lt (by omega)
  show IntKind.u32.wrap ((BitVec.ofInt 32 ((y * 65536 : Nat) : Int) ||| BitVec.ofInt 32 (x : Int)).toNat : Int) = _
  rw [BitVec.toNat_or, h1, h2, IntKind.wrap_u32, ← h0]
  omega
theorem whole_any (x y : Nat) (w : World) (hx : x < 65521) (hy : y < 65521) :
    Calls Try.prog 31 #[.agg #[.int .u32 x, .int .u32 y]] w fun e w' => e = .returned (.int .u32 (y * 65536 + x : Nat)) ∧ Below w.heap.size w w' := by
  have ho := or_u32 x y hx hy
  go_enter Try.func31, Try.ntmps31
  go_wp2
  go_ret
  exact ⟨ret_u32 (by omega), (Below.refl _ _).alloc (Nat.le_refl _) _⟩
end Go.Proofs.Ytimijfibfjlkjaa.sum
