/-
  The contract of Crash.
-/
import Derived.Test.YtpaekckahapngaaDiskCrashA
import Derived.Test.YtpaekckahapngaaDiskCrashB
import Derived.Test.YtpaekckahapngaaDiskCrashC
namespace Go.Proofs.Ytpaekckahapngaa.disk
open Go.ChangeShapes Go.WideShapes Go.ChangeAt Go.RowKit Go.Deep
open Go.Proofs.Ytpaekckahapngaa.bytes Go.Shelf
set_option linter.unusedVariables false
set_option maxRecDepth 100000
set_option linter.unusedSimpArgs false

/-! ### Crash -/
set_option maxRecDepth 100000 in
set_option maxHeartbeats 400000 in
theorem crash_any (B k : Nat) (keep : Int) (v : Value) (d : Dk) (w : World) (h : DkIn 52 B w k v d) :
    Calls Try.prog 20 #[.pointer (some ⟨k, 0, none⟩), .int .i64 keep] w fun e w' => e = .returned (.tuple #[]) ∧ ∃ v', DkIn 52 B w' k v' (crash keep d) ∧ Gd k w v w' v' := by
  have c1 := h.c1
  have hm := h.len_max
  have hl := h.fit.lasts
  have hk := kept_le hl keep
  have hL : ∀ W, Below w.heap.size w W → Calls Try.prog 34 #[.pointer (some ⟨k, 0, none⟩)] W fun e w' => e = .returned (.int .i64 (d.b.length - d.lasts : Nat)) ∧ Below w.heap.size w w' ∧ w'.cell? ⟨k, 1, none⟩ = some (.int .i64 (d.lasts : Nat)) := fun W hW =>
    (loose_any B k v d W (h.keep hW)).mono fun e w' ⟨he, hb⟩ => ⟨he, hW.trans (hb.mono hW.size), ((h.keep hW).keep hb).c1⟩
  have hV : ∀ W, Below w.heap.size w W → Calls Try.prog 33 #[.pointer (some ⟨k, 0, none⟩), .int .i64 (kept keep d : Nat)] W fun e w' => e = .returned (.tuple #[]) ∧ ∃ v', DkIn 52 B w' k v' ⟨d.b.take (kept keep d), min d.lasts (kept keep d), d.room, d.left⟩ ∧ Gd k w v w' v' := fun W hW =>
    (leave_any B k _ v d W (h.keep hW) hk).mono fun e w' ⟨he, v', h1, h2⟩ => ⟨he, v', h1, (Gd.of_below k v hW).trans h2⟩
  have hq : (kept keep d : Int) = (d.lasts : Int) + min (max keep 0) ((d.b.length - d.lasts : Nat) : Int) := by unfold kept; omega
  have HE : Aside (∀ (W : World) (v1 : Value), DkIn 52 B W k v1 (halt (-1) ⟨d.b.take (kept keep d), (d.b.take (kept keep d)).length, d.room, d.left⟩) → DkIn 52 B W k v1 (crash keep d)) := fun W v1 h1 => by
    have e : (d.b.take (kept keep d)).length = kept keep d := by rw [List.length_take]; omega
    have e2 : crash keep d = halt (-1) ⟨d.b.take (kept keep d), (d.b.take (kept keep d)).length, d.room, d.left⟩ := by
      unfold crash halt; rw [e]; rfl
    rw [e2]; exact h1
  clear h hk
  generalize crash keep d = d9 at HE ⊢
  generalize min d.lasts (kept keep d) = ml at hV
  generalize d.b.take (kept keep d) = tk at HE hV
  generalize kept keep d = kq at hV hq
  have hu : d.b.length - d.lasts ≤ 1048576 := by omega
  generalize d.b.length - d.lasts = u at hL hq hu
  have hl2 : d.lasts ≤ 1048576 := by omega
  generalize d.lasts = s at c1 hL hq hl2
  clear hl hm
  by_cases k0 : keep < 0
  · exact crash_a B k kq s u ml _ keep _ tk v d9 w c1 hL hV HE hu hl2 k0 (by omega)
  · by_cases k1 : (u : Int) < keep
    · exact crash_b B k kq s u ml _ keep _ tk v d9 w c1 hL hV HE hu hl2 k0 k1 (by omega)
    · exact crash_c B k kq s u ml _ keep _ tk v d9 w c1 hL hV HE hu hl2 k0 k1 (by omega)
end Go.Proofs.Ytpaekckahapngaa.disk
