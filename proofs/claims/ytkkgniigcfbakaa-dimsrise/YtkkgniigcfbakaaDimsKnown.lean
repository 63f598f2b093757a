/-
  The chapter's example holds: the contract of the statements' own 'known'.
-/
import Derived.Test.YtkkgniigcfbakaaDimsUp
import Derived.Test.YtkkgniigcfbakaaDimsSound
import Derived.Test.YtkkgniigcfbakaaDimsCmp
namespace Go.Proofs.Ytkkgniigcfbakaa.dims
open Go.ChangeShapes Go.WideShapes Go.ChangeAt Go.RowKit Go.Deep
set_option linter.unusedVariables false

theorem up_val (sz : Int) (a : Option Addr) (n cap : Nat) (l : List Int) (f t v r : Int) (w : World) (hI : Ints w a l) (hn : l.length = n) (hv : v ≤ 9223372036854775807) (hr : upV sz l f t v = r) :
    Calls Try.prog 20 #[.agg #[.int .i64 sz, .slice a n cap], .int .i64 f, .int .i64 t, .int .i64 v] w fun e w' => e = .returned (.int .i64 r) ∧ Below w.heap.size w w' := by
  rw [← hr]; exact up_any sz a n cap l f t v w hI hn hv

theorem levels_bel (sz : Int) (a : Option Addr) (n cap : Nat) (r : Int) (w : World) (hn : n ≤ 9223372036854775800) (hr : (n : Int) + 2 = r) :
    Calls Try.prog 17 #[.agg #[.int .i64 sz, .slice a n cap]] w fun e w' => e = .returned (.int .i64 r) ∧ Below w.heap.size w w' :=
  (levels_any sz a n cap w hn).mono fun e w' ⟨h1, h2⟩ => ⟨by rw [h1, hr], by rw [h2]; exact (Below.refl _ _).alloc (Nat.le_refl _) _⟩
theorem refLevels_bel (sz : Int) (a : Option Addr) (n cap : Nat) (r : Int) (w : World) (hn : n ≤ 9223372036854775800) (hr : (n : Int) + 2 = r) :
    Calls Try.prog 18 #[.agg #[.int .i64 sz, .slice a n cap]] w fun e w' => e = .returned (.int .i64 r) ∧ Below w.heap.size w w' :=
  (refLevels_any sz a n cap w hn).mono fun e w' ⟨h1, h2⟩ => ⟨by rw [h1, hr], by rw [h2]; exact (Below.refl _ _).alloc (Nat.le_refl _) _⟩

def ex : List Int := [5, 20]
def exd (B : Nat) : Dm := ⟨100, some ⟨B, 0, none⟩, 2, ex⟩
theorem ex_sound (B : Nat) : sndL [exd B] = true := by kernel_rfl

/-- the example's memory -/
structure Ex (w : World) (W : World) : Prop where
  bel : Below w.heap.size w W
  siz : w.heap.size + 1 + 1 < W.heap.size
  i0 : W.cell? ⟨w.heap.size, 0, none⟩ = some (.int .i64 5)
  i1 : W.cell? ⟨w.heap.size, 1, none⟩ = some (.int .i64 20)
  d0 : W.cell? ⟨w.heap.size + 1, 0, none⟩ = some (.int .i64 100)
  d1 : W.cell? ⟨w.heap.size + 1, 1, none⟩ = some (.slice (some ⟨w.heap.size, 0, none⟩) 2 2)

theorem Ex.keep {w W W' : World} (h : Ex w W) (hb : Below W.heap.size W W') : Ex w W' := by
  have k : ∀ {c o : Nat} {v : Value}, W.cell? ⟨c, o, none⟩ = some v → W'.cell? ⟨c, o, none⟩ = some v := fun {c o v} hv => (hb.cell (p := ⟨c, o, none⟩) (cell_lt hv)).trans hv
  have := hb.size
  have := h.siz
  exact ⟨h.bel.trans (hb.mono (by omega)), by omega, k h.i0, k h.i1, k h.d0, k h.d1⟩

theorem Ex.ints {w W : World} (h : Ex w W) : Ints W (some ⟨w.heap.size, 0, none⟩) ex := by
  refine .inr ⟨_, _, rfl, fun i hi => ?_⟩
  match i, hi with
  | 0, _ => simpa [ex, nth] using h.i0
  | 1, _ => simpa [ex, nth] using h.i1

set_option maxHeartbeats 4000000 in
theorem known_any (w : World) :
    Calls Try.prog 13 #[] w fun e w' => e = .returned (.bool true) ∧ Below w.heap.size w w' := by
  go_enter Try.func13, Try.ntmps13
  go_wp2_with fail
  refine (soundL_any _ 1 1 [exd w.heap.size] _ ?_ rfl (by omega)).mono ?_
  · refine .inr ⟨_, _, rfl, fun i hi => ?_⟩
    match i, hi with
    | 0, _ =>
      refine ⟨by simp [go_sem, dn, exd], by simp [go_sem, dn, exd, ex], ?_, by simp [dn, exd, ex]⟩
      refine .inr ⟨_, _, rfl, fun i hi => ?_⟩
      match i, hi with
      | 0, _ => simp [go_sem, dn, exd, ex, nth]
      | 1, _ => simp [go_sem, dn, exd, ex, nth]
  rintro e w1 ⟨rfl, hb1⟩
  rw [ex_sound]
  have X : Ex w w1 := by
    have k : ∀ {c o : Nat}, c < w.heap.size + 1 + 1 → _ := fun {c o} h => hb1.cell (p := ⟨c, o, none⟩) (by simp; omega)
    have hz := hb1.size
    simp at hz
    refine ⟨Below.trans ?_ (hb1.mono (by simp; omega)), by omega, (k (by omega)).trans (by simp [go_sem]), (k (by omega)).trans (by simp [go_sem]), (k (by omega)).trans (by simp [go_sem]), (k (by omega)).trans (by simp [go_sem])⟩
    (repeat (first | with_reducible exact Below.refl _ _ | (with_reducible refine Below.drew ?_) | (with_reducible refine Below.alloc ?_ (by first | omega | (simp; done) | (simp; omega)) _) | (with_reducible refine Below.setCell ?_ (by first | exact Nat.le_refl _ | omega | (simp; done) | (simp; omega)) _)))
  have X1 : Aside (Ex w w1) := X
  clear hb1 X
  have e0 := X1.out.d0
  have e1 := X1.out.d1
  go_wp2_with fail
  refine (up_val _ _ 2 2 ex 0 1 47 9 _ X1.out.ints rfl (by omega) (by kernel_rfl)).mono ?_
  rintro e w2 ⟨rfl, hb2⟩
  have X2 : Aside (Ex w w2) := X1.out.keep hb2
  clear hb2 X1 e0 e1
  have e0 := X2.out.d0
  have e1 := X2.out.d1
  go_wp2_with fail
  refine (up_val _ _ 2 2 ex 0 2 47 2 _ X2.out.ints rfl (by omega) (by kernel_rfl)).mono ?_
  rintro e w3 ⟨rfl, hb2⟩
  have X3 : Aside (Ex w w3) := X2.out.keep hb2
  clear hb2 X2 e0 e1
  have e0 := X3.out.d0
  have e1 := X3.out.d1
  go_wp2_with fail
  refine (up_val _ _ 2 2 ex 0 3 47 0 _ X3.out.ints rfl (by omega) (by kernel_rfl)).mono ?_
  rintro e w4 ⟨rfl, hb2⟩
  have X4 : Aside (Ex w w4) := X3.out.keep hb2
  clear hb2 X3 e0 e1
  have e0 := X4.out.d0
  have e1 := X4.out.d1
  go_wp2_with fail
  refine (up_val _ _ 2 2 ex 1 2 9 2 _ X4.out.ints rfl (by omega) (by kernel_rfl)).mono ?_
  rintro e w5 ⟨rfl, hb2⟩
  have X5 : Aside (Ex w w5) := X4.out.keep hb2
  clear hb2 X4 e0 e1
  have e0 := X5.out.d0
  have e1 := X5.out.d1
  go_wp2_with fail
  refine (levels_bel _ _ 2 2 4 _ (by omega) (by omega)).mono ?_
  rintro e w6 ⟨rfl, hb2⟩
  have X6 : Aside (Ex w w6) := X5.out.keep hb2
  clear X5 e0 e1 hb2
  go_wp2_with fail
  refine (cmp_any _ _ 1 2 1 2 [1] [1, 0] _ ?_ ?_ rfl rfl (by omega) (by omega) (by omega) (by omega)).mono ?_
  · refine .inr ⟨_, _, rfl, fun i hi => ?_⟩
    match i, hi with
    | 0, _ => simp [go_sem, nth]
  · refine .inr ⟨_, _, rfl, fun i hi => ?_⟩
    match i, hi with
    | 0, _ => simp [go_sem, nth]
    | 1, _ => simp [go_sem, nth]
  rintro e w7 ⟨rfl, rfl⟩
  rw [show cmpL [1] [1, 0] = -1 from rfl]
  go_wp2
  go_ret
  have hz := X6.out.bel.size
  refine ⟨rfl, Below.trans X6.out.bel ?_⟩
  (repeat (first | with_reducible exact Below.refl _ _ | (with_reducible refine Below.drew ?_) | (with_reducible refine Below.alloc ?_ (by first | omega | (simp; done) | (simp; omega)) _) | (with_reducible refine Below.setCell ?_ (by first | exact Nat.le_refl _ | omega | (simp; done) | (simp; omega)) _)))
end Go.Proofs.Ytkkgniigcfbakaa.dims
