/-
  The contract of the statements' does: a call, on both.
-/
import Derived.Test.YtpaekckahapngaaDiskTwo
import Derived.Test.YtpaekckahapngaaDiskLaw
namespace Go.Proofs.Ytpaekckahapngaa.disk
open Go.ChangeShapes Go.WideShapes Go.ChangeAt Go.RowKit Go.Deep
open Go.Proofs.Ytpaekckahapngaa.bytes
set_option linter.unusedVariables false
set_option maxRecDepth 100000
set_option linter.unusedSimpArgs false

theorem opd_sync {q : Nat} {y : List UInt8} {n : Int} {d : Dk} (h : q = 4 ∨ q = 5) : opd q y n d = (sync d).1 := by unfold opd; rw [if_pos h]
theorem opd_cut {y : List UInt8} {n : Int} {d : Dk} : opd 6 y n d = (cut n d).1 := rfl
theorem opd_crash {y : List UInt8} {n : Int} {d : Dk} : opd 7 y n d = crash n d := rfl
theorem opd_halt {y : List UInt8} {n : Int} {d : Dk} : opd 8 y n d = halt n d := rfl
theorem opd_app {q : Nat} {y : List UInt8} {n : Int} {d : Dk} (h : q < 4) : opd q y n d = (app y d).1 := by
  unfold opd
  rw [if_neg (by omega), if_neg (by omega), if_neg (by omega), if_neg (by omega)]
/-- the box that holds the call -/
def OpBox (w : World) (b q m c : Nat) (a : Option Addr) (x : Int) : Prop := Boxed w b #[.int .u8 (q : Nat), .slice a m c, .int .i64 x] 38

set_option maxHeartbeats 4000000 in
theorem does_any (B k1 k2 q m c : Nat) (a : Option Addr) (y : List UInt8) (x : Int) (d : Dk) (w : World) (h : Two B w k1 k2 d d) (hq : q < 256) (hS : Sl w a m c y) (hlow : y ≠ [] → ∀ p, a = some p → p.block < B) (hm : m ≤ 1000000000000000) (hx : -9223372036854775808 ≤ x ∧ x ≤ 9223372036854775807) :
    Calls Try.prog 17 #[.pointer (some ⟨k1, 0, none⟩), .pointer (some ⟨k2, 0, none⟩), .agg #[.int .u8 (q : Nat), .slice a m c, .int .i64 x]] w fun e w' => e = .returned (.bool true) ∧ Two B w' k1 k2 (opd (q % 9) y x d) (opd (q % 9) y x d) ∧ Below B w w' := by
  have hb := Boxed.new w #[.int .u8 (q : Nat), .slice a m c, .int .i64 x] 38
  have hbl : Below w.heap.size w (w.alloc (.cells #[.int .u8 (q : Nat), .slice a m c, .int .i64 x] 38)) := (Below.refl _ _).alloc (Nat.le_refl _) _
  have hBs := h.base
  have T0 : Aside (Two B (w.alloc (.cells #[.int .u8 (q : Nat), .slice a m c, .int .i64 x] 38)) k1 k2 d d ∧ Below B w (w.alloc (.cells #[.int .u8 (q : Nat), .slice a m c, .int .i64 x] 38)) ∧ Sl (w.alloc (.cells #[.int .u8 (q : Nat), .slice a m c, .int .i64 x] 38)) a m c y) := ⟨h.keep hbl, hbl.mono hBs, hS.keep hbl⟩
  have HB : Aside (Boxed (w.alloc (.cells #[.int .u8 (q : Nat), .slice a m c, .int .i64 x] 38)) w.heap.size #[.int .u8 (q : Nat), .slice a m c, .int .i64 x] 38) := hb
  have e9 : (q : Int) % 9 = ((q % 9 : Nat) : Int) := by omega
  have hr9 : q % 9 < 9 := Nat.mod_lt _ (by omega)
  have HL : Aside (y ≠ [] → ∀ p, a = some p → p.block < B) := hlow
  clear h hS hb hbl hBs hlow
  generalize hr : q % 9 = r at e9 hr9 ⊢
  clear hr
  by_cases h4 : r = 4
  · subst h4
    rw [opd_sync (.inl rfl)]
    have C1 := sync_l T0.out.1
    have C2 := fun w1 (T1 : Two B w1 k1 k2 (sync d).1 d) => sync_r T1
    have hz : (sync d).2 ≤ 100 := by unfold sync; split <;> simp
    generalize (sync d).2 = z at C1 C2 hz
    generalize (sync d).1 = d2 at C1 C2 ⊢
    go_enter Try.func17, Try.ntmps17
    go_wp2_with (first | (go_at_call 19; with_reducible refine (C1).mono ?_; rintro e w1 ⟨rfl, T1, s1⟩) | (go_at_call 26; with_reducible refine (C2 _ T1).mono ?_; rintro e w2 ⟨rfl, T2, s2⟩))
    go_ret
    exact ⟨rfl, T2, (T0.out.2.1.trans s1.below).trans s2.below⟩
  by_cases h5 : r = 5
  · subst h5
    rw [opd_sync (.inr rfl)]
    have C1 := sync_l T0.out.1
    have C2 := fun w1 (T1 : Two B w1 k1 k2 (sync d).1 d) => sync_r T1
    have hz : (sync d).2 ≤ 100 := by unfold sync; split <;> simp
    generalize (sync d).2 = z at C1 C2 hz
    generalize (sync d).1 = d2 at C1 C2 ⊢
    go_enter Try.func17, Try.ntmps17
    go_wp2_with (first | (go_at_call 19; with_reducible refine (C1).mono ?_; rintro e w1 ⟨rfl, T1, s1⟩) | (go_at_call 26; with_reducible refine (C2 _ T1).mono ?_; rintro e w2 ⟨rfl, T2, s2⟩))
    go_ret
    exact ⟨rfl, T2, (T0.out.2.1.trans s1.below).trans s2.below⟩
  by_cases h6 : r = 6
  · subst h6
    rw [opd_cut]
    have hz : (cut x d).2 ≤ 100 := by unfold cut; split; (· simp); (split <;> simp)
    generalize hd2 : (cut x d).1 = d2
    generalize hz2 : (cut x d).2 = z at hz
    have hw : IntKind.i64.wrap ((z : Nat) : Int) = (z : Int) := by rw [IntKind.wrap_i64]; omega
    go_enter Try.func17, Try.ntmps17
    go_wp2_with fail
    generalize hW0 : w.alloc (.cells #[.int .u8 (q : Nat), .slice a m c, .int .i64 x] 38) = W0 at T0 HB ⊢
    generalize w.heap.size = b0 at HB ⊢
    have c2 : W0.drew.cell? ⟨b0, 2, none⟩ = some (.int .i64 x) := HB.out.cell (j := 2) rfl
    have T1' : Aside (∀ W, Below W0.heap.size W0 W → Calls Try.prog 21 #[.pointer (some ⟨k1, 0, none⟩), .int .i64 x] W fun e w' => e = .returned (.int .u16 (z : Nat)) ∧ Two B w' k1 k2 d2 d ∧ Below B w w' ∧ w'.cell? ⟨b0, 2, none⟩ = some (.int .i64 x) ∧ Boxed w' b0 #[.int .u8 (q : Nat), .slice a m c, .int .i64 x] 38) := fun W hW => by
      have := cut_l (T0.out.1.keep hW) x
      rw [hd2, hz2] at this
      exact this.mono fun e w' ⟨h1, h2, h3⟩ => ⟨h1, h2, (T0.out.2.1.trans (hW.mono T0.out.1.base)).trans h3.below, (h3.boxes _ _ _ (HB.out.below hW) (by decide) (by decide) (by decide)).cell rfl, h3.boxes _ _ _ (HB.out.below hW) (by decide) (by decide) (by decide)⟩
    have T2' : Aside (∀ W, Two B W k1 k2 d2 d → Below B w W → Boxed W b0 #[.int .u8 (q : Nat), .slice a m c, .int .i64 x] 38 → Calls Try.prog 27 #[.pointer (some ⟨k2, 0, none⟩), .int .i64 x] W fun e w' => e = .returned (.int .i64 (z : Nat)) ∧ Two B w' k1 k2 d2 d2 ∧ Below B w w' ∧ w'.cell? ⟨b0, 2, none⟩ = some (.int .i64 x)) := fun W hT hW hb => by
      have := cut_r hT x
      rw [hd2, hz2] at this
      exact this.mono fun e w' ⟨h1, h2, h3⟩ => ⟨h1, h2, hW.trans h3.below, (h3.boxes _ _ _ hb (by decide) (by decide) (by decide)).cell rfl⟩
    have B0 : Aside (Below W0.heap.size W0 W0) := Below.refl _ _
    clear T0 HB hW0
    go_region_held3 (fun W => W.cell? ⟨b0, 2, none⟩ = some (.int .i64 x)) (assumption) (first | (go_at_call 21; with_reducible refine (T1'.out _ (B0.out.drew)).mono ?_; rintro e w1 ⟨rfl, T1, s1, q1, x1⟩) | (go_at_call 27; with_reducible refine (T2'.out _ T1 s1 x1).mono ?_; rintro e w2 ⟨rfl, T2, s2, q2⟩))
    all_goals go_wp2
    all_goals go_ret
    all_goals exact ⟨rfl, T2, s2⟩
  by_cases h7 : r = 7
  · subst h7
    rw [opd_crash]
    generalize hd2 : crash x d = d2
    go_enter Try.func17, Try.ntmps17
    go_wp2_with fail
    generalize hW0 : w.alloc (.cells #[.int .u8 (q : Nat), .slice a m c, .int .i64 x] 38) = W0 at T0 HB ⊢
    generalize w.heap.size = b0 at HB ⊢
    have c2 : W0.cell? ⟨b0, 2, none⟩ = some (.int .i64 x) := HB.out.cell (j := 2) rfl
    have T1' : Calls Try.prog 20 #[.pointer (some ⟨k1, 0, none⟩), .int .i64 x] W0 fun e w' => e = .returned (.tuple #[]) ∧ Two B w' k1 k2 d2 d ∧ Below B w w' ∧ w'.cell? ⟨b0, 2, none⟩ = some (.int .i64 x) := by
      have := crash_l T0.out.1 x
      rw [hd2] at this
      exact this.mono fun e w' ⟨h1, h2, h3⟩ => ⟨h1, h2, T0.out.2.1.trans h3.below, (h3.boxes _ _ _ HB.out (by decide) (by decide) (by decide)).cell rfl⟩
    have T2' : Aside (∀ W, Two B W k1 k2 d2 d → Below B w W → Calls Try.prog 28 #[.pointer (some ⟨k2, 0, none⟩), .int .i64 x] W fun e w' => e = .returned (.tuple #[]) ∧ Two B w' k1 k2 d2 d2 ∧ Below B w w') := fun W hT hW => by
      have := crash_r hT x
      rw [hd2] at this
      exact this.mono fun e w' ⟨h1, h2, h3⟩ => ⟨h1, h2, hW.trans h3.below⟩
    clear T0 HB hW0
    go_wp2_with (first | (go_at_call 20; with_reducible refine T1'.mono ?_; rintro e w1 ⟨rfl, T1, s1, q1⟩) | (go_at_call 28; with_reducible refine (T2'.out _ T1 s1).mono ?_; rintro e w2 ⟨rfl, T2, s2⟩))
    go_ret
    exact ⟨rfl, T2, s2⟩
  by_cases h8 : r = 8
  · subst h8
    rw [opd_halt]
    generalize hd2 : halt x d = d2
    go_enter Try.func17, Try.ntmps17
    go_wp2_with fail
    generalize hW0 : w.alloc (.cells #[.int .u8 (q : Nat), .slice a m c, .int .i64 x] 38) = W0 at T0 HB ⊢
    generalize w.heap.size = b0 at HB ⊢
    have c2 : W0.cell? ⟨b0, 2, none⟩ = some (.int .i64 x) := HB.out.cell (j := 2) rfl
    have T1' : Calls Try.prog 10 #[.pointer (some ⟨k1, 0, none⟩), .int .i64 x] W0 fun e w' => e = .returned (.tuple #[]) ∧ Two B w' k1 k2 d2 d ∧ Below B w w' ∧ w'.cell? ⟨b0, 2, none⟩ = some (.int .i64 x) := by
      have := halt_l T0.out.1 x (by omega)
      rw [hd2] at this
      exact this.mono fun e w' ⟨h1, h2, h3⟩ => ⟨h1, h2, T0.out.2.1.trans h3.below, (h3.boxes _ _ _ HB.out (by decide) (by decide) (by decide)).cell rfl⟩
    have T2' : Aside (∀ W, Two B W k1 k2 d2 d → Below B w W → Calls Try.prog 29 #[.pointer (some ⟨k2, 0, none⟩), .int .i64 x] W fun e w' => e = .returned (.tuple #[]) ∧ Two B w' k1 k2 d2 d2 ∧ Below B w w') := fun W hT hW => by
      have := halt_r hT x (by omega)
      rw [hd2] at this
      exact this.mono fun e w' ⟨h1, h2, h3⟩ => ⟨h1, h2, hW.trans h3.below⟩
    clear T0 HB hW0
    go_wp2_with (first | (go_at_call 10; with_reducible refine T1'.mono ?_; rintro e w1 ⟨rfl, T1, s1, q1⟩) | (go_at_call 29; with_reducible refine (T2'.out _ T1 s1).mono ?_; rintro e w2 ⟨rfl, T2, s2⟩))
    go_ret
    exact ⟨rfl, T2, s2⟩
  have hr4 : r < 4 := by omega
  rw [opd_app hr4]
  have hz : (app y d).2 ≤ 100 := by unfold app; split; (· simp); (split <;> simp)
  generalize hd2 : (app y d).1 = d2
  generalize hz2 : (app y d).2 = z at hz
  have hw : IntKind.i64.wrap ((z : Nat) : Int) = (z : Int) := by rw [IntKind.wrap_i64]; omega
  have g4 : ¬ (r : Int) = 4 := by omega
  have g5 : ¬ (r : Int) = 5 := by omega
  have g6 : ¬ (r : Int) = 6 := by omega
  have g7 : ¬ (r : Int) = 7 := by omega
  have g8 : ¬ (r : Int) = 8 := by omega
  clear h4 h5 h6 h7 h8
  go_enter Try.func17, Try.ntmps17
  go_wp2_with fail
  generalize hW0 : w.alloc (.cells #[.int .u8 (q : Nat), .slice a m c, .int .i64 x] 38) = W0 at T0 HB ⊢
  generalize w.heap.size = b0 at HB ⊢
  have c2 : W0.drew.cell? ⟨b0, 1, none⟩ = some (.slice a m c) := HB.out.cell (j := 1) rfl
  have T1' : Aside (∀ W, Below W0.heap.size W0 W → Calls Try.prog 12 #[.pointer (some ⟨k1, 0, none⟩), .slice a m c] W fun e w' => e = .returned (.int .u16 (z : Nat)) ∧ Two B w' k1 k2 d2 d ∧ Below B w w' ∧ w'.cell? ⟨b0, 1, none⟩ = some (.slice a m c) ∧ Boxed w' b0 #[.int .u8 (q : Nat), .slice a m c, .int .i64 x] 38 ∧ Sl w' a m c y) := fun W hW => by
    have := app_l (T0.out.1.keep hW) (T0.out.2.2.keep hW)
    rw [hd2, hz2] at this
    exact this.mono fun e w' ⟨h1, h2, h3⟩ => ⟨h1, h2, (T0.out.2.1.trans (hW.mono T0.out.1.base)).trans h3.below, (h3.boxes _ _ _ (HB.out.below hW) (by decide) (by decide) (by decide)).cell rfl, h3.boxes _ _ _ (HB.out.below hW) (by decide) (by decide) (by decide), (T0.out.2.2.keep hW).low_keep HL.out h3.below⟩
  have T2' : Aside (∀ W, Two B W k1 k2 d2 d → Below B w W → Boxed W b0 #[.int .u8 (q : Nat), .slice a m c, .int .i64 x] 38 → Sl W a m c y → Calls Try.prog 30 #[.pointer (some ⟨k2, 0, none⟩), .slice a m c] W fun e w' => e = .returned (.int .i64 (z : Nat)) ∧ Two B w' k1 k2 d2 d2 ∧ Below B w w' ∧ w'.cell? ⟨b0, 1, none⟩ = some (.slice a m c)) := fun W hT hW hb hs => by
    have := app_r hT hs hm
    rw [hd2, hz2] at this
    exact this.mono fun e w' ⟨h1, h2, h3⟩ => ⟨h1, h2, hW.trans h3.below, (h3.boxes _ _ _ hb (by decide) (by decide) (by decide)).cell rfl⟩
  have B0 : Aside (Below W0.heap.size W0 W0) := Below.refl _ _
  clear T0 HB hW0
  go_region_held3 (fun W => W.cell? ⟨b0, 1, none⟩ = some (.slice a m c)) (assumption) (first | (go_at_call 12; with_reducible refine (T1'.out _ (B0.out.drew)).mono ?_; rintro e w1 ⟨rfl, T1, s1, q1, x1, l1⟩) | (go_at_call 30; with_reducible refine (T2'.out _ T1 s1 x1 l1).mono ?_; rintro e w2 ⟨rfl, T2, s2, q2⟩))
  all_goals go_wp2
  all_goals go_ret
  all_goals exact ⟨rfl, T2, s2⟩
end Go.Proofs.Ytpaekckahapngaa.disk
