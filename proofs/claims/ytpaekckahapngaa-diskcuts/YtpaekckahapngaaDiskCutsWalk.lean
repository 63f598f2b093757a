/-
  DiskCuts: cut, and laid on, a disk has the front, and what was laid on; behind a crash no more lasts than was left.
-/
import Derived.Test.YtpaekckahapngaaDiskKnown
import Derived.Laws.Concat
namespace Go.Proofs.Ytpaekckahapngaa.disk
open Go.ChangeShapes Go.WideShapes Go.ChangeAt Go.RowKit Go.Deep
open Go.Proofs.Ytpaekckahapngaa.bytes
set_option linter.unusedVariables false
set_option maxRecDepth 100000
set_option linter.unusedSimpArgs false

theorem add_lists (x y : List UInt8) (hx : x.length ≤ 8388608) (hy : y.length ≤ 8388608) (w : World) : (binOp .add 9 (.string ⟨x.toArray⟩) (.string ⟨y.toArray⟩)).run Try.prog w = .ok (.string ⟨(x ++ y).toArray⟩) w := by
  rw [binOp_string_add]
  exact run_string_add_lists w x y (by omega) (by omega)
/-- the disk behind the crash -/
theorem crash_lasts (x y : List UInt8) (room : Nat) : crash 0 ⟨x ++ y, x.length, room, -1⟩ = ⟨x, x.length, room, -1⟩ := by
  have hk : kept 0 ⟨x ++ y, x.length, room, -1⟩ = x.length := by unfold kept; simp
  unfold crash
  rw [hk]
  simp
theorem crash_all (x : List UInt8) (room : Nat) : crash 0 ⟨x, x.length, room, -1⟩ = ⟨x, x.length, room, -1⟩ := by
  have hk : kept 0 ⟨x, x.length, room, -1⟩ = x.length := by unfold kept; simp
  unfold crash
  rw [hk]
  simp
theorem cut_behind {d : Dk} (h : d.left = -1) {n : Int} (hn : (d.b.length : Int) < n) : (cut n d).2 = 1 := by
  unfold cut
  rw [if_neg (by omega), if_pos (.inr hn)]

set_option maxRecDepth 10000 in
set_option maxHeartbeats 8000000 in
theorem cuts_walk (a b : Option Addr) (n c m e : Nat) (ya yb : List UInt8) (z : Int) (s : Bool) (w : World) (hA : Sl w a n c ya) (hB : Sl w b m e yb) :
    Calls Try.prog 8 #[.slice a n c, .slice b m e, .int .i64 z, .bool s] w fun e w' => e = .returned (.bool true) ∧ Below w.heap.size w w' := by
  have K0 := known_any w
  by_cases h1 : 1000 < n
  · have h1z : (1000 : Int) < (n : Int) := by omega
    clear hA hB
    go_enter Try.func8, Try.ntmps8
    go_wp2_with (go_at_call 13; with_reducible refine K0.mono ?_; rintro e w1 ⟨rfl, b1⟩)
    go_ret
    exact ⟨rfl, b1⟩
  have h1z : ¬ (1000 : Int) < (n : Int) := by omega
  by_cases h2 : 1000 < m
  · have h2z : (1000 : Int) < (m : Int) := by omega
    clear hA hB
    go_enter Try.func8, Try.ntmps8
    go_wp2_with (go_at_call 13; with_reducible refine K0.mono ?_; rintro e w1 ⟨rfl, b1⟩)
    go_ret
    exact ⟨rfl, b1⟩
  have h2z : ¬ (1000 : Int) < (m : Int) := by omega
  have hcap := hA.at_.cap
  have hnl := hA.at_.len
  have hml := hB.at_.len
  have C0 : Aside (∀ W, Below w.heap.size w W → Calls Try.prog 9 #[.int .i64 5000] W fun e w' => e = .returned (.pointer (some ⟨W.heap.size, 0, none⟩)) ∧ OneF w.heap.size w' W.heap.size (new 5000) [] ∧ Below w.heap.size w w') := fun W hW =>
    (new1 (B := w.heap.size) (w := W) 5000 (by omega) hW.size).mono fun e w' ⟨q1, q2, q3⟩ => ⟨q1, q2, hW.trans (q3.mono hW.size)⟩
  have G1 : Aside (∀ W k, OneF w.heap.size W k (new 5000) [] → Below w.heap.size w W → Calls Try.prog 12 #[.pointer (some ⟨k, 0, none⟩), .slice a n c] W fun e w' => e = .returned (.int .u16 0) ∧ OneF w.heap.size w' k ⟨ya, 0, 5000, -1⟩ [] ∧ Below w.heap.size w w') := fun W k h hb => by
    have := app1 h (hA.keep hb)
    rw [app_free (d := new 5000) rfl (by show 0 + ya.length ≤ 5000; omega)] at this
    exact this.mono fun e w' ⟨q1, q2, q3⟩ => ⟨q1, q2, hb.trans q3⟩
  have G2 : Aside (∀ W k, OneF w.heap.size W k ⟨ya, 0, 5000, -1⟩ [] → Below w.heap.size w W → Calls Try.prog 19 #[.pointer (some ⟨k, 0, none⟩)] W fun e w' => e = .returned (.int .u16 0) ∧ OneF w.heap.size w' k ⟨ya, ya.length, 5000, -1⟩ [] ∧ Below w.heap.size w w') := fun W k h hb =>
    (sync1 h).mono fun e w' ⟨q1, q2, q3⟩ => ⟨q1, q2, hb.trans q3⟩
  have G3 : Aside (∀ W k (j : Nat), j ≤ n → OneF w.heap.size W k ⟨ya, ya.length, 5000, -1⟩ [] → Below w.heap.size w W → Calls Try.prog 21 #[.pointer (some ⟨k, 0, none⟩), .int .i64 (j : Nat)] W fun e w' => e = .returned (.int .u16 0) ∧ OneF w.heap.size w' k ⟨ya.take j, (ya.take j).length, 5000, -1⟩ [] ∧ Below w.heap.size w w') := fun W k j hj h hb => by
    have := cut1 h (j : Nat)
    rw [cut_free (d := ⟨ya, ya.length, 5000, -1⟩) rfl (n := j) (by show j ≤ ya.length; omega)] at this
    have e1 : min ya.length j = (ya.take j).length := by rw [List.length_take]; omega
    rw [← e1]
    exact this.mono fun e w' ⟨q1, q2, q3⟩ => ⟨q1, q2, hb.trans q3⟩
  have G4 : Aside (∀ W k (x : List UInt8), x.length ≤ 1000 → OneF w.heap.size W k ⟨x, x.length, 5000, -1⟩ [] → Below w.heap.size w W → Calls Try.prog 12 #[.pointer (some ⟨k, 0, none⟩), .slice b m e] W fun e w' => e = .returned (.int .u16 0) ∧ OneF w.heap.size w' k ⟨x ++ yb, x.length, 5000, -1⟩ [] ∧ Below w.heap.size w w') := fun W k x hx h hb => by
    have := app1 h (hB.keep hb)
    rw [app_free (d := ⟨x, x.length, 5000, -1⟩) rfl (by show x.length + yb.length ≤ 5000; omega)] at this
    exact this.mono fun e w' ⟨q1, q2, q3⟩ => ⟨q1, q2, hb.trans q3⟩
  have G5 : Aside (∀ W k d us q, d.b.length = q → OneF w.heap.size W k d us → Below w.heap.size w W → Calls Try.prog 14 #[.pointer (some ⟨k, 0, none⟩)] W fun e w' => ∃ a' c', e = .returned (.slice a' q c') ∧ OneF w.heap.size w' k d us ∧ Below w.heap.size w w' ∧ (convert 29 9 (.slice a' q c')).run Try.prog w' = .ok (.string ⟨d.b.toArray⟩) w') := fun W k d us q hq h hb => by
    subst hq
    exact (read1 h).mono fun e w' ⟨a', c', q1, q2, q3, q4⟩ => ⟨a', c', q1, h.keep q3, hb.trans (q3.mono hb.size), str_of q4.at_.mem _ c' rfl⟩
  have G6 : Aside (∀ W k (x : List UInt8) l, OneF w.heap.size W k ⟨x, l, 5000, -1⟩ [] → Below w.heap.size w W → Calls Try.prog 19 #[.pointer (some ⟨k, 0, none⟩)] W fun e w' => e = .returned (.int .u16 0) ∧ OneF w.heap.size w' k ⟨x, x.length, 5000, -1⟩ [] ∧ Below w.heap.size w w') := fun W k x l h hb =>
    (sync1 h).mono fun e w' ⟨q1, q2, q3⟩ => ⟨q1, q2, hb.trans q3⟩
  have G7 : Aside (∀ W k d x, crash 0 d = ⟨x, x.length, 5000, -1⟩ → OneF w.heap.size W k d [] → Below w.heap.size w W → Calls Try.prog 20 #[.pointer (some ⟨k, 0, none⟩), .int .i64 0] W fun e w' => e = .returned (.tuple #[]) ∧ OneF w.heap.size w' k ⟨x, x.length, 5000, -1⟩ [] ∧ Below w.heap.size w w') := fun W k d x hx h hb => by
    have := crash1 h 0
    rw [hx] at this
    exact this.mono fun e w' ⟨q1, q2, q3⟩ => ⟨q1, q2, hb.trans q3⟩
  have G8 : Aside (∀ W k (x : List UInt8) (q : Nat), x.length = q → OneF w.heap.size W k ⟨x, x.length, 5000, -1⟩ [] → Below w.heap.size w W → Calls Try.prog 21 #[.pointer (some ⟨k, 0, none⟩), .int .i64 ((q : Int) + 1)] W fun e w' => e = .returned (.int .u16 1) ∧ Below w.heap.size w w') := fun W k x q hq h hb => by
    subst hq
    have := cut1 h ((x.length : Int) + 1)
    rw [cut_behind (d := ⟨x, x.length, 5000, -1⟩) rfl (by show (x.length : Int) < (x.length : Int) + 1; omega)] at this
    exact this.mono fun e w' ⟨q1, q2, q3⟩ => ⟨q1, hb.trans q3⟩
  have HC : Aside (∀ W, Below w.heap.size w W → (∀ j, j ≤ n → (convert 29 9 (.slice a j c)).run Try.prog W = .ok (.string ⟨(ya.take j).toArray⟩) W) ∧ (convert 29 9 (.slice b m e)).run Try.prog W = .ok (.string ⟨yb.toArray⟩) W) := fun W hW => ⟨fun j hj => str_of ((hA.front j hj).keep hW).at_.mem j c (hA.front j hj).at_.len, str_of (hB.keep hW).at_.mem m e hml⟩
  have hmm : Aside (yb.length = m ∧ ya.length = n ∧ m ≤ 1000 ∧ n ≤ 1000) := ⟨hml, hnl, by omega, by omega⟩
  have E2 : Aside (0 ≤ z % ((n : Int) + 1) ∧ z % ((n : Int) + 1) < (n : Int) + 1) := ⟨Int.emod_nonneg _ (by omega), Int.emod_lt_of_pos _ (by omega)⟩
  have hn1 : ¬ ((n : Int) + 1 = 0) := by omega
  clear hA hB hnl hml
  go_enter Try.func8, Try.ntmps8
  go_upto_region 3 with (go_at_call 13; with_reducible refine (K0).mono ?_; rintro e w1 ⟨rfl, b1⟩)
  go_upto_region 6 with (go_at_call 9; with_reducible refine (C0.out _ b1).mono ?_; rintro e w2 ⟨rfl, o2, b2⟩)
  generalize w1.heap.size = k at o2 ⊢
  clear b1 C0 K0
  go_upto_region 7 with (go_at_call 12; with_reducible refine (G1.out _ _ o2 b2).mono ?_; rintro e w3 ⟨rfl, o3, b3⟩)
  clear o2 b2 G1
  go_upto_region 8 with (go_at_call 19; with_reducible refine (G2.out _ _ o3 b3).mono ?_; rintro e w4 ⟨rfl, o4, b4⟩)
  clear o3 b3 G2
  go_cut [10] from 36 (fun t wx => ∃ q : Int, t = .int .i64 q ∧ 0 ≤ q ∧ q < (n : Int) + 1 ∧ wx = w4)
  case first =>
    go_wp2_with fail
    · go_meet
      case rel => exact ⟨_, rfl, by omega, by omega, rfl⟩
    · go_meet
      case rel => exact ⟨_, rfl, E2.out.1, E2.out.2, rfl⟩
  case rest =>
    obtain ⟨q', rfl, hq0, hqn, rfl⟩ := hcut
    obtain ⟨j, rfl⟩ := Int.eq_ofNat_of_zero_le hq0
    clear E2 hn1 hq0
    have hj : j ≤ n := by omega
    have hjc : j ≤ c := by omega
    have hxl : Aside ((ya.take j).length ≤ 1000) := by show _ ≤ _; rw [List.length_take]; have := hmm.out; omega
    have G3' := G3.out _ k j hj o4 b4
    have HS : Aside (∀ W, Below w.heap.size w W → (convert 29 9 (.slice a j c)).run Try.prog W = .ok (.string ⟨(ya.take j).toArray⟩) W ∧ (convert 29 9 (.slice b m e)).run Try.prog W = .ok (.string ⟨yb.toArray⟩) W) := fun W hW => ⟨(HC.out W hW).1 j hj, (HC.out W hW).2⟩
    clear HC G3 o4 b4
    generalize ya.take j = ta at *
    obtain ⟨p, hp⟩ : ∃ p, ta.length = p := ⟨_, rfl⟩
    obtain ⟨q, hq⟩ : ∃ q, (ta ++ yb).length = q := ⟨_, rfl⟩
    have HP : Hid (ta.length = p) := hp
    have HQ : Hid ((ta ++ yb).length = q) := hq
    have hp2 : p ≤ 1000 := by have := hxl.out; omega
    have hq2 : q ≤ 2000 := by rw [← hq, List.length_append]; have := hmm.out; omega
    clear hp hq
    have HADD : Aside (∀ W, (binOp .add 9 (.string ⟨ta.toArray⟩) (.string ⟨yb.toArray⟩)).run Try.prog W = .ok (.string ⟨(ta ++ yb).toArray⟩) W) := fun W => add_lists _ _ (by have := hxl.out; omega) (by have := hmm.out; omega) W
    go_upto_region 10 with (go_at_call 21; with_reducible refine (G3').mono ?_; rintro e w5 ⟨rfl, o5, b5⟩)
    clear G3'
    go_upto_region 11 with (go_at_call 12; with_reducible refine (G4.out _ _ _ hxl.out o5 b5).mono ?_; rintro e w6 ⟨rfl, o6, b6⟩)
    clear o5 b5 G4
    go_upto_region 12 with (go_at_call 14; with_reducible refine (G5.out _ _ _ _ _ HQ.out o6 b6).mono ?_; rintro e w7 ⟨a7, c7, rfl, o7, b7, hc7⟩)
    clear o6 b6
    cases s with
    | false =>
      go_upto_region 15 with (go_at_call 20; with_reducible refine (G7.out _ _ _ ta (crash_lasts ta yb 5000) o7 b7).mono ?_; rintro e w8 ⟨rfl, o8, b8⟩)
      obtain ⟨q1, q2⟩ := HS.out _ b8
      go_upto_region 18 with fail
      clear o7 b7 G7 G6 hc7
      have q12 := HS.out _ b8.drew
      have hj2 : ¬ ((j : Int) < 0) := by omega
      have hadd : ∀ W, (Op.stringOp .add ⟨ta.toArray⟩ ⟨yb.toArray⟩).run Try.prog W = .ok (.string ⟨(ta ++ yb).toArray⟩) W := fun W => run_string_add_lists W _ _ (by have := hxl.out; omega) (by have := hmm.out; omega)
      have hsz : (ByteArray.mk (ta).toArray).size = p := HP.out
      have hw : IntKind.i64.wrap ((p : Int) + 1) = (p : Int) + 1 := by rw [IntKind.wrap_i64]; omega
      have HB8 : Aside (Below w8.heap.size w8 w8) := Below.refl _ _
      have G5' : ∀ W, Below w8.heap.size w8 W → _ := fun W hW => G5.out W k _ [] p HP.out (o8.keep hW) (b8.trans (hW.mono b8.size))
      go_wp2_with fail
      refine wp_region_held_drew (S := fun W => (convert 29 9 (.slice a j c)).run Try.prog W = .ok (.string ⟨ta.toArray⟩) W ∧ (convert 29 9 (.slice b m e)).run Try.prog W = .ok (.string ⟨yb.toArray⟩) W) (by kernel_rfl) ?_ (fun hHeld => ?_)
      · (try dsimp only); exact q12
      change wpAnyH _ _ _ _ _ 33 #[false, false, false, false, false, false, false, false, false, false, false, false, false, false, false, false, false, false, false, false, false, false, false, false, false, false, false, false, false, false, false, false, false] _ _
      refine wpAnyH_take (i := 0) (oi := { dst := some 65, op := Op.move (Operand.tmp 11), type := 27, pos := "law.go:182", after := #[], guard := none }) (v := ?_) rfl (by kernel_rfl) (by kernel_rfl) (by kernel_rfl) (fun _ _ _ h => h) (Or.inl ⟨by kernel_rfl, ?_⟩) (by assumption) ?_
      rotate_left
      focus
        intro w hSw
        (try dsimp only at hSw)
        go_simp
        all_goals (try with_reducible rfl)
      simp only [Act.put, List.setIfInBounds_toArray, List.set_cons_zero, List.set_cons_succ]
      refine wpAnyH_take (i := 1) (oi := { dst := some 66, op := Op.binOp BinOp.eql 27 (Operand.tmp 65) (Operand.const (Value.int IntKind.u16 0)) 27, type := 4, pos := "law.go:182", after := #[{ on := 0, ground := Ground.data }], guard := none }) (v := ?_) rfl (by kernel_rfl) (by kernel_rfl) (by kernel_rfl) (fun _ _ _ h => h) (Or.inl ⟨by kernel_rfl, ?_⟩) (by assumption) ?_
      rotate_left
      focus
        intro w hSw
        (try dsimp only at hSw)
        go_simp
        all_goals (try with_reducible rfl)
      simp only [Act.put, List.setIfInBounds_toArray, List.set_cons_zero, List.set_cons_succ]
      refine wpAnyH_take (i := 2) (oi := { dst := some 67, op := Op.move (Operand.tmp 66), type := 4, pos := "law.go:182", after := #[{ on := 1, ground := Ground.data }], guard := none }) (v := ?_) rfl (by kernel_rfl) (by kernel_rfl) (by kernel_rfl) (fun _ _ _ h => h) (Or.inl ⟨by kernel_rfl, ?_⟩) (by assumption) ?_
      rotate_left
      focus
        intro w hSw
        (try dsimp only at hSw)
        go_simp
        all_goals (try with_reducible rfl)
      simp only [Act.put, List.setIfInBounds_toArray, List.set_cons_zero, List.set_cons_succ]
      refine wpAnyH_take (i := 3) (oi := { dst := some 68, op := Op.move (Operand.tmp 12), type := 27, pos := "law.go:182", after := #[{ on := 2, ground := Ground.guard }], guard := some (2, true) }) (v := ?_) rfl (by kernel_rfl) (by kernel_rfl) (by kernel_rfl) (fun _ _ _ h => h) (Or.inl ⟨by kernel_rfl, ?_⟩) (by assumption) ?_
      rotate_left
      focus
        intro w hSw
        (try dsimp only at hSw)
        go_simp
        all_goals (try with_reducible rfl)
      simp only [Act.put, List.setIfInBounds_toArray, List.set_cons_zero, List.set_cons_succ]
      refine wpAnyH_take (i := 4) (oi := { dst := some 69, op := Op.binOp BinOp.eql 27 (Operand.tmp 68) (Operand.const (Value.int IntKind.u16 0)) 27, type := 4, pos := "law.go:182", after := #[{ on := 3, ground := Ground.data }, { on := 2, ground := Ground.guard }], guard := some (2, true) }) (v := ?_) rfl (by kernel_rfl) (by kernel_rfl) (by kernel_rfl) (fun _ _ _ h => h) (Or.inl ⟨by kernel_rfl, ?_⟩) (by assumption) ?_
      rotate_left
      focus
        intro w hSw
        (try dsimp only at hSw)
        go_simp
        all_goals (try with_reducible rfl)
      simp only [Act.put, List.setIfInBounds_toArray, List.set_cons_zero, List.set_cons_succ]
      refine wpAnyH_take (i := 5) (oi := { dst := some 70, op := Op.pick (Operand.tmp 67) (Operand.tmp 69) (Operand.const (Value.bool false)), type := 4, pos := "law.go:182", after := #[{ on := 2, ground := Ground.data }, { on := 4, ground := Ground.data }], guard := none }) (v := ?_) rfl (by kernel_rfl) (by kernel_rfl) (by kernel_rfl) (fun _ _ _ h => h) (Or.inl ⟨by kernel_rfl, ?_⟩) (by assumption) ?_
      rotate_left
      focus
        intro w hSw
        (try dsimp only at hSw)
        go_simp
        all_goals (try with_reducible rfl)
      simp only [Act.put, List.setIfInBounds_toArray, List.set_cons_zero, List.set_cons_succ]
      refine wpAnyH_take (i := 6) (oi := { dst := some 71, op := Op.move (Operand.tmp 70), type := 4, pos := "law.go:182", after := #[{ on := 5, ground := Ground.data }, { on := 2, ground := Ground.chain }], guard := none }) (v := ?_) rfl (by kernel_rfl) (by kernel_rfl) (by kernel_rfl) (fun _ _ _ h => h) (Or.inl ⟨by kernel_rfl, ?_⟩) (by assumption) ?_
      rotate_left
      focus
        intro w hSw
        (try dsimp only at hSw)
        go_simp
        all_goals (try with_reducible rfl)
      simp only [Act.put, List.setIfInBounds_toArray, List.set_cons_zero, List.set_cons_succ]
      refine wpAnyH_take (i := 7) (oi := { dst := some 72, op := Op.move (Operand.tmp 13), type := 9, pos := "law.go:182", after := #[{ on := 6, ground := Ground.guard }], guard := some (6, true) }) (v := ?_) rfl (by kernel_rfl) (by kernel_rfl) (by kernel_rfl) (fun _ _ _ h => h) (Or.inl ⟨by kernel_rfl, ?_⟩) (by assumption) ?_
      rotate_left
      focus
        intro w hSw
        (try dsimp only at hSw)
        go_simp
        all_goals (try with_reducible rfl)
      simp only [Act.put, List.setIfInBounds_toArray, List.set_cons_zero, List.set_cons_succ]
      refine wpAnyH_take (i := 8) (oi := { dst := some 73, op := Op.move (Operand.tmp 0), type := 29, pos := "law.go:182", after := #[{ on := 6, ground := Ground.guard }], guard := some (6, true) }) (v := ?_) rfl (by kernel_rfl) (by kernel_rfl) (by kernel_rfl) (fun _ _ _ h => h) (Or.inl ⟨by kernel_rfl, ?_⟩) (by assumption) ?_
      rotate_left
      focus
        intro w hSw
        (try dsimp only at hSw)
        go_simp
        all_goals (try with_reducible rfl)
      simp only [Act.put, List.setIfInBounds_toArray, List.set_cons_zero, List.set_cons_succ]
      refine wpAnyH_take (i := 9) (oi := { dst := some 74, op := Op.move (Operand.tmp 10), type := 3, pos := "law.go:182", after := #[{ on := 6, ground := Ground.guard }], guard := some (6, true) }) (v := ?_) rfl (by kernel_rfl) (by kernel_rfl) (by kernel_rfl) (fun _ _ _ h => h) (Or.inl ⟨by kernel_rfl, ?_⟩) (by assumption) ?_
      rotate_left
      focus
        intro w hSw
        (try dsimp only at hSw)
        go_simp
        all_goals (try with_reducible rfl)
      simp only [Act.put, List.setIfInBounds_toArray, List.set_cons_zero, List.set_cons_succ]
      refine wpAnyH_take (i := 10) (oi := { dst := some 75, op := Op.slice 29 (Operand.tmp 73) none (some (Operand.tmp 74)) none, type := 29, pos := "law.go:182", after := #[{ on := 8, ground := Ground.data }, { on := 9, ground := Ground.data }, { on := 6, ground := Ground.guard }], guard := some (6, true) }) (v := ?_) rfl (by kernel_rfl) (by kernel_rfl) (by kernel_rfl) (fun _ _ _ h => h) (Or.inl ⟨by kernel_rfl, ?_⟩) (by assumption) ?_
      rotate_left
      focus
        intro w hSw
        (try dsimp only at hSw)
        go_simp
        all_goals (try with_reducible rfl)
      simp only [Act.put, List.setIfInBounds_toArray, List.set_cons_zero, List.set_cons_succ]
      refine wpAnyH_take (i := 11) (oi := { dst := some 76, op := Op.convert 29 9 (Operand.tmp 75), type := 9, pos := "law.go:182", after := #[{ on := 10, ground := Ground.data }, { on := 6, ground := Ground.guard }], guard := some (6, true) }) (v := ?_) rfl (by kernel_rfl) (by kernel_rfl) (by kernel_rfl) (fun _ _ _ h => h) (Or.inl ⟨by kernel_rfl, ?_⟩) (by assumption) ?_
      rotate_left
      focus
        intro w hSw
        (try dsimp only at hSw)
        go_simp
        all_goals (try with_reducible rfl)
      simp only [Act.put, List.setIfInBounds_toArray, List.set_cons_zero, List.set_cons_succ]
      refine wpAnyH_take (i := 12) (oi := { dst := some 77, op := Op.move (Operand.tmp 1), type := 29, pos := "law.go:182", after := #[{ on := 6, ground := Ground.guard }], guard := some (6, true) }) (v := ?_) rfl (by kernel_rfl) (by kernel_rfl) (by kernel_rfl) (fun _ _ _ h => h) (Or.inl ⟨by kernel_rfl, ?_⟩) (by assumption) ?_
      rotate_left
      focus
        intro w hSw
        (try dsimp only at hSw)
        go_simp
        all_goals (try with_reducible rfl)
      simp only [Act.put, List.setIfInBounds_toArray, List.set_cons_zero, List.set_cons_succ]
      refine wpAnyH_take (i := 13) (oi := { dst := some 78, op := Op.convert 29 9 (Operand.tmp 77), type := 9, pos := "law.go:182", after := #[{ on := 12, ground := Ground.data }, { on := 6, ground := Ground.guard }], guard := some (6, true) }) (v := ?_) rfl (by kernel_rfl) (by kernel_rfl) (by kernel_rfl) (fun _ _ _ h => h) (Or.inl ⟨by kernel_rfl, ?_⟩) (by assumption) ?_
      rotate_left
      focus
        intro w hSw
        (try dsimp only at hSw)
        go_simp
        all_goals (try with_reducible rfl)
      simp only [Act.put, List.setIfInBounds_toArray, List.set_cons_zero, List.set_cons_succ]
      refine wpAnyH_take (i := 14) (oi := { dst := some 79, op := Op.binOp BinOp.add 9 (Operand.tmp 76) (Operand.tmp 78) 9, type := 9, pos := "law.go:182", after := #[{ on := 11, ground := Ground.data }, { on := 13, ground := Ground.data }, { on := 6, ground := Ground.guard }], guard := some (6, true) }) (v := ?_) rfl (by kernel_rfl) (by kernel_rfl) (by kernel_rfl) (fun _ _ _ h => h) (Or.inl ⟨by kernel_rfl, ?_⟩) (by assumption) ?_
      rotate_left
      focus
        intro w hSw
        (try dsimp only at hSw)
        go_simp
        all_goals (try with_reducible rfl)
      simp only [Act.put, List.setIfInBounds_toArray, List.set_cons_zero, List.set_cons_succ]
      refine wpAnyH_take (i := 15) (oi := { dst := some 80, op := Op.binOp BinOp.eql 9 (Operand.tmp 72) (Operand.tmp 79) 9, type := 4, pos := "law.go:182", after := #[{ on := 7, ground := Ground.data }, { on := 14, ground := Ground.data }, { on := 6, ground := Ground.guard }], guard := some (6, true) }) (v := ?_) rfl (by kernel_rfl) (by kernel_rfl) (by kernel_rfl) (fun _ _ _ h => h) (Or.inl ⟨by kernel_rfl, ?_⟩) (by assumption) ?_
      rotate_left
      focus
        intro w hSw
        (try dsimp only at hSw)
        go_simp
        all_goals (try with_reducible rfl)
      simp only [Act.put, List.setIfInBounds_toArray, List.set_cons_zero, List.set_cons_succ]
      refine wpAnyH_take (i := 16) (oi := { dst := some 81, op := Op.pick (Operand.tmp 71) (Operand.tmp 80) (Operand.const (Value.bool false)), type := 4, pos := "law.go:182", after := #[{ on := 6, ground := Ground.data }, { on := 15, ground := Ground.data }], guard := none }) (v := ?_) rfl (by kernel_rfl) (by kernel_rfl) (by kernel_rfl) (fun _ _ _ h => h) (Or.inl ⟨by kernel_rfl, ?_⟩) (by assumption) ?_
      rotate_left
      focus
        intro w hSw
        (try dsimp only at hSw)
        go_simp
        all_goals (try with_reducible rfl)
      simp only [Act.put, List.setIfInBounds_toArray, List.set_cons_zero, List.set_cons_succ]
      refine wpAnyH_take (i := 17) (oi := { dst := some 82, op := Op.move (Operand.tmp 81), type := 4, pos := "law.go:182", after := #[{ on := 16, ground := Ground.data }, { on := 6, ground := Ground.chain }], guard := none }) (v := ?_) rfl (by kernel_rfl) (by kernel_rfl) (by kernel_rfl) (fun _ _ _ h => h) (Or.inl ⟨by kernel_rfl, ?_⟩) (by assumption) ?_
      rotate_left
      focus
        intro w hSw
        (try dsimp only at hSw)
        go_simp
        all_goals (try with_reducible rfl)
      simp only [Act.put, List.setIfInBounds_toArray, List.set_cons_zero, List.set_cons_succ]
      refine wpAnyH_take (i := 18) (oi := { dst := some 83, op := Op.move (Operand.tmp 9), type := 22, pos := "law.go:182", after := #[{ on := 17, ground := Ground.guard }], guard := some (17, true) }) (v := ?_) rfl (by kernel_rfl) (by kernel_rfl) (by kernel_rfl) (fun _ _ _ h => h) (Or.inl ⟨by kernel_rfl, ?_⟩) (by assumption) ?_
      rotate_left
      focus
        intro w hSw
        (try dsimp only at hSw)
        go_simp
        all_goals (try with_reducible rfl)
      simp only [Act.put, List.setIfInBounds_toArray, List.set_cons_zero, List.set_cons_succ]
      refine wpAnyH_take (i := 21) (oi := { dst := some 86, op := Op.move (Operand.tmp 14), type := 9, pos := "law.go:182", after := #[{ on := 17, ground := Ground.guard }], guard := some (17, true) }) (v := ?_) rfl (by kernel_rfl) (by kernel_rfl) (by kernel_rfl) (fun _ _ _ h => h) (Or.inl ⟨by kernel_rfl, ?_⟩) (by assumption) ?_
      rotate_left
      focus
        intro w hSw
        (try dsimp only at hSw)
        go_simp
        all_goals (try with_reducible rfl)
      simp only [Act.put, List.setIfInBounds_toArray, List.set_cons_zero, List.set_cons_succ]
      refine wpAnyH_ready (rs := [19]) (by kernel_rfl) (by simp) ?_
      refine AllReadyH.cons (o := { dst := some 84, op := Op.call { callee := Callee.value (Operand.func 14), args := #[Operand.tmp 83], argTypes := #[22] }, type := 29, pos := "law.go:182", after := #[{ on := 18, ground := Ground.data }, { on := 17, ground := Ground.chain }, { on := 17, ground := Ground.guard }], guard := some (17, true) }) rfl (fun K hK => ?_) AllReadyH.nil
      go_simp
      refine (G5' _ (HB8.out.drew)).mono ?_
      (rintro e w9 ⟨a9, c9, rfl, o9, b9, hc9⟩)
      go_wp2_with fail
      refine hK.out _ _ ?_ (fun hHeld2 => ?_)
      · (try dsimp only); exact HS.out _ b9
      clear hK K hHeld
      have hHeld := hHeld2
      clear hHeld2
      simp only [List.setIfInBounds_toArray, List.set_cons_zero, List.set_cons_succ]
      refine wpAnyH_ready (rs := [20]) (by kernel_rfl) (by simp) ?_
      refine AllReadyH.cons (o := { dst := some 85, op := Op.convert 29 9 (Operand.tmp 84), type := 9, pos := "law.go:182", after := #[{ on := 19, ground := Ground.data }, { on := 17, ground := Ground.guard }], guard := some (17, true) }) rfl (fun K hK => ?_) AllReadyH.nil
      go_simp
      refine hK.out _ _ ?_ (fun hHeld2 => ?_)
      · (try dsimp only); exact HS.out _ b9
      clear hK K hHeld
      have hHeld := hHeld2
      clear hHeld2
      simp only [List.setIfInBounds_toArray, List.set_cons_zero, List.set_cons_succ]
      refine wpAnyH_take (i := 22) (oi := { dst := some 87, op := Op.binOp BinOp.eql 9 (Operand.tmp 85) (Operand.tmp 86) 9, type := 4, pos := "law.go:182", after := #[{ on := 20, ground := Ground.data }, { on := 21, ground := Ground.data }, { on := 17, ground := Ground.guard }], guard := some (17, true) }) (v := ?_) rfl (by kernel_rfl) (by kernel_rfl) (by kernel_rfl) (fun _ _ _ h => h) (Or.inl ⟨by kernel_rfl, ?_⟩) (by assumption) ?_
      rotate_left
      focus
        intro w hSw
        (try dsimp only at hSw)
        go_simp
        all_goals (try with_reducible rfl)
      simp only [Act.put, List.setIfInBounds_toArray, List.set_cons_zero, List.set_cons_succ]
      refine wpAnyH_take (i := 23) (oi := { dst := some 88, op := Op.pick (Operand.tmp 82) (Operand.tmp 87) (Operand.const (Value.bool false)), type := 4, pos := "law.go:182", after := #[{ on := 17, ground := Ground.data }, { on := 22, ground := Ground.data }], guard := none }) (v := ?_) rfl (by kernel_rfl) (by kernel_rfl) (by kernel_rfl) (fun _ _ _ h => h) (Or.inl ⟨by kernel_rfl, ?_⟩) (by assumption) ?_
      rotate_left
      focus
        intro w hSw
        (try dsimp only at hSw)
        go_simp
        all_goals (try with_reducible rfl)
      simp only [Act.put, List.setIfInBounds_toArray, List.set_cons_zero, List.set_cons_succ]
      refine wpAnyH_take (i := 24) (oi := { dst := some 89, op := Op.move (Operand.tmp 88), type := 4, pos := "law.go:182", after := #[{ on := 23, ground := Ground.data }, { on := 19, ground := Ground.chain }], guard := none }) (v := ?_) rfl (by kernel_rfl) (by kernel_rfl) (by kernel_rfl) (fun _ _ _ h => h) (Or.inl ⟨by kernel_rfl, ?_⟩) (by assumption) ?_
      rotate_left
      focus
        intro w hSw
        (try dsimp only at hSw)
        go_simp
        all_goals (try with_reducible rfl)
      simp only [Act.put, List.setIfInBounds_toArray, List.set_cons_zero, List.set_cons_succ]
      refine wpAnyH_take (i := 25) (oi := { dst := some 90, op := Op.move (Operand.tmp 9), type := 22, pos := "law.go:182", after := #[{ on := 24, ground := Ground.guard }], guard := some (24, true) }) (v := ?_) rfl (by kernel_rfl) (by kernel_rfl) (by kernel_rfl) (fun _ _ _ h => h) (Or.inl ⟨by kernel_rfl, ?_⟩) (by assumption) ?_
      rotate_left
      focus
        intro w hSw
        (try dsimp only at hSw)
        go_simp
        all_goals (try with_reducible rfl)
      simp only [Act.put, List.setIfInBounds_toArray, List.set_cons_zero, List.set_cons_succ]
      refine wpAnyH_take (i := 26) (oi := { dst := some 91, op := Op.move (Operand.tmp 14), type := 9, pos := "law.go:182", after := #[{ on := 24, ground := Ground.guard }], guard := some (24, true) }) (v := ?_) rfl (by kernel_rfl) (by kernel_rfl) (by kernel_rfl) (fun _ _ _ h => h) (Or.inl ⟨by kernel_rfl, ?_⟩) (by assumption) ?_
      rotate_left
      focus
        intro w hSw
        (try dsimp only at hSw)
        go_simp
        all_goals (try with_reducible rfl)
      simp only [Act.put, List.setIfInBounds_toArray, List.set_cons_zero, List.set_cons_succ]
      refine wpAnyH_take (i := 27) (oi := { dst := some 92, op := Op.call { callee := Callee.builtin Builtin.len, args := #[Operand.tmp 91], argTypes := #[9] }, type := 3, pos := "law.go:182", after := #[{ on := 26, ground := Ground.data }, { on := 24, ground := Ground.guard }], guard := some (24, true) }) (v := ?_) rfl (by kernel_rfl) (by kernel_rfl) (by kernel_rfl) (fun _ _ _ h => h) (Or.inl ⟨by kernel_rfl, ?_⟩) (by assumption) ?_
      rotate_left
      focus
        intro w hSw
        (try dsimp only at hSw)
        go_simp
        all_goals (try with_reducible rfl)
      simp only [Act.put, List.setIfInBounds_toArray, List.set_cons_zero, List.set_cons_succ]
      refine wpAnyH_take (i := 28) (oi := { dst := some 93, op := Op.binOp BinOp.add 3 (Operand.tmp 92) (Operand.const (Value.int IntKind.i64 1)) 3, type := 3, pos := "law.go:182", after := #[{ on := 27, ground := Ground.data }, { on := 24, ground := Ground.guard }], guard := some (24, true) }) (v := ?_) rfl (by kernel_rfl) (by kernel_rfl) (by kernel_rfl) (fun _ _ _ h => h) (Or.inl ⟨by kernel_rfl, ?_⟩) (by assumption) ?_
      rotate_left
      focus
        intro w hSw
        (try dsimp only at hSw)
        go_simp
        all_goals (try with_reducible rfl)
      simp only [Act.put, List.setIfInBounds_toArray, List.set_cons_zero, List.set_cons_succ]
      refine wpAnyH_ready (rs := [29]) (by kernel_rfl) (by simp) ?_
      refine AllReadyH.cons (o := { dst := some 94, op := Op.call { callee := Callee.value (Operand.func 21), args := #[Operand.tmp 90, Operand.tmp 93], argTypes := #[22, 3] }, type := 27, pos := "law.go:182", after := #[{ on := 25, ground := Ground.data }, { on := 28, ground := Ground.data }, { on := 24, ground := Ground.chain }, { on := 24, ground := Ground.guard }], guard := some (24, true) }) rfl (fun K hK => ?_) AllReadyH.nil
      go_simp
      refine (G8.out _ _ _ _ HP.out o9 b9).mono ?_
      (rintro e w10 ⟨rfl, b10⟩)
      go_wp2_with fail
      refine hK.out _ _ ?_ (fun hHeld2 => ?_)
      · (try dsimp only); exact HS.out _ b10
      clear hK K hHeld
      have hHeld := hHeld2
      clear hHeld2
      simp only [List.setIfInBounds_toArray, List.set_cons_zero, List.set_cons_succ]
      refine wpAnyH_take (i := 30) (oi := { dst := some 95, op := Op.binOp BinOp.eql 27 (Operand.tmp 94) (Operand.const (Value.int IntKind.u16 1)) 27, type := 4, pos := "law.go:182", after := #[{ on := 29, ground := Ground.data }, { on := 24, ground := Ground.guard }], guard := some (24, true) }) (v := ?_) rfl (by kernel_rfl) (by kernel_rfl) (by kernel_rfl) (fun _ _ _ h => h) (Or.inl ⟨by kernel_rfl, ?_⟩) (by assumption) ?_
      rotate_left
      focus
        intro w hSw
        (try dsimp only at hSw)
        go_simp
        all_goals (try with_reducible rfl)
      simp only [Act.put, List.setIfInBounds_toArray, List.set_cons_zero, List.set_cons_succ]
      refine wpAnyH_take (i := 31) (oi := { dst := some 96, op := Op.pick (Operand.tmp 89) (Operand.tmp 95) (Operand.const (Value.bool false)), type := 4, pos := "law.go:182", after := #[{ on := 24, ground := Ground.data }, { on := 30, ground := Ground.data }], guard := none }) (v := ?_) rfl (by kernel_rfl) (by kernel_rfl) (by kernel_rfl) (fun _ _ _ h => h) (Or.inl ⟨by kernel_rfl, ?_⟩) (by assumption) ?_
      rotate_left
      focus
        intro w hSw
        (try dsimp only at hSw)
        go_simp
        all_goals (try with_reducible rfl)
      simp only [Act.put, List.setIfInBounds_toArray, List.set_cons_zero, List.set_cons_succ]
      refine wpAnyH_take (i := 32) (oi := { dst := some 8, op := Op.assign (Operand.tmp 96), type := 4, pos := "law.go:182", after := #[{ on := 31, ground := Ground.data }, { on := 29, ground := Ground.chain }, { on := 0, ground := Ground.phase }, { on := 1, ground := Ground.phase }, { on := 2, ground := Ground.phase }, { on := 3, ground := Ground.phase }, { on := 4, ground := Ground.phase }, { on := 5, ground := Ground.phase }, { on := 6, ground := Ground.phase }, { on := 7, ground := Ground.phase }, { on := 8, ground := Ground.phase }, { on := 9, ground := Ground.phase }, { on := 10, ground := Ground.phase }, { on := 11, ground := Ground.phase }, { on := 12, ground := Ground.phase }, { on := 13, ground := Ground.phase }, { on := 14, ground := Ground.phase }, { on := 15, ground := Ground.phase }, { on := 16, ground := Ground.phase }, { on := 17, ground := Ground.phase }, { on := 18, ground := Ground.phase }, { on := 19, ground := Ground.phase }, { on := 20, ground := Ground.phase }, { on := 21, ground := Ground.phase }, { on := 22, ground := Ground.phase }, { on := 23, ground := Ground.phase }, { on := 24, ground := Ground.phase }, { on := 25, ground := Ground.phase }, { on := 26, ground := Ground.phase }, { on := 27, ground := Ground.phase }, { on := 28, ground := Ground.phase }, { on := 29, ground := Ground.phase }, { on := 30, ground := Ground.phase }, { on := 31, ground := Ground.phase }], guard := none }) (v := ?_) rfl (by kernel_rfl) (by kernel_rfl) (by kernel_rfl) (fun _ _ _ h => h) (Or.inl ⟨by kernel_rfl, ?_⟩) (by assumption) ?_
      rotate_left
      focus
        intro w hSw
        (try dsimp only at hSw)
        go_simp
        all_goals (try with_reducible rfl)
      simp only [Act.put, List.setIfInBounds_toArray, List.set_cons_zero, List.set_cons_succ]
      refine wpAnyH_done (by kernel_rfl) ?_ _
      go_wp2
      go_ret
      exact ⟨rfl, b10⟩
    | true =>
      go_upto_region 14 with (go_at_call 19; with_reducible refine (G6.out _ _ _ _ o7 b7).mono ?_; rintro e w7' ⟨rfl, o7', b7'⟩)
      go_upto_region 15 with (go_at_call 20; with_reducible refine (G7.out _ _ _ (ta ++ yb) (crash_all (ta ++ yb) 5000) o7' b7').mono ?_; rintro e w8 ⟨rfl, o8, b8⟩)
      obtain ⟨q1, q2⟩ := HS.out _ b8
      have hadd0 : ∀ W, (Op.stringOp .add ⟨ta.toArray⟩ ⟨yb.toArray⟩).run Try.prog W = .ok (.string ⟨(ta ++ yb).toArray⟩) W := fun W => run_string_add_lists W _ _ (by have := hxl.out; omega) (by have := hmm.out; omega)
      go_upto_region 18 with fail
      clear o7 b7 o7' b7' G7 G6 hc7 hadd0
      have q12 := HS.out _ b8.drew
      have hj2 : ¬ ((j : Int) < 0) := by omega
      have hadd : ∀ W, (Op.stringOp .add ⟨ta.toArray⟩ ⟨yb.toArray⟩).run Try.prog W = .ok (.string ⟨(ta ++ yb).toArray⟩) W := fun W => run_string_add_lists W _ _ (by have := hxl.out; omega) (by have := hmm.out; omega)
      have hsz : (ByteArray.mk (ta ++ yb).toArray).size = q := HQ.out
      have hw : IntKind.i64.wrap ((q : Int) + 1) = (q : Int) + 1 := by rw [IntKind.wrap_i64]; omega
      have HB8 : Aside (Below w8.heap.size w8 w8) := Below.refl _ _
      have G5' : ∀ W, Below w8.heap.size w8 W → _ := fun W hW => G5.out W k _ [] q HQ.out (o8.keep hW) (b8.trans (hW.mono b8.size))
      go_wp2_with fail
      refine wp_region_held_drew (S := fun W => (convert 29 9 (.slice a j c)).run Try.prog W = .ok (.string ⟨ta.toArray⟩) W ∧ (convert 29 9 (.slice b m e)).run Try.prog W = .ok (.string ⟨yb.toArray⟩) W) (by kernel_rfl) ?_ (fun hHeld => ?_)
      · (try dsimp only); exact q12
      change wpAnyH _ _ _ _ _ 33 #[false, false, false, false, false, false, false, false, false, false, false, false, false, false, false, false, false, false, false, false, false, false, false, false, false, false, false, false, false, false, false, false, false] _ _
      refine wpAnyH_take (i := 0) (oi := { dst := some 65, op := Op.move (Operand.tmp 11), type := 27, pos := "law.go:182", after := #[], guard := none }) (v := ?_) rfl (by kernel_rfl) (by kernel_rfl) (by kernel_rfl) (fun _ _ _ h => h) (Or.inl ⟨by kernel_rfl, ?_⟩) (by assumption) ?_
      rotate_left
      focus
        intro w hSw
        (try dsimp only at hSw)
        go_simp
        all_goals (try with_reducible rfl)
      simp only [Act.put, List.setIfInBounds_toArray, List.set_cons_zero, List.set_cons_succ]
      refine wpAnyH_take (i := 1) (oi := { dst := some 66, op := Op.binOp BinOp.eql 27 (Operand.tmp 65) (Operand.const (Value.int IntKind.u16 0)) 27, type := 4, pos := "law.go:182", after := #[{ on := 0, ground := Ground.data }], guard := none }) (v := ?_) rfl (by kernel_rfl) (by kernel_rfl) (by kernel_rfl) (fun _ _ _ h => h) (Or.inl ⟨by kernel_rfl, ?_⟩) (by assumption) ?_
      rotate_left
      focus
        intro w hSw
        (try dsimp only at hSw)
        go_simp
        all_goals (try with_reducible rfl)
      simp only [Act.put, List.setIfInBounds_toArray, List.set_cons_zero, List.set_cons_succ]
      refine wpAnyH_take (i := 2) (oi := { dst := some 67, op := Op.move (Operand.tmp 66), type := 4, pos := "law.go:182", after := #[{ on := 1, ground := Ground.data }], guard := none }) (v := ?_) rfl (by kernel_rfl) (by kernel_rfl) (by kernel_rfl) (fun _ _ _ h => h) (Or.inl ⟨by kernel_rfl, ?_⟩) (by assumption) ?_
      rotate_left
      focus
        intro w hSw
        (try dsimp only at hSw)
        go_simp
        all_goals (try with_reducible rfl)
      simp only [Act.put, List.setIfInBounds_toArray, List.set_cons_zero, List.set_cons_succ]
      refine wpAnyH_take (i := 3) (oi := { dst := some 68, op := Op.move (Operand.tmp 12), type := 27, pos := "law.go:182", after := #[{ on := 2, ground := Ground.guard }], guard := some (2, true) }) (v := ?_) rfl (by kernel_rfl) (by kernel_rfl) (by kernel_rfl) (fun _ _ _ h => h) (Or.inl ⟨by kernel_rfl, ?_⟩) (by assumption) ?_
      rotate_left
      focus
        intro w hSw
        (try dsimp only at hSw)
        go_simp
        all_goals (try with_reducible rfl)
      simp only [Act.put, List.setIfInBounds_toArray, List.set_cons_zero, List.set_cons_succ]
      refine wpAnyH_take (i := 4) (oi := { dst := some 69, op := Op.binOp BinOp.eql 27 (Operand.tmp 68) (Operand.const (Value.int IntKind.u16 0)) 27, type := 4, pos := "law.go:182", after := #[{ on := 3, ground := Ground.data }, { on := 2, ground := Ground.guard }], guard := some (2, true) }) (v := ?_) rfl (by kernel_rfl) (by kernel_rfl) (by kernel_rfl) (fun _ _ _ h => h) (Or.inl ⟨by kernel_rfl, ?_⟩) (by assumption) ?_
      rotate_left
      focus
        intro w hSw
        (try dsimp only at hSw)
        go_simp
        all_goals (try with_reducible rfl)
      simp only [Act.put, List.setIfInBounds_toArray, List.set_cons_zero, List.set_cons_succ]
      refine wpAnyH_take (i := 5) (oi := { dst := some 70, op := Op.pick (Operand.tmp 67) (Operand.tmp 69) (Operand.const (Value.bool false)), type := 4, pos := "law.go:182", after := #[{ on := 2, ground := Ground.data }, { on := 4, ground := Ground.data }], guard := none }) (v := ?_) rfl (by kernel_rfl) (by kernel_rfl) (by kernel_rfl) (fun _ _ _ h => h) (Or.inl ⟨by kernel_rfl, ?_⟩) (by assumption) ?_
      rotate_left
      focus
        intro w hSw
        (try dsimp only at hSw)
        go_simp
        all_goals (try with_reducible rfl)
      simp only [Act.put, List.setIfInBounds_toArray, List.set_cons_zero, List.set_cons_succ]
      refine wpAnyH_take (i := 6) (oi := { dst := some 71, op := Op.move (Operand.tmp 70), type := 4, pos := "law.go:182", after := #[{ on := 5, ground := Ground.data }, { on := 2, ground := Ground.chain }], guard := none }) (v := ?_) rfl (by kernel_rfl) (by kernel_rfl) (by kernel_rfl) (fun _ _ _ h => h) (Or.inl ⟨by kernel_rfl, ?_⟩) (by assumption) ?_
      rotate_left
      focus
        intro w hSw
        (try dsimp only at hSw)
        go_simp
        all_goals (try with_reducible rfl)
      simp only [Act.put, List.setIfInBounds_toArray, List.set_cons_zero, List.set_cons_succ]
      refine wpAnyH_take (i := 7) (oi := { dst := some 72, op := Op.move (Operand.tmp 13), type := 9, pos := "law.go:182", after := #[{ on := 6, ground := Ground.guard }], guard := some (6, true) }) (v := ?_) rfl (by kernel_rfl) (by kernel_rfl) (by kernel_rfl) (fun _ _ _ h => h) (Or.inl ⟨by kernel_rfl, ?_⟩) (by assumption) ?_
      rotate_left
      focus
        intro w hSw
        (try dsimp only at hSw)
        go_simp
        all_goals (try with_reducible rfl)
      simp only [Act.put, List.setIfInBounds_toArray, List.set_cons_zero, List.set_cons_succ]
      refine wpAnyH_take (i := 8) (oi := { dst := some 73, op := Op.move (Operand.tmp 0), type := 29, pos := "law.go:182", after := #[{ on := 6, ground := Ground.guard }], guard := some (6, true) }) (v := ?_) rfl (by kernel_rfl) (by kernel_rfl) (by kernel_rfl) (fun _ _ _ h => h) (Or.inl ⟨by kernel_rfl, ?_⟩) (by assumption) ?_
      rotate_left
      focus
        intro w hSw
        (try dsimp only at hSw)
        go_simp
        all_goals (try with_reducible rfl)
      simp only [Act.put, List.setIfInBounds_toArray, List.set_cons_zero, List.set_cons_succ]
      refine wpAnyH_take (i := 9) (oi := { dst := some 74, op := Op.move (Operand.tmp 10), type := 3, pos := "law.go:182", after := #[{ on := 6, ground := Ground.guard }], guard := some (6, true) }) (v := ?_) rfl (by kernel_rfl) (by kernel_rfl) (by kernel_rfl) (fun _ _ _ h => h) (Or.inl ⟨by kernel_rfl, ?_⟩) (by assumption) ?_
      rotate_left
      focus
        intro w hSw
        (try dsimp only at hSw)
        go_simp
        all_goals (try with_reducible rfl)
      simp only [Act.put, List.setIfInBounds_toArray, List.set_cons_zero, List.set_cons_succ]
      refine wpAnyH_take (i := 10) (oi := { dst := some 75, op := Op.slice 29 (Operand.tmp 73) none (some (Operand.tmp 74)) none, type := 29, pos := "law.go:182", after := #[{ on := 8, ground := Ground.data }, { on := 9, ground := Ground.data }, { on := 6, ground := Ground.guard }], guard := some (6, true) }) (v := ?_) rfl (by kernel_rfl) (by kernel_rfl) (by kernel_rfl) (fun _ _ _ h => h) (Or.inl ⟨by kernel_rfl, ?_⟩) (by assumption) ?_
      rotate_left
      focus
        intro w hSw
        (try dsimp only at hSw)
        go_simp
        all_goals (try with_reducible rfl)
      simp only [Act.put, List.setIfInBounds_toArray, List.set_cons_zero, List.set_cons_succ]
      refine wpAnyH_take (i := 11) (oi := { dst := some 76, op := Op.convert 29 9 (Operand.tmp 75), type := 9, pos := "law.go:182", after := #[{ on := 10, ground := Ground.data }, { on := 6, ground := Ground.guard }], guard := some (6, true) }) (v := ?_) rfl (by kernel_rfl) (by kernel_rfl) (by kernel_rfl) (fun _ _ _ h => h) (Or.inl ⟨by kernel_rfl, ?_⟩) (by assumption) ?_
      rotate_left
      focus
        intro w hSw
        (try dsimp only at hSw)
        go_simp
        all_goals (try with_reducible rfl)
      simp only [Act.put, List.setIfInBounds_toArray, List.set_cons_zero, List.set_cons_succ]
      refine wpAnyH_take (i := 12) (oi := { dst := some 77, op := Op.move (Operand.tmp 1), type := 29, pos := "law.go:182", after := #[{ on := 6, ground := Ground.guard }], guard := some (6, true) }) (v := ?_) rfl (by kernel_rfl) (by kernel_rfl) (by kernel_rfl) (fun _ _ _ h => h) (Or.inl ⟨by kernel_rfl, ?_⟩) (by assumption) ?_
      rotate_left
      focus
        intro w hSw
        (try dsimp only at hSw)
        go_simp
        all_goals (try with_reducible rfl)
      simp only [Act.put, List.setIfInBounds_toArray, List.set_cons_zero, List.set_cons_succ]
      refine wpAnyH_take (i := 13) (oi := { dst := some 78, op := Op.convert 29 9 (Operand.tmp 77), type := 9, pos := "law.go:182", after := #[{ on := 12, ground := Ground.data }, { on := 6, ground := Ground.guard }], guard := some (6, true) }) (v := ?_) rfl (by kernel_rfl) (by kernel_rfl) (by kernel_rfl) (fun _ _ _ h => h) (Or.inl ⟨by kernel_rfl, ?_⟩) (by assumption) ?_
      rotate_left
      focus
        intro w hSw
        (try dsimp only at hSw)
        go_simp
        all_goals (try with_reducible rfl)
      simp only [Act.put, List.setIfInBounds_toArray, List.set_cons_zero, List.set_cons_succ]
      refine wpAnyH_take (i := 14) (oi := { dst := some 79, op := Op.binOp BinOp.add 9 (Operand.tmp 76) (Operand.tmp 78) 9, type := 9, pos := "law.go:182", after := #[{ on := 11, ground := Ground.data }, { on := 13, ground := Ground.data }, { on := 6, ground := Ground.guard }], guard := some (6, true) }) (v := ?_) rfl (by kernel_rfl) (by kernel_rfl) (by kernel_rfl) (fun _ _ _ h => h) (Or.inl ⟨by kernel_rfl, ?_⟩) (by assumption) ?_
      rotate_left
      focus
        intro w hSw
        (try dsimp only at hSw)
        go_simp
        all_goals (try with_reducible rfl)
      simp only [Act.put, List.setIfInBounds_toArray, List.set_cons_zero, List.set_cons_succ]
      refine wpAnyH_take (i := 15) (oi := { dst := some 80, op := Op.binOp BinOp.eql 9 (Operand.tmp 72) (Operand.tmp 79) 9, type := 4, pos := "law.go:182", after := #[{ on := 7, ground := Ground.data }, { on := 14, ground := Ground.data }, { on := 6, ground := Ground.guard }], guard := some (6, true) }) (v := ?_) rfl (by kernel_rfl) (by kernel_rfl) (by kernel_rfl) (fun _ _ _ h => h) (Or.inl ⟨by kernel_rfl, ?_⟩) (by assumption) ?_
      rotate_left
      focus
        intro w hSw
        (try dsimp only at hSw)
        go_simp
        all_goals (try with_reducible rfl)
      simp only [Act.put, List.setIfInBounds_toArray, List.set_cons_zero, List.set_cons_succ]
      refine wpAnyH_take (i := 16) (oi := { dst := some 81, op := Op.pick (Operand.tmp 71) (Operand.tmp 80) (Operand.const (Value.bool false)), type := 4, pos := "law.go:182", after := #[{ on := 6, ground := Ground.data }, { on := 15, ground := Ground.data }], guard := none }) (v := ?_) rfl (by kernel_rfl) (by kernel_rfl) (by kernel_rfl) (fun _ _ _ h => h) (Or.inl ⟨by kernel_rfl, ?_⟩) (by assumption) ?_
      rotate_left
      focus
        intro w hSw
        (try dsimp only at hSw)
        go_simp
        all_goals (try with_reducible rfl)
      simp only [Act.put, List.setIfInBounds_toArray, List.set_cons_zero, List.set_cons_succ]
      refine wpAnyH_take (i := 17) (oi := { dst := some 82, op := Op.move (Operand.tmp 81), type := 4, pos := "law.go:182", after := #[{ on := 16, ground := Ground.data }, { on := 6, ground := Ground.chain }], guard := none }) (v := ?_) rfl (by kernel_rfl) (by kernel_rfl) (by kernel_rfl) (fun _ _ _ h => h) (Or.inl ⟨by kernel_rfl, ?_⟩) (by assumption) ?_
      rotate_left
      focus
        intro w hSw
        (try dsimp only at hSw)
        go_simp
        all_goals (try with_reducible rfl)
      simp only [Act.put, List.setIfInBounds_toArray, List.set_cons_zero, List.set_cons_succ]
      refine wpAnyH_take (i := 18) (oi := { dst := some 83, op := Op.move (Operand.tmp 9), type := 22, pos := "law.go:182", after := #[{ on := 17, ground := Ground.guard }], guard := some (17, true) }) (v := ?_) rfl (by kernel_rfl) (by kernel_rfl) (by kernel_rfl) (fun _ _ _ h => h) (Or.inl ⟨by kernel_rfl, ?_⟩) (by assumption) ?_
      rotate_left
      focus
        intro w hSw
        (try dsimp only at hSw)
        go_simp
        all_goals (try with_reducible rfl)
      simp only [Act.put, List.setIfInBounds_toArray, List.set_cons_zero, List.set_cons_succ]
      refine wpAnyH_take (i := 21) (oi := { dst := some 86, op := Op.move (Operand.tmp 14), type := 9, pos := "law.go:182", after := #[{ on := 17, ground := Ground.guard }], guard := some (17, true) }) (v := ?_) rfl (by kernel_rfl) (by kernel_rfl) (by kernel_rfl) (fun _ _ _ h => h) (Or.inl ⟨by kernel_rfl, ?_⟩) (by assumption) ?_
      rotate_left
      focus
        intro w hSw
        (try dsimp only at hSw)
        go_simp
        all_goals (try with_reducible rfl)
      simp only [Act.put, List.setIfInBounds_toArray, List.set_cons_zero, List.set_cons_succ]
      refine wpAnyH_ready (rs := [19]) (by kernel_rfl) (by simp) ?_
      refine AllReadyH.cons (o := { dst := some 84, op := Op.call { callee := Callee.value (Operand.func 14), args := #[Operand.tmp 83], argTypes := #[22] }, type := 29, pos := "law.go:182", after := #[{ on := 18, ground := Ground.data }, { on := 17, ground := Ground.chain }, { on := 17, ground := Ground.guard }], guard := some (17, true) }) rfl (fun K hK => ?_) AllReadyH.nil
      go_simp
      refine (G5' _ (HB8.out.drew)).mono ?_
      (rintro e w9 ⟨a9, c9, rfl, o9, b9, hc9⟩)
      go_wp2_with fail
      refine hK.out _ _ ?_ (fun hHeld2 => ?_)
      · (try dsimp only); exact HS.out _ b9
      clear hK K hHeld
      have hHeld := hHeld2
      clear hHeld2
      simp only [List.setIfInBounds_toArray, List.set_cons_zero, List.set_cons_succ]
      refine wpAnyH_ready (rs := [20]) (by kernel_rfl) (by simp) ?_
      refine AllReadyH.cons (o := { dst := some 85, op := Op.convert 29 9 (Operand.tmp 84), type := 9, pos := "law.go:182", after := #[{ on := 19, ground := Ground.data }, { on := 17, ground := Ground.guard }], guard := some (17, true) }) rfl (fun K hK => ?_) AllReadyH.nil
      go_simp
      refine hK.out _ _ ?_ (fun hHeld2 => ?_)
      · (try dsimp only); exact HS.out _ b9
      clear hK K hHeld
      have hHeld := hHeld2
      clear hHeld2
      simp only [List.setIfInBounds_toArray, List.set_cons_zero, List.set_cons_succ]
      refine wpAnyH_take (i := 22) (oi := { dst := some 87, op := Op.binOp BinOp.eql 9 (Operand.tmp 85) (Operand.tmp 86) 9, type := 4, pos := "law.go:182", after := #[{ on := 20, ground := Ground.data }, { on := 21, ground := Ground.data }, { on := 17, ground := Ground.guard }], guard := some (17, true) }) (v := ?_) rfl (by kernel_rfl) (by kernel_rfl) (by kernel_rfl) (fun _ _ _ h => h) (Or.inl ⟨by kernel_rfl, ?_⟩) (by assumption) ?_
      rotate_left
      focus
        intro w hSw
        (try dsimp only at hSw)
        go_simp
        all_goals (try with_reducible rfl)
      simp only [Act.put, List.setIfInBounds_toArray, List.set_cons_zero, List.set_cons_succ]
      refine wpAnyH_take (i := 23) (oi := { dst := some 88, op := Op.pick (Operand.tmp 82) (Operand.tmp 87) (Operand.const (Value.bool false)), type := 4, pos := "law.go:182", after := #[{ on := 17, ground := Ground.data }, { on := 22, ground := Ground.data }], guard := none }) (v := ?_) rfl (by kernel_rfl) (by kernel_rfl) (by kernel_rfl) (fun _ _ _ h => h) (Or.inl ⟨by kernel_rfl, ?_⟩) (by assumption) ?_
      rotate_left
      focus
        intro w hSw
        (try dsimp only at hSw)
        go_simp
        all_goals (try with_reducible rfl)
      simp only [Act.put, List.setIfInBounds_toArray, List.set_cons_zero, List.set_cons_succ]
      refine wpAnyH_take (i := 24) (oi := { dst := some 89, op := Op.move (Operand.tmp 88), type := 4, pos := "law.go:182", after := #[{ on := 23, ground := Ground.data }, { on := 19, ground := Ground.chain }], guard := none }) (v := ?_) rfl (by kernel_rfl) (by kernel_rfl) (by kernel_rfl) (fun _ _ _ h => h) (Or.inl ⟨by kernel_rfl, ?_⟩) (by assumption) ?_
      rotate_left
      focus
        intro w hSw
        (try dsimp only at hSw)
        go_simp
        all_goals (try with_reducible rfl)
      simp only [Act.put, List.setIfInBounds_toArray, List.set_cons_zero, List.set_cons_succ]
      refine wpAnyH_take (i := 25) (oi := { dst := some 90, op := Op.move (Operand.tmp 9), type := 22, pos := "law.go:182", after := #[{ on := 24, ground := Ground.guard }], guard := some (24, true) }) (v := ?_) rfl (by kernel_rfl) (by kernel_rfl) (by kernel_rfl) (fun _ _ _ h => h) (Or.inl ⟨by kernel_rfl, ?_⟩) (by assumption) ?_
      rotate_left
      focus
        intro w hSw
        (try dsimp only at hSw)
        go_simp
        all_goals (try with_reducible rfl)
      simp only [Act.put, List.setIfInBounds_toArray, List.set_cons_zero, List.set_cons_succ]
      refine wpAnyH_take (i := 26) (oi := { dst := some 91, op := Op.move (Operand.tmp 14), type := 9, pos := "law.go:182", after := #[{ on := 24, ground := Ground.guard }], guard := some (24, true) }) (v := ?_) rfl (by kernel_rfl) (by kernel_rfl) (by kernel_rfl) (fun _ _ _ h => h) (Or.inl ⟨by kernel_rfl, ?_⟩) (by assumption) ?_
      rotate_left
      focus
        intro w hSw
        (try dsimp only at hSw)
        go_simp
        all_goals (try with_reducible rfl)
      simp only [Act.put, List.setIfInBounds_toArray, List.set_cons_zero, List.set_cons_succ]
      refine wpAnyH_take (i := 27) (oi := { dst := some 92, op := Op.call { callee := Callee.builtin Builtin.len, args := #[Operand.tmp 91], argTypes := #[9] }, type := 3, pos := "law.go:182", after := #[{ on := 26, ground := Ground.data }, { on := 24, ground := Ground.guard }], guard := some (24, true) }) (v := ?_) rfl (by kernel_rfl) (by kernel_rfl) (by kernel_rfl) (fun _ _ _ h => h) (Or.inl ⟨by kernel_rfl, ?_⟩) (by assumption) ?_
      rotate_left
      focus
        intro w hSw
        (try dsimp only at hSw)
        go_simp
        all_goals (try with_reducible rfl)
      simp only [Act.put, List.setIfInBounds_toArray, List.set_cons_zero, List.set_cons_succ]
      refine wpAnyH_take (i := 28) (oi := { dst := some 93, op := Op.binOp BinOp.add 3 (Operand.tmp 92) (Operand.const (Value.int IntKind.i64 1)) 3, type := 3, pos := "law.go:182", after := #[{ on := 27, ground := Ground.data }, { on := 24, ground := Ground.guard }], guard := some (24, true) }) (v := ?_) rfl (by kernel_rfl) (by kernel_rfl) (by kernel_rfl) (fun _ _ _ h => h) (Or.inl ⟨by kernel_rfl, ?_⟩) (by assumption) ?_
      rotate_left
      focus
        intro w hSw
        (try dsimp only at hSw)
        go_simp
        all_goals (try with_reducible rfl)
      simp only [Act.put, List.setIfInBounds_toArray, List.set_cons_zero, List.set_cons_succ]
      refine wpAnyH_ready (rs := [29]) (by kernel_rfl) (by simp) ?_
      refine AllReadyH.cons (o := { dst := some 94, op := Op.call { callee := Callee.value (Operand.func 21), args := #[Operand.tmp 90, Operand.tmp 93], argTypes := #[22, 3] }, type := 27, pos := "law.go:182", after := #[{ on := 25, ground := Ground.data }, { on := 28, ground := Ground.data }, { on := 24, ground := Ground.chain }, { on := 24, ground := Ground.guard }], guard := some (24, true) }) rfl (fun K hK => ?_) AllReadyH.nil
      go_simp
      refine (G8.out _ _ _ _ HQ.out o9 b9).mono ?_
      (rintro e w10 ⟨rfl, b10⟩)
      go_wp2_with fail
      refine hK.out _ _ ?_ (fun hHeld2 => ?_)
      · (try dsimp only); exact HS.out _ b10
      clear hK K hHeld
      have hHeld := hHeld2
      clear hHeld2
      simp only [List.setIfInBounds_toArray, List.set_cons_zero, List.set_cons_succ]
      refine wpAnyH_take (i := 30) (oi := { dst := some 95, op := Op.binOp BinOp.eql 27 (Operand.tmp 94) (Operand.const (Value.int IntKind.u16 1)) 27, type := 4, pos := "law.go:182", after := #[{ on := 29, ground := Ground.data }, { on := 24, ground := Ground.guard }], guard := some (24, true) }) (v := ?_) rfl (by kernel_rfl) (by kernel_rfl) (by kernel_rfl) (fun _ _ _ h => h) (Or.inl ⟨by kernel_rfl, ?_⟩) (by assumption) ?_
      rotate_left
      focus
        intro w hSw
        (try dsimp only at hSw)
        go_simp
        all_goals (try with_reducible rfl)
      simp only [Act.put, List.setIfInBounds_toArray, List.set_cons_zero, List.set_cons_succ]
      refine wpAnyH_take (i := 31) (oi := { dst := some 96, op := Op.pick (Operand.tmp 89) (Operand.tmp 95) (Operand.const (Value.bool false)), type := 4, pos := "law.go:182", after := #[{ on := 24, ground := Ground.data }, { on := 30, ground := Ground.data }], guard := none }) (v := ?_) rfl (by kernel_rfl) (by kernel_rfl) (by kernel_rfl) (fun _ _ _ h => h) (Or.inl ⟨by kernel_rfl, ?_⟩) (by assumption) ?_
      rotate_left
      focus
        intro w hSw
        (try dsimp only at hSw)
        go_simp
        all_goals (try with_reducible rfl)
      simp only [Act.put, List.setIfInBounds_toArray, List.set_cons_zero, List.set_cons_succ]
      refine wpAnyH_take (i := 32) (oi := { dst := some 8, op := Op.assign (Operand.tmp 96), type := 4, pos := "law.go:182", after := #[{ on := 31, ground := Ground.data }, { on := 29, ground := Ground.chain }, { on := 0, ground := Ground.phase }, { on := 1, ground := Ground.phase }, { on := 2, ground := Ground.phase }, { on := 3, ground := Ground.phase }, { on := 4, ground := Ground.phase }, { on := 5, ground := Ground.phase }, { on := 6, ground := Ground.phase }, { on := 7, ground := Ground.phase }, { on := 8, ground := Ground.phase }, { on := 9, ground := Ground.phase }, { on := 10, ground := Ground.phase }, { on := 11, ground := Ground.phase }, { on := 12, ground := Ground.phase }, { on := 13, ground := Ground.phase }, { on := 14, ground := Ground.phase }, { on := 15, ground := Ground.phase }, { on := 16, ground := Ground.phase }, { on := 17, ground := Ground.phase }, { on := 18, ground := Ground.phase }, { on := 19, ground := Ground.phase }, { on := 20, ground := Ground.phase }, { on := 21, ground := Ground.phase }, { on := 22, ground := Ground.phase }, { on := 23, ground := Ground.phase }, { on := 24, ground := Ground.phase }, { on := 25, ground := Ground.phase }, { on := 26, ground := Ground.phase }, { on := 27, ground := Ground.phase }, { on := 28, ground := Ground.phase }, { on := 29, ground := Ground.phase }, { on := 30, ground := Ground.phase }, { on := 31, ground := Ground.phase }], guard := none }) (v := ?_) rfl (by kernel_rfl) (by kernel_rfl) (by kernel_rfl) (fun _ _ _ h => h) (Or.inl ⟨by kernel_rfl, ?_⟩) (by assumption) ?_
      rotate_left
      focus
        intro w hSw
        (try dsimp only at hSw)
        go_simp
        all_goals (try with_reducible rfl)
      simp only [Act.put, List.setIfInBounds_toArray, List.set_cons_zero, List.set_cons_succ]
      refine wpAnyH_done (by kernel_rfl) ?_ _
      go_wp2
      go_ret
      exact ⟨rfl, b10⟩
end Go.Proofs.Ytpaekckahapngaa.disk
