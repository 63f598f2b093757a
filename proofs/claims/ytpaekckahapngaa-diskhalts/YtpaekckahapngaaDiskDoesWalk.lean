/-
  DiskDoes: any calls on a disk answer as the chapter says, and behind each of them it has what it says.
-/
import Derived.Test.YtpaekckahapngaaDiskDoesF
import Derived.Test.YtpaekckahapngaaDiskKnown
import Derived.Test.YtpaekckahapngaaDiskOpen
namespace Go.Proofs.Ytpaekckahapngaa.disk
open Go.ChangeShapes Go.WideShapes Go.ChangeAt Go.RowKit Go.Deep
open Go.Proofs.Ytpaekckahapngaa.bytes
set_option linter.unusedVariables false
set_option maxRecDepth 100000
set_option linter.unusedSimpArgs false

/-- both are made -/
theorem two_new {B m : Nat} {w w1 : World} (h1 : DkIn 52 B w1 w.heap.size (.slice none 0 0) (new m)) (w2 : World) (hb : Below w1.heap.size w1 w2) (h2 : DkIn 40 B w2 w1.heap.size (.slice none 0 0) (new m)) : Two B w2 w.heap.size w1.heap.size (new m) (new m) :=
  ⟨_, _, h1.keep hb, h2, fun q hq => by cases hq⟩
/-- one call, in a round -/
theorem does_at {B k1 k2 k : Nat} {d : Dk} {os : List Oq} {W w : World} (hT : Two B W k1 k2 d d) (hk : k < os.length) (ho : OqOk w (oqn os k)) (hB : B = w.heap.size) (hb : Below B w W) :
    Calls Try.prog 17 #[.pointer (some ⟨k1, 0, none⟩), .pointer (some ⟨k2, 0, none⟩), .agg #[.int .u8 ((oqn os k).q : Nat), .slice (oqn os k).a (oqn os k).l.length (oqn os k).c, .int .i64 (oqn os k).n]] W fun e w' => e = .returned (.bool true) ∧ Aside (∃ d', Two B w' k1 k2 d' d' ∧ Below B w w') := by
  subst hB
  refine (does_any w.heap.size k1 k2 (oqn os k).q (oqn os k).l.length (oqn os k).c (oqn os k).a (oqn os k).l (oqn os k).n d W hT ho.kind (ho.keep hb).sl ho.sl.at_.low (by have := ho.reach; omega) ho.num).mono ?_
  rintro e w' ⟨h1, h2, h3⟩
  exact ⟨h1, _, h2, hb.trans h3⟩

set_option maxHeartbeats 8000000 in
theorem does_walk (a : Option Addr) (n c : Nat) (os : List Oq) (room : Int) (w : World) (hO : OpsIn w a os) (hn : os.length = n) (hn2 : n ≤ 9223372036854775807) :
    Calls Try.prog 4 #[.int .i64 room, .slice a n c] w fun e w' => e = .returned (.bool true) ∧ Below w.heap.size w w' := by
  have K0 := fun W => known_any W
  have H0 := heavy_any n c a os w hO hn hn2
  cases hv : hvy os with
  | true =>
    rw [hv] at H0
    clear hO
    go_enter Try.func4, Try.ntmps4
    go_wp2_with (first | (go_at_call 15; with_reducible refine H0.mono ?_; rintro e w0 ⟨rfl, rfl⟩) | (go_at_call 13; with_reducible refine (K0 _).mono ?_; rintro e w1 ⟨rfl, b1⟩))
    go_ret
    exact ⟨rfl, b1⟩
  | false =>
    rw [hv] at H0
    obtain ⟨hl, ht⟩ := hvy_no hO.reach hv
    have H : Aside (OpsIn w a os ∧ os.length = n) := ⟨hO, hn⟩
    have hn3 : n ≤ 100 := by omega
    clear hv hl ht hO hn
    by_cases hr : room < 0 ∨ 1048576 < room
    · have N1 := fun W => new_no room W hr
      have N2 := fun W => refNew_no room W hr
      go_enter Try.func4, Try.ntmps4
      go_wp2_with (first | (go_at_call 15; with_reducible refine H0.mono ?_; rintro e w0 ⟨rfl, rfl⟩) | (go_at_call 13; with_reducible refine (K0 _).mono ?_; rintro e w1 ⟨rfl, b1⟩) | (go_at_call 9; with_reducible refine (N1 _).mono ?_; rintro e w2 ⟨rfl, rfl⟩) | (go_at_call 16; with_reducible refine (N2 _).mono ?_; rintro e w3 ⟨rfl, rfl⟩))
      go_ret
      exact ⟨rfl, b1⟩
    obtain ⟨m, rfl⟩ : ∃ m : Nat, room = (m : Int) := ⟨room.toNat, by omega⟩
    have hm : m ≤ 1048576 := by omega
    have N1 : Aside (∀ W, Below w.heap.size w W → Calls Try.prog 9 #[.int .i64 (m : Nat)] W fun e w' => e = .returned (.pointer (some ⟨W.heap.size, 0, none⟩)) ∧ DkIn 52 w.heap.size w' W.heap.size (.slice none 0 0) (new m) ∧ Below w.heap.size w w') := fun W hW =>
      (new_any w.heap.size m W hm hW.size).mono fun e w' ⟨q1, q2, q3⟩ => ⟨q1, q2, hW.trans (q3.mono hW.size)⟩
    have N2 : Aside (∀ W, Below w.heap.size w W → Calls Try.prog 16 #[.int .i64 (m : Nat)] W fun e w' => e = .returned (.pointer (some ⟨W.heap.size, 0, none⟩)) ∧ DkIn 40 w.heap.size w' W.heap.size (.slice none 0 0) (new m) ∧ Below W.heap.size W w' ∧ Below w.heap.size w w') := fun W hW =>
      (refNew_any w.heap.size m W hm hW.size).mono fun e w' ⟨q1, q2, q3⟩ => ⟨q1, q2, q3, hW.trans (q3.mono hW.size)⟩
    have B0 : Aside (Below w.heap.size w w) := Below.refl _ _
    clear hr
    go_enter Try.func4, Try.ntmps4
    go_wp2_with (first | (go_at_call 15; with_reducible refine H0.mono ?_; rintro e w0 ⟨rfl, rfl⟩) | (go_at_call 13; with_reducible refine (K0 _).mono ?_; rintro e w1 ⟨rfl, b1⟩) | (go_at_call 9; with_reducible refine (N1.out _ b1).mono ?_; rintro e w2 ⟨rfl, o2, b2⟩) | (go_at_call 16; with_reducible refine (N2.out _ b2).mono ?_; rintro e w3 ⟨rfl, o3, q3, b3⟩))
    have S0 : Aside (∃ d, Two w0.heap.size w3 w1.heap.size w2.heap.size d d ∧ Below w0.heap.size w0 w3) := ⟨_, two_new o2 w3 q3 o3, b3⟩
    clear o2 o3 q3 b1 b2 b3 N1 N2 H0 K0 B0
    generalize w1.heap.size = k1 at S0 ⊢
    generalize w2.heap.size = k2 at S0 ⊢
    go_loopg [7] n (fun g1 vi wr => ∃ (k : Nat), vi = .int .i64 k ∧ k ≤ n ∧ n - k ≤ g1 ∧ Aside (∃ d, Two w0.heap.size wr k1 k2 d d ∧ Below w0.heap.size w0 wr))
    case atStart => exact ⟨0, rfl, Nat.zero_le _, Nat.le_refl _, S0.out⟩
    case round =>
      clear S0
      obtain ⟨k, rfl, hk, hg1, SK⟩ := hrel
      by_cases hlt : k < n
      · have hltz : (k : Int) < (n : Int) := by omega
        have hkl : k < os.length := by rw [H.out.2]; exact hlt
        obtain ⟨d, hT, hbl⟩ := SK.out
        obtain ⟨b, off, ha, hc⟩ := (H.out.1.keep hbl).get hkl
        subst ha
        obtain ⟨⟨r0, r1, r2⟩, -⟩ := hc k hkl
        have ho : OqOk w0 (oqn os k) := by
          obtain ⟨b', off', -, hc'⟩ := H.out.1.get hkl
          exact (hc' k hkl).2
        have D1 := does_at hT hkl ho rfl hbl
        clear hc ho hT hbl SK
        generalize (oqn os k).l.length = lq at r1 D1
        generalize (oqn os k).a = la at r1 D1
        generalize (oqn os k).c = lc at r1 D1
        generalize (oqn os k).q = kq at r0 D1
        generalize (oqn os k).n = kn at r2 D1
        go_upto_region 11 with (go_at_call 17; with_reducible refine D1.mono ?_; rintro e w5 ⟨rfl, S5⟩)
        clear r0 r1 r2 D1
        obtain ⟨d', T5, b5⟩ := S5.out
        clear S5
        obtain ⟨q, hq⟩ : ∃ q, d'.b.length = q := ⟨_, rfl⟩
        obtain ⟨h9, hh9⟩ : ∃ h9, decide (d'.left = 0) = h9 := ⟨_, rfl⟩
        have R1 : Aside (∀ W, Below w5.heap.size w5 W → Calls Try.prog 14 #[.pointer (some ⟨k1, 0, none⟩)] W fun e w' => ∃ a' c', e = .returned (.slice a' q c') ∧ Below w5.heap.size w5 w' ∧ (convert 29 9 (.slice a' q c')).run Try.prog w' = .ok (.string ⟨d'.b.toArray⟩) w') := fun W hW => by
          subst hq
          refine (read_l (T5.keep hW)).mono ?_
          rintro e w' ⟨v', rfl, ho, hb⟩
          obtain ⟨a', c', rfl, hS⟩ := ho.sl (by have := T5.len; omega)
          exact ⟨a', c', rfl, hW.trans (hb.mono hW.size), str_of hS.at_.mem _ c' rfl⟩
        have R2 : Aside (∀ W, Below w5.heap.size w5 W → Calls Try.prog 11 #[.pointer (some ⟨k1, 0, none⟩)] W fun e w' => e = .returned (.bool h9) ∧ w' = W) := fun W hW => by
          rw [← hh9]; exact halted_l (T5.keep hW)
        have R3 : Aside (∀ W, Below w5.heap.size w5 W → Calls Try.prog 18 #[.pointer (some ⟨k2, 0, none⟩)] W fun e w' => e = .returned (.bool h9) ∧ w' = W) := fun W hW => by
          rw [← hh9]; exact halted_r (T5.keep hW)
        obtain ⟨a2, c2, HS⟩ : ∃ a2 c2, Aside (∀ W, Below w5.heap.size w5 W → W.cell? ⟨k2, 0, none⟩ = some (.slice a2 q c2) ∧ (convert 29 9 (.slice a2 q c2)).run Try.prog W = .ok (.string ⟨d'.b.toArray⟩) W) := by
          obtain ⟨v1, v2, hd1, hd2, -⟩ := T5
          obtain ⟨a2, c2, rfl, hS⟩ := hd2.own.sl (by have := hd2.len_max; omega)
          refine ⟨a2, c2, fun W hW => ?_⟩
          rw [← hq]
          exact ⟨(hd2.keep hW).c0, str_of (hS.keep hW).at_.mem _ c2 rfl⟩
        have B5 : Aside (Below w5.heap.size w5 w5) := Below.refl _ _
        have S6 : Aside (∀ W, Below w5.heap.size w5 W → ∃ d, Two w0.heap.size W k1 k2 d d ∧ Below w0.heap.size w0 W) := fun W hW => ⟨d', T5.keep hW, b5.trans (hW.mono T5.base)⟩
        have q12 := HS.out _ B5.out.drew
        clear hq hh9 T5 b5
        generalize d'.b = lb at *
        refine wp_region_held_drew (S := fun W => W.cell? ⟨k2, 0, none⟩ = some (.slice a2 q c2) ∧ (convert 29 9 (.slice a2 q c2)).run Try.prog W = .ok (.string ⟨lb.toArray⟩) W) (by kernel_rfl) ?_ (fun hHeld => ?_)
        · (try dsimp only); exact q12
        change wpAnyH _ _ _ _ _ 20 #[false, false, false, false, false, false, false, false, false, false, false, false, false, false, false, false, false, false, false, false] _ _
        refine wpAnyH_take (i := 0) (oi := { dst := some 45, op := Op.move (Operand.tmp 8), type := 4, pos := "law.go:69", after := #[], guard := none }) (v := ?_) rfl (by kernel_rfl) (by kernel_rfl) (by kernel_rfl) (fun _ _ _ h => h) (Or.inl ⟨by kernel_rfl, ?_⟩) (by assumption) ?_
        rotate_left
        focus
          intro w hSw
          (try dsimp only at hSw)
          go_simp
          all_goals (try with_reducible rfl)
        simp only [Act.put, List.setIfInBounds_toArray, List.set_cons_zero, List.set_cons_succ]
        refine wpAnyH_take (i := 1) (oi := { dst := some 46, op := Op.unOp UnOp.not 4 (Operand.tmp 45), type := 4, pos := "law.go:69", after := #[{ on := 0, ground := Ground.data }], guard := none }) (v := ?_) rfl (by kernel_rfl) (by kernel_rfl) (by kernel_rfl) (fun _ _ _ h => h) (Or.inl ⟨by kernel_rfl, ?_⟩) (by assumption) ?_
        rotate_left
        focus
          intro w hSw
          (try dsimp only at hSw)
          go_simp
          all_goals (try with_reducible rfl)
        simp only [Act.put, List.setIfInBounds_toArray, List.set_cons_zero, List.set_cons_succ]
        refine wpAnyH_take (i := 2) (oi := { dst := some 47, op := Op.move (Operand.tmp 46), type := 4, pos := "law.go:69", after := #[{ on := 1, ground := Ground.data }], guard := none }) (v := ?_) rfl (by kernel_rfl) (by kernel_rfl) (by kernel_rfl) (fun _ _ _ h => h) (Or.inl ⟨by kernel_rfl, ?_⟩) (by assumption) ?_
        rotate_left
        focus
          intro w hSw
          (try dsimp only at hSw)
          go_simp
          all_goals (try with_reducible rfl)
        simp only [Act.put, List.setIfInBounds_toArray, List.set_cons_zero, List.set_cons_succ]
        refine wpAnyH_take (i := 3) (oi := { dst := some 48, op := Op.move (Operand.tmp 5), type := 22, pos := "law.go:69", after := #[{ on := 2, ground := Ground.guard }], guard := some (2, false) }) (v := ?_) rfl (by kernel_rfl) (by kernel_rfl) (by kernel_rfl) (fun _ _ _ h => h) (Or.inl ⟨by kernel_rfl, ?_⟩) (by assumption) ?_
        rotate_left
        focus
          intro w hSw
          (try dsimp only at hSw)
          go_simp
          all_goals (try with_reducible rfl)
        simp only [Act.put, List.setIfInBounds_toArray, List.set_cons_zero, List.set_cons_succ]
        refine wpAnyH_take (i := 6) (oi := { dst := some 51, op := Op.move (Operand.tmp 6), type := 34, pos := "law.go:69", after := #[{ on := 2, ground := Ground.guard }], guard := some (2, false) }) (v := ?_) rfl (by kernel_rfl) (by kernel_rfl) (by kernel_rfl) (fun _ _ _ h => h) (Or.inl ⟨by kernel_rfl, ?_⟩) (by assumption) ?_
        rotate_left
        focus
          intro w hSw
          (try dsimp only at hSw)
          go_simp
          all_goals (try with_reducible rfl)
        simp only [Act.put, List.setIfInBounds_toArray, List.set_cons_zero, List.set_cons_succ]
        refine wpAnyH_take (i := 7) (oi := { dst := some 52, op := Op.nilCheck (Operand.tmp 51), type := 0, pos := "law.go:69", after := #[{ on := 6, ground := Ground.data }, { on := 2, ground := Ground.guard }], guard := some (2, false) }) (v := ?_) rfl (by kernel_rfl) (by kernel_rfl) (by kernel_rfl) (fun _ _ _ h => h) (Or.inl ⟨by kernel_rfl, ?_⟩) (by assumption) ?_
        rotate_left
        focus
          intro w hSw
          (try dsimp only at hSw)
          go_simp
          all_goals (try with_reducible rfl)
        simp only [Act.put, List.setIfInBounds_toArray, List.set_cons_zero, List.set_cons_succ]
        refine wpAnyH_take (i := 8) (oi := { dst := some 53, op := Op.fieldAddr 40 (Operand.tmp 52) 0, type := 0, pos := "law.go:69", after := #[{ on := 7, ground := Ground.data }, { on := 2, ground := Ground.guard }], guard := some (2, false) }) (v := ?_) rfl (by kernel_rfl) (by kernel_rfl) (by kernel_rfl) (fun _ _ _ h => h) (Or.inl ⟨by kernel_rfl, ?_⟩) (by assumption) ?_
        rotate_left
        focus
          intro w hSw
          (try dsimp only at hSw)
          go_simp
          all_goals (try with_reducible rfl)
        simp only [Act.put, List.setIfInBounds_toArray, List.set_cons_zero, List.set_cons_succ]
        refine wpAnyH_take (i := 9) (oi := { dst := some 54, op := Op.load 29 (Operand.tmp 53), type := 29, pos := "law.go:69", after := #[{ on := 8, ground := Ground.data }, { on := 2, ground := Ground.guard }], guard := some (2, false) }) (v := ?_) rfl (by kernel_rfl) (by kernel_rfl) (by kernel_rfl) (fun _ _ _ h => h) (Or.inl ⟨by kernel_rfl, ?_⟩) (by assumption) ?_
        rotate_left
        focus
          intro w hSw
          (try dsimp only at hSw)
          go_simp
          all_goals (try with_reducible rfl)
        simp only [Act.put, List.setIfInBounds_toArray, List.set_cons_zero, List.set_cons_succ]
        refine wpAnyH_take (i := 10) (oi := { dst := some 55, op := Op.convert 29 9 (Operand.tmp 54), type := 9, pos := "law.go:69", after := #[{ on := 9, ground := Ground.data }, { on := 2, ground := Ground.guard }], guard := some (2, false) }) (v := ?_) rfl (by kernel_rfl) (by kernel_rfl) (by kernel_rfl) (fun _ _ _ h => h) (Or.inl ⟨by kernel_rfl, ?_⟩) (by assumption) ?_
        rotate_left
        focus
          intro w hSw
          (try dsimp only at hSw)
          go_simp
          all_goals (try with_reducible rfl)
        simp only [Act.put, List.setIfInBounds_toArray, List.set_cons_zero, List.set_cons_succ]
        refine wpAnyH_ready (rs := [4]) (by kernel_rfl) (by simp) ?_
        refine AllReadyH.cons (o := { dst := some 49, op := Op.call { callee := Callee.value (Operand.func 14), args := #[Operand.tmp 48], argTypes := #[22] }, type := 29, pos := "law.go:69", after := #[{ on := 3, ground := Ground.data }, { on := 2, ground := Ground.chain }, { on := 2, ground := Ground.guard }], guard := some (2, false) }) rfl (fun K hK => ?_) AllReadyH.nil
        go_simp
        refine (R1.out _ (B5.out.drew)).mono ?_
        (rintro e w6 ⟨a6, c6, rfl, b6, hc6⟩)
        go_wp2_with fail
        refine hK.out _ _ ?_ (fun hHeld2 => ?_)
        · (try dsimp only); exact HS.out _ b6
        clear hK K hHeld
        have hHeld := hHeld2
        clear hHeld2
        simp only [List.setIfInBounds_toArray, List.set_cons_zero, List.set_cons_succ]
        refine wpAnyH_ready (rs := [5]) (by kernel_rfl) (by simp) ?_
        refine AllReadyH.cons (o := { dst := some 50, op := Op.convert 29 9 (Operand.tmp 49), type := 9, pos := "law.go:69", after := #[{ on := 4, ground := Ground.data }, { on := 2, ground := Ground.guard }], guard := some (2, false) }) rfl (fun K hK => ?_) AllReadyH.nil
        go_simp
        refine hK.out _ _ ?_ (fun hHeld2 => ?_)
        · (try dsimp only); exact HS.out _ b6
        clear hK K hHeld
        have hHeld := hHeld2
        clear hHeld2
        simp only [List.setIfInBounds_toArray, List.set_cons_zero, List.set_cons_succ]
        refine wpAnyH_take (i := 11) (oi := { dst := some 56, op := Op.binOp BinOp.neq 9 (Operand.tmp 50) (Operand.tmp 55) 9, type := 4, pos := "law.go:69", after := #[{ on := 5, ground := Ground.data }, { on := 10, ground := Ground.data }, { on := 2, ground := Ground.guard }], guard := some (2, false) }) (v := ?_) rfl (by kernel_rfl) (by kernel_rfl) (by kernel_rfl) (fun _ _ _ h => h) (Or.inl ⟨by kernel_rfl, ?_⟩) (by assumption) ?_
        rotate_left
        focus
          intro w hSw
          (try dsimp only at hSw)
          go_simp
          all_goals (try with_reducible rfl)
        simp only [Act.put, List.setIfInBounds_toArray, List.set_cons_zero, List.set_cons_succ]
        refine wpAnyH_take (i := 12) (oi := { dst := some 57, op := Op.pick (Operand.tmp 47) (Operand.const (Value.bool true)) (Operand.tmp 56), type := 4, pos := "law.go:69", after := #[{ on := 2, ground := Ground.data }, { on := 11, ground := Ground.data }], guard := none }) (v := ?_) rfl (by kernel_rfl) (by kernel_rfl) (by kernel_rfl) (fun _ _ _ h => h) (Or.inl ⟨by kernel_rfl, ?_⟩) (by assumption) ?_
        rotate_left
        focus
          intro w hSw
          (try dsimp only at hSw)
          go_simp
          all_goals (try with_reducible rfl)
        simp only [Act.put, List.setIfInBounds_toArray, List.set_cons_zero, List.set_cons_succ]
        refine wpAnyH_take (i := 13) (oi := { dst := some 58, op := Op.move (Operand.tmp 57), type := 4, pos := "law.go:69", after := #[{ on := 12, ground := Ground.data }, { on := 4, ground := Ground.chain }], guard := none }) (v := ?_) rfl (by kernel_rfl) (by kernel_rfl) (by kernel_rfl) (fun _ _ _ h => h) (Or.inl ⟨by kernel_rfl, ?_⟩) (by assumption) ?_
        rotate_left
        focus
          intro w hSw
          (try dsimp only at hSw)
          go_simp
          all_goals (try with_reducible rfl)
        simp only [Act.put, List.setIfInBounds_toArray, List.set_cons_zero, List.set_cons_succ]
        refine wpAnyH_take (i := 14) (oi := { dst := some 59, op := Op.move (Operand.tmp 5), type := 22, pos := "law.go:69", after := #[{ on := 13, ground := Ground.guard }], guard := some (13, false) }) (v := ?_) rfl (by kernel_rfl) (by kernel_rfl) (by kernel_rfl) (fun _ _ _ h => h) (Or.inl ⟨by kernel_rfl, ?_⟩) (by assumption) ?_
        rotate_left
        focus
          intro w hSw
          (try dsimp only at hSw)
          go_simp
          all_goals (try with_reducible rfl)
        simp only [Act.put, List.setIfInBounds_toArray, List.set_cons_zero, List.set_cons_succ]
        refine wpAnyH_take (i := 16) (oi := { dst := some 61, op := Op.move (Operand.tmp 6), type := 34, pos := "law.go:69", after := #[{ on := 13, ground := Ground.guard }], guard := some (13, false) }) (v := ?_) rfl (by kernel_rfl) (by kernel_rfl) (by kernel_rfl) (fun _ _ _ h => h) (Or.inl ⟨by kernel_rfl, ?_⟩) (by assumption) ?_
        rotate_left
        focus
          intro w hSw
          (try dsimp only at hSw)
          go_simp
          all_goals (try with_reducible rfl)
        simp only [Act.put, List.setIfInBounds_toArray, List.set_cons_zero, List.set_cons_succ]
        refine wpAnyH_ready (rs := [15]) (by kernel_rfl) (by simp) ?_
        refine AllReadyH.cons (o := { dst := some 60, op := Op.call { callee := Callee.value (Operand.func 11), args := #[Operand.tmp 59], argTypes := #[22] }, type := 4, pos := "law.go:69", after := #[{ on := 14, ground := Ground.data }, { on := 13, ground := Ground.chain }, { on := 13, ground := Ground.guard }], guard := some (13, false) }) rfl (fun K hK => ?_) AllReadyH.nil
        go_simp
        refine (R2.out _ b6).mono ?_
        (rintro e w7 ⟨rfl, e7⟩)
        subst e7
        go_wp2_with fail
        refine hK.out _ _ ?_ (fun hHeld2 => ?_)
        · (try dsimp only); exact hHeld
        clear hK K hHeld
        have hHeld := hHeld2
        clear hHeld2
        simp only [List.setIfInBounds_toArray, List.set_cons_zero, List.set_cons_succ]
        refine wpAnyH_ready (rs := [17]) (by kernel_rfl) (by simp) ?_
        refine AllReadyH.cons (o := { dst := some 62, op := Op.call { callee := Callee.value (Operand.func 18), args := #[Operand.tmp 61], argTypes := #[34] }, type := 4, pos := "law.go:69", after := #[{ on := 16, ground := Ground.data }, { on := 15, ground := Ground.chain }, { on := 13, ground := Ground.guard }], guard := some (13, false) }) rfl (fun K hK => ?_) AllReadyH.nil
        go_simp
        refine (R3.out _ b6).mono ?_
        (rintro e w8 ⟨rfl, e8⟩)
        subst e8
        go_wp2_with fail
        refine hK.out _ _ ?_ (fun hHeld2 => ?_)
        · (try dsimp only); exact hHeld
        clear hK K hHeld
        have hHeld := hHeld2
        clear hHeld2
        simp only [List.setIfInBounds_toArray, List.set_cons_zero, List.set_cons_succ]
        refine wpAnyH_take (i := 18) (oi := { dst := some 63, op := Op.binOp BinOp.neq 4 (Operand.tmp 60) (Operand.tmp 62) 4, type := 4, pos := "law.go:69", after := #[{ on := 15, ground := Ground.data }, { on := 17, ground := Ground.data }, { on := 13, ground := Ground.guard }], guard := some (13, false) }) (v := ?_) rfl (by kernel_rfl) (by kernel_rfl) (by kernel_rfl) (fun _ _ _ h => h) (Or.inl ⟨by kernel_rfl, ?_⟩) (by assumption) ?_
        rotate_left
        focus
          intro w hSw
          (try dsimp only at hSw)
          go_simp
          all_goals (try with_reducible rfl)
        simp only [Act.put, List.setIfInBounds_toArray, List.set_cons_zero, List.set_cons_succ]
        refine wpAnyH_take (i := 19) (oi := { dst := some 64, op := Op.pick (Operand.tmp 58) (Operand.const (Value.bool true)) (Operand.tmp 63), type := 4, pos := "law.go:69", after := #[{ on := 13, ground := Ground.data }, { on := 18, ground := Ground.data }], guard := none }) (v := ?_) rfl (by kernel_rfl) (by kernel_rfl) (by kernel_rfl) (fun _ _ _ h => h) (Or.inl ⟨by kernel_rfl, ?_⟩) (by assumption) ?_
        rotate_left
        focus
          intro w hSw
          (try dsimp only at hSw)
          go_simp
          all_goals (try with_reducible rfl)
        simp only [Act.put, List.setIfInBounds_toArray, List.set_cons_zero, List.set_cons_succ]
        refine wpAnyH_done (by kernel_rfl) ?_ _
        have S7 := S6.out _ b6
        go_wp2
        go_roundg (n - (k + 1))
        case measure => omega
        case rel => exact ⟨k + 1, by go_num, by omega, by omega, S7⟩
      · have hltz : ¬ (k : Int) < (n : Int) := by omega
        obtain ⟨d, hT, hbl⟩ := SK.out
        clear SK hT
        go_wp2
        go_ret
        exact ⟨rfl, hbl⟩
end Go.Proofs.Ytpaekckahapngaa.disk
