/-
  DiskCalls: a disk that halts behind some calls does so many, and no more.
-/
import Derived.Test.YtpaekckahapngaaDiskKnown
namespace Go.Proofs.Ytpaekckahapngaa.disk
open Go.ChangeShapes Go.WideShapes Go.ChangeAt Go.RowKit Go.Deep
open Go.Proofs.Ytpaekckahapngaa.bytes
set_option linter.unusedVariables false
set_option maxRecDepth 100000
set_option linter.unusedSimpArgs false

theorem sl_one (W : World) (i : Nat) (h : i < 256) : Sl (W.alloc (.cells #[.int .u8 (i : Nat)] 5)) (some ⟨W.heap.size, 0, none⟩) 1 1 [UInt8.ofNat i] := by
  have := sl_lit W [UInt8.ofNat i] (by simp)
  have e : (Lib.byteCells [UInt8.ofNat i]).toArray = #[Value.int .u8 (i : Nat)] := by
    simp [Lib.byteCells]; omega
  rw [e] at this
  exact this
/-- behind i calls -/
structure CallsAt (B k N i : Nat) (W : World) (d : Dk) : Prop where
  one : OneF B W k d []
  len : d.b.length = min i N
  left : d.left = ((N - i : Nat) : Int)
  room : d.room = 1000
theorem CallsAt.step {B k N i : Nat} {W : World} {d : Dk} (h : CallsAt B k N i W d) (hi : i < 60) (hN : N < 60) : ∃ z : Nat, (z = if i < N then 0 else 100) ∧
    Calls Try.prog 12 #[.pointer (some ⟨k, 0, none⟩), .slice (some ⟨W.heap.size, 0, none⟩) 1 1] (W.alloc (.cells #[.int .u8 (i : Nat)] 5)) fun e w' => e = .returned (.int .u16 (z : Nat)) ∧ Aside (∃ d', CallsAt B k N (i + 1) w' d') ∧ Below B W w' := by
  have hb : Below W.heap.size W (W.alloc (.cells #[.int .u8 (i : Nat)] 5)) := (Below.refl _ _).alloc (Nat.le_refl _) _
  have C := app1 (h.one.keep hb) (sl_one W i (by omega))
  refine ⟨_, rfl, ?_⟩
  have hl := h.len
  have hf := h.left
  have hr := h.room
  by_cases hlt : i < N
  · rw [if_pos hlt]
    have e : app [UInt8.ofNat i] d = (⟨d.b ++ [UInt8.ofNat i], d.lasts, d.room, less d.left⟩, 0) := by
      unfold app
      rw [if_neg (by omega), if_neg (by rw [List.length_singleton]; omega)]
    rw [e] at C
    refine C.mono ?_
    rintro e w' ⟨h1, h2, h3⟩
    refine ⟨h1, ⟨_, h2, ?_, ?_, hr⟩, (hb.mono h.one.base).trans h3⟩
    · show (d.b ++ [UInt8.ofNat i]).length = _
      rw [List.length_append, List.length_singleton]; omega
    · show less d.left = _
      unfold less; rw [if_pos (by omega)]; omega
  · rw [if_neg hlt]
    rw [app_halted (by omega)] at C
    refine C.mono ?_
    rintro e w' ⟨h1, h2, h3⟩
    exact ⟨h1, ⟨d, h2, by rw [hl]; omega, by rw [hf]; omega, hr⟩, (hb.mono h.one.base).trans h3⟩

set_option maxHeartbeats 4000000 in
theorem calls_walk (n c : Nat) (w : World) (hn : n < 256) (hc : c < 256) :
    Calls Try.prog 3 #[.int .u8 (n : Nat), .int .u8 (c : Nat)] w fun e w' => e = .returned (.bool true) ∧ Below w.heap.size w w' := by
  have K := known_any
  have C0 : Calls Try.prog 9 #[.int .i64 1000] w fun e w' => e = .returned (.pointer (some ⟨w.heap.size, 0, none⟩)) ∧ OneF w.heap.size w' w.heap.size (new 1000) [] ∧ Below w.heap.size w w' := new1 (B := w.heap.size) (w := w) 1000 (by omega) (Nat.le_refl _)
  obtain ⟨N, hN⟩ : ∃ N, n % 40 = N := ⟨_, rfl⟩
  obtain ⟨C, hC⟩ : ∃ C, c % 60 = C := ⟨_, rfl⟩
  have hN2 : N < 40 := by omega
  have hC2 : C < 60 := by omega
  have e1 : (n : Int) % 40 = (N : Int) := by omega
  have e2 : (c : Int) % 60 = (C : Int) := by omega
  clear hN hC
  have A1 : ∀ W k, OneF w.heap.size W k (new 1000) [] → Calls Try.prog 10 #[.pointer (some ⟨k, 0, none⟩), .int .i64 (N : Int)] W fun e w' => e = .returned (.tuple #[]) ∧ CallsAt w.heap.size k N 0 w' (halt N (new 1000)) ∧ Below w.heap.size W w' := fun W k h =>
    (halt1 h N (by omega)).mono fun e w' ⟨h1, h2, h3⟩ => ⟨h1, ⟨h2, by simp [halt, new], by show max (N : Int) (-1) = _; omega, rfl⟩, h3⟩
  go_enter Try.func3, Try.ntmps3
  go_wp2_with (first | (go_at_call 9; with_reducible refine C0.mono ?_; rintro e w1 ⟨rfl, o1, b1⟩) | (go_at_call 10; with_reducible refine (A1 _ _ o1).mono ?_; rintro e w2 ⟨rfl, o2, b2⟩))
  have S0 : Aside (∃ d, CallsAt w.heap.size w.heap.size N 0 w2 d ∧ Below w.heap.size w w2) := ⟨_, o2, b1.trans b2⟩
  clear C0 A1 o1 b1 o2 b2
  generalize hk : w.heap.size = k at S0 ⊢
  go_loopg [6, 7] C (fun g1 vd vi wr => ∃ (i : Nat), vi = .int .i64 i ∧ vd = .int .i64 (min i N : Nat) ∧ i ≤ C ∧ C - i ≤ g1 ∧ Aside (∃ d, CallsAt k k N i wr d ∧ Below k w wr))
  case atStart => exact ⟨0, rfl, by simp, by omega, by omega, S0.out⟩
  case round =>
    clear S0
    obtain ⟨i, rfl, rfl, hi, hg1, SI⟩ := hrel
    by_cases hlt : i < C
    · have hltz : (i : Int) < (C : Int) := by omega
      obtain ⟨d, hd, hbl⟩ := SI.out
      have H1 := halted1 hd.one
      have hdl : decide (d.left = 0) = decide ((N : Int) ≤ (i : Int)) := by rw [hd.left]; congr 1; apply propext; omega
      rw [hdl] at H1
      obtain ⟨z, hz, H2⟩ := hd.step (by omega) (by omega)
      have B1 : Aside (Below k w wr) := hbl
      clear hd hbl hdl SI
      by_cases hiN : i < N
      · rw [if_pos hiN] at hz
        subst hz
        have hiz : ¬ (N : Int) ≤ (i : Int) := by omega
        have hm : ((min i N : Nat) : Int) = (i : Int) := by omega
        rw [hm]
        go_wp2_with (first | (go_at_call 11; with_reducible refine H1.mono ?_; rintro e w3 ⟨rfl, rfl⟩) | (go_at_call 12; with_reducible refine H2.mono ?_; rintro e w4 ⟨rfl, o4, b4⟩))
        have S4 : Aside (∃ d, CallsAt k k N (i + 1) w4 d ∧ Below k w w4) := by
          obtain ⟨d', h⟩ := o4.out
          exact ⟨d', h, B1.out.trans b4⟩
        clear H1 H2 o4 b4 B1
        go_roundg (C - (i + 1))
        case measure => omega
        case rel => exact ⟨i + 1, by go_num, by rw [show ((min (i + 1) N : Nat) : Int) = (i : Int) + 1 by omega], by omega, by omega, S4.out⟩
      · rw [if_neg hiN] at hz
        subst hz
        have hiz : (N : Int) ≤ (i : Int) := by omega
        have hm : ((min i N : Nat) : Int) = (N : Int) := by omega
        rw [hm]
        go_wp2_with (first | (go_at_call 11; with_reducible refine H1.mono ?_; rintro e w3 ⟨rfl, rfl⟩) | (go_at_call 12; with_reducible refine H2.mono ?_; rintro e w4 ⟨rfl, o4, b4⟩))
        have S4 : Aside (∃ d, CallsAt k k N (i + 1) w4 d ∧ Below k w w4) := by
          obtain ⟨d', h⟩ := o4.out
          exact ⟨d', h, B1.out.trans b4⟩
        clear H1 H2 o4 b4 B1
        go_roundg (C - (i + 1))
        case measure => omega
        case rel => exact ⟨i + 1, by go_num, by rw [show ((min (i + 1) N : Nat) : Int) = (N : Int) by omega], by omega, by omega, S4.out⟩
    · have hltz : ¬ (i : Int) < (C : Int) := by omega
      have hiC : i = C := by omega
      subst hiC
      obtain ⟨d, hd, hbl⟩ := SI.out
      have K1 := K wr
      have R1 : Aside (∀ W, Below wr.heap.size wr W → Calls Try.prog 14 #[.pointer (some ⟨k, 0, none⟩)] W fun e w' => ∃ a c, e = .returned (.slice a (min i N) c) ∧ Below k w w') := fun W hW =>
        (read1 (hd.one.keep hW)).mono fun e w' ⟨a, c, h1, h2, h3, h4⟩ => ⟨a, c, by rw [h1, hd.len], (hbl.trans (hW.mono hd.one.base)).trans (h3.mono (Nat.le_trans hd.one.base hW.size))⟩
      clear hd hbl SI hltz
      obtain ⟨q, hq⟩ : ∃ q, min i N = q := ⟨_, rfl⟩
      rw [hq] at R1 ⊢
      by_cases hCN : (i : Int) < (N : Int)
      · have hqi : q = i := by omega
        clear hq
        subst hqi
        go_wp2_with (first | (go_at_call 13; with_reducible refine K1.mono ?_; rintro e w3 ⟨rfl, b3⟩) | (go_at_call 14; with_reducible refine (R1.out _ b3).mono ?_; rintro e w4 ⟨a4, c4, rfl, b4⟩))
        go_ret
        exact ⟨rfl, by rw [hk]; exact b4⟩
      · have hqi : q = N := by omega
        clear hq
        subst hqi
        go_wp2_with (first | (go_at_call 13; with_reducible refine K1.mono ?_; rintro e w3 ⟨rfl, b3⟩) | (go_at_call 14; with_reducible refine (R1.out _ b3).mono ?_; rintro e w4 ⟨a4, c4, rfl, b4⟩))
        go_ret
        exact ⟨rfl, by rw [hk]; exact b4⟩
end Go.Proofs.Ytpaekckahapngaa.disk
