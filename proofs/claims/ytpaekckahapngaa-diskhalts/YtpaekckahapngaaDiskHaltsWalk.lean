/-
  DiskHalts: a halted disk does nothing more, whatever is asked, till it crashes; behind the crash it does.
-/
import Derived.Test.YtpaekckahapngaaDiskDoesWalk
namespace Go.Proofs.Ytpaekckahapngaa.disk
open Go.ChangeShapes Go.WideShapes Go.ChangeAt Go.RowKit Go.Deep
open Go.Proofs.Ytpaekckahapngaa.bytes
set_option linter.unusedVariables false
set_option maxRecDepth 100000
set_option linter.unusedSimpArgs false

theorem two_one {B k1 k2 : Nat} {w : World} {d r : Dk} (h : Two B w k1 k2 d r) : OneF B w k1 d [] := by
  obtain ⟨v1, v2, h1, h2, ap⟩ := h
  exact ⟨v1, h1, fun u hu => by simp at hu⟩
theorem read_str {B k : Nat} {d : Dk} {us : List (Value × List UInt8)} {W : World} {q : Nat} (h : OneF B W k d us) (hq : d.b.length = q) :
    Calls Try.prog 14 #[.pointer (some ⟨k, 0, none⟩)] W fun e w' => ∃ a' c', e = .returned (.slice a' q c') ∧ OneF B w' k d us ∧ Below B W w' ∧ (convert 29 9 (.slice a' q c')).run Try.prog w' = .ok (.string ⟨d.b.toArray⟩) w' := by
  subst hq
  exact (read1 h).mono fun e w' ⟨a', c', q1, q2, q3, q4⟩ => ⟨a', c', q1, h.keep q3, q3.mono h.base, str_of q4.at_.mem _ c' rfl⟩
/-- what a halted disk answers -/
theorem halted_three {B k : Nat} {d : Dk} {W : World} (h : OneF B W k d []) (h0 : d.left = 0) :
    (∀ a n c y, Sl W a n c y → Calls Try.prog 12 #[.pointer (some ⟨k, 0, none⟩), .slice a n c] W fun e w' => e = .returned (.int .u16 100) ∧ OneF B w' k d [] ∧ Below B W w') ∧
    (Calls Try.prog 19 #[.pointer (some ⟨k, 0, none⟩)] W fun e w' => e = .returned (.int .u16 100) ∧ OneF B w' k d [] ∧ Below B W w') ∧
    (∀ n, Calls Try.prog 21 #[.pointer (some ⟨k, 0, none⟩), .int .i64 n] W fun e w' => e = .returned (.int .u16 100) ∧ OneF B w' k d [] ∧ Below B W w') ∧
    (Calls Try.prog 11 #[.pointer (some ⟨k, 0, none⟩)] W fun e w' => e = .returned (.bool true) ∧ w' = W) := by
  refine ⟨fun a n c y hS => ?_, ?_, fun n => ?_, ?_⟩
  · have := app1 h hS
    rw [app_halted h0] at this; exact this
  · have := sync1 h
    rw [sync_halted h0] at this; exact this
  · have := cut1 h n
    rw [cut_halted h0] at this; exact this
  · have := halted1 h
    rw [h0] at this; exact this

set_option maxHeartbeats 8000000 in
theorem halts_walk (a : Option Addr) (n c : Nat) (os : List Oq) (a' : Option Addr) (m c' : Nat) (ps : List Oq) (w : World) (hO : OpsIn w a os) (hn : os.length = n) (hn2 : n ≤ 9223372036854775807) (hP : OpsIn w a' ps) (hm : ps.length = m) (hm2 : m ≤ 9223372036854775807) :
    Calls Try.prog 6 #[.slice a n c, .slice a' m c'] w fun e w' => e = .returned (.bool true) ∧ Below w.heap.size w w' := by
  have K0 := fun W => known_any W
  have H0 := heavy_any n c a os w hO hn hn2
  have H0' := heavy_any m c' a' ps w hP hm hm2
  cases hv : hvy os with
  | true =>
    rw [hv] at H0
    clear hO hP H0'
    go_enter Try.func6, Try.ntmps6
    go_wp2_with (first | (go_at_call 15; with_reducible refine H0.mono ?_; rintro e w0 ⟨rfl, rfl⟩) | (go_at_call 13; with_reducible refine (K0 _).mono ?_; rintro e w1 ⟨rfl, b1⟩))
    go_ret
    exact ⟨rfl, b1⟩
  | false =>
  rw [hv] at H0
  obtain ⟨hl, ht⟩ := hvy_no hO.reach hv
  cases hv' : hvy ps with
  | true =>
    rw [hv'] at H0'
    clear hO hP
    go_enter Try.func6, Try.ntmps6
    go_wp2_with (first | (go_at_call 15; with_reducible refine H0.mono ?_; rintro e w0 ⟨rfl, rfl⟩) | (go_at_call 15; with_reducible refine H0'.mono ?_; rintro e w0 ⟨rfl, rfl⟩) | (go_at_call 13; with_reducible refine (K0 _).mono ?_; rintro e w1 ⟨rfl, b1⟩))
    go_ret
    exact ⟨rfl, b1⟩
  | false =>
  rw [hv'] at H0'
  obtain ⟨hl', ht'⟩ := hvy_no hP.reach hv'
  have H : Aside (OpsIn w a os ∧ os.length = n) := ⟨hO, hn⟩
  have HP : Aside (OpsIn w a' ps ∧ ps.length = m) := ⟨hP, hm⟩
  have hn3 : n ≤ 100 := by omega
  have hm3 : m ≤ 100 := by omega
  clear hv hv' hl ht hl' ht' hO hn hP hm
  have N1 : Aside (∀ W, Below w.heap.size w W → Calls Try.prog 9 #[.int .i64 6000] W fun e w' => e = .returned (.pointer (some ⟨W.heap.size, 0, none⟩)) ∧ DkIn 52 w.heap.size w' W.heap.size (.slice none 0 0) (new 6000) ∧ Below w.heap.size w w') := fun W hW =>
    (new_any w.heap.size 6000 W (by omega) hW.size).mono fun e w' ⟨q1, q2, q3⟩ => ⟨q1, q2, hW.trans (q3.mono hW.size)⟩
  have N2 : Aside (∀ W, Below w.heap.size w W → Calls Try.prog 16 #[.int .i64 6000] W fun e w' => e = .returned (.pointer (some ⟨W.heap.size, 0, none⟩)) ∧ DkIn 40 w.heap.size w' W.heap.size (.slice none 0 0) (new 6000) ∧ Below W.heap.size W w' ∧ Below w.heap.size w w') := fun W hW =>
    (refNew_any w.heap.size 6000 W (by omega) hW.size).mono fun e w' ⟨q1, q2, q3⟩ => ⟨q1, q2, q3, hW.trans (q3.mono hW.size)⟩
  go_enter Try.func6, Try.ntmps6
  go_wp2_with (first | (go_at_call 15; with_reducible refine H0.mono ?_; rintro e w0 ⟨rfl, rfl⟩) | (go_at_call 15; with_reducible refine H0'.mono ?_; rintro e w0 ⟨rfl, rfl⟩) | (go_at_call 13; with_reducible refine (K0 _).mono ?_; rintro e w1 ⟨rfl, b1⟩) | (go_at_call 9; with_reducible refine (N1.out _ b1).mono ?_; rintro e w2 ⟨rfl, o2, b2⟩) | (go_at_call 16; with_reducible refine (N2.out _ b2).mono ?_; rintro e w3 ⟨rfl, o3, q3, b3⟩))
  have S0 : Aside (∃ d, Two w0.heap.size w3 w1.heap.size w2.heap.size d d ∧ Below w0.heap.size w0 w3) := ⟨_, two_new o2 w3 q3 o3, b3⟩
  clear o2 o3 q3 b1 b2 b3 N1 N2 H0 H0' K0
  generalize w1.heap.size = k1 at S0 ⊢
  generalize w2.heap.size = k2 at S0 ⊢
  go_loopg [7] n (fun g1 vi wr => ∃ (k : Nat), vi = .int .i64 k ∧ k ≤ n ∧ n - k ≤ g1 ∧ Aside (∃ d, Two w0.heap.size wr k1 k2 d d ∧ Below w0.heap.size w0 wr))
  case atStart => exact ⟨0, rfl, Nat.zero_le _, Nat.le_refl _, S0.out⟩
  case round =>
    clear S0
    obtain ⟨k, rfl, hk, hg1, SK⟩ := hrel
    by_cases hlt : k < n
    · have hltz : (k : Int) < (n : Int) := by omega
      have hkl : k < os.length := by rw [H.out.2]; exact hlt
      obtain ⟨d, hT, hbl⟩ := SK.out
      obtain ⟨b, off, ha, hc⟩ := (H.out.1.keep hbl).get hkl
      subst ha
      obtain ⟨⟨r0, r1, r2⟩, -⟩ := hc k hkl
      have ho : OqOk w0 (oqn os k) := by
        obtain ⟨b', off', -, hc'⟩ := H.out.1.get hkl
        exact (hc' k hkl).2
      have D1 := does_at hT hkl ho rfl hbl
      clear hc ho hT hbl SK
      generalize (oqn os k).l.length = lq at r1 D1
      generalize (oqn os k).a = la at r1 D1
      generalize (oqn os k).c = lc at r1 D1
      generalize (oqn os k).q = kq at r0 D1
      generalize (oqn os k).n = kn at r2 D1
      go_wp2_with (go_at_call 17; with_reducible refine D1.mono ?_; rintro e w5 ⟨rfl, S5⟩)
      clear r0 r1 r2 D1
      go_roundg (n - (k + 1))
      case measure => omega
      case rel => exact ⟨k + 1, by go_num, by omega, by omega, S5.out⟩
    · have hltz : ¬ (k : Int) < (n : Int) := by omega
      obtain ⟨d, hT, hbl⟩ := SK.out
      have HL := halt1 (two_one hT) 0 (by omega)
      have BL : Aside (Below w0.heap.size w0 wr) := hbl
      have hd0 : (halt 0 d).left = 0 := rfl
      clear SK hT hbl H
      generalize halt 0 d = dh at HL hd0
      obtain ⟨q, hq⟩ : ∃ q, dh.b.length = q := ⟨_, rfl⟩
      have HQ : Hid (dh.b.length = q) := hq
      have HD : Aside (dh.left = 0) := hd0
      clear hq hd0
      have RS : Aside (∀ W, OneF w0.heap.size W k1 dh [] → Below w0.heap.size w0 W → Calls Try.prog 14 #[.pointer (some ⟨k1, 0, none⟩)] W fun e w' => ∃ a' c', e = .returned (.slice a' q c') ∧ OneF w0.heap.size w' k1 dh [] ∧ Below w0.heap.size w0 w' ∧ (convert 29 9 (.slice a' q c')).run Try.prog w' = .ok (.string ⟨dh.b.toArray⟩) w') := fun W h hb =>
        (read_str h HQ.out).mono fun e w' ⟨a', c', q1, q2, q3, q4⟩ => ⟨a', c', q1, q2, hb.trans q3, q4⟩
      go_wp2_with (first | (go_at_call 10; with_reducible refine HL.mono ?_; rintro e w6 ⟨rfl, o6, b6⟩) | (go_at_call 14; with_reducible refine (RS.out _ o6 (BL.out.trans b6)).mono ?_; rintro e w7 ⟨a7, c7, rfl, o7, b7, hc7⟩))
      have S7 : Aside (OneF w0.heap.size w7 k1 dh [] ∧ Below w0.heap.size w0 w7) := ⟨o7, b7⟩
      clear HL o6 b6 o7 b7 hc7 BL hltz hk hg1
      generalize hB : dh.b = lb at RS
      go_loopg [9] m (fun g1 vi wr => ∃ (j : Nat), vi = .int .i64 j ∧ j ≤ m ∧ m - j ≤ g1 ∧ Aside (OneF w0.heap.size wr k1 dh [] ∧ Below w0.heap.size w0 wr))
      case atStart => exact ⟨0, rfl, Nat.zero_le _, Nat.le_refl _, S7.out⟩
      case round =>
        clear S7
        obtain ⟨j, rfl, hj, hg2, SJ⟩ := hrel
        by_cases hlt2 : j < m
        · have hltz2 : (j : Int) < (m : Int) := by omega
          have hjl : j < ps.length := by rw [HP.out.2]; exact hlt2
          obtain ⟨b, off, ha, hc⟩ := HP.out.1.get hjl
          subst ha
          obtain ⟨⟨-, r1', r2'⟩, ho⟩ := hc j hjl
          clear hc
          have L1 := cell_lt r1'
          have L2 := cell_lt r2'
          have r1 : wr.cell? ⟨b, off + j * 3 + 1, none⟩ = _ := (SJ.out.2.cell (p := ⟨b, off + j * 3 + 1, none⟩) L1).trans r1'
          have R2 : Aside (∀ W, Below w0.heap.size w0 W → W.cell? ⟨b, off + j * 3 + 2, none⟩ = some (.int .i64 (oqn ps j).n)) := fun W hW => (hW.cell (p := ⟨b, off + j * 3 + 2, none⟩) L2).trans r2'
          have A1 : Aside (∀ W, OneF w0.heap.size W k1 dh [] → Below w0.heap.size w0 W → Calls Try.prog 12 #[.pointer (some ⟨k1, 0, none⟩), .slice (oqn ps j).a (oqn ps j).l.length (oqn ps j).c] W fun e w' => e = .returned (.int .u16 100) ∧ OneF w0.heap.size w' k1 dh [] ∧ Below w0.heap.size w0 w') := fun W h hb =>
            ((halted_three h HD.out).1 _ _ _ _ (ho.keep hb).sl).mono fun e w' ⟨q1, q2, q3⟩ => ⟨q1, q2, hb.trans q3⟩
          have A2 : Aside (∀ W, OneF w0.heap.size W k1 dh [] → Below w0.heap.size w0 W → Calls Try.prog 19 #[.pointer (some ⟨k1, 0, none⟩)] W fun e w' => e = .returned (.int .u16 100) ∧ OneF w0.heap.size w' k1 dh [] ∧ Below w0.heap.size w0 w' ∧ w'.cell? ⟨b, off + j * 3 + 2, none⟩ = some (.int .i64 (oqn ps j).n)) := fun W h hb =>
            (halted_three h HD.out).2.1.mono fun e w' ⟨q1, q2, q3⟩ => ⟨q1, q2, hb.trans q3, R2.out _ (hb.trans q3)⟩
          have A3 : Aside (∀ W, OneF w0.heap.size W k1 dh [] → Below w0.heap.size w0 W → Calls Try.prog 21 #[.pointer (some ⟨k1, 0, none⟩), .int .i64 (oqn ps j).n] W fun e w' => e = .returned (.int .u16 100) ∧ OneF w0.heap.size w' k1 dh [] ∧ Below w0.heap.size w0 w') := fun W h hb =>
            ((halted_three h HD.out).2.2.1 _).mono fun e w' ⟨q1, q2, q3⟩ => ⟨q1, q2, hb.trans q3⟩
          have A4 : Aside (∀ W, OneF w0.heap.size W k1 dh [] → Calls Try.prog 11 #[.pointer (some ⟨k1, 0, none⟩)] W fun e w' => e = .returned (.bool true) ∧ w' = W) := fun W h => (halted_three h HD.out).2.2.2
          obtain ⟨s1, s2⟩ := SJ.out
          clear ho L1 L2 r1' r2' SJ R2
          generalize (oqn ps j).l.length = lq at r1 A1
          generalize (oqn ps j).a = la at r1 A1
          generalize (oqn ps j).c = lc at r1 A1
          generalize (oqn ps j).n = kn at A2 A3
          go_wp2_with (first | (go_at_call 12; with_reducible refine (A1.out _ s1 s2).mono ?_; rintro e w8 ⟨rfl, o8, b8⟩) | (go_at_call 19; with_reducible refine (A2.out _ o8 b8).mono ?_; rintro e w9 ⟨rfl, o9, b9, q9⟩) | (go_at_call 21; with_reducible refine (A3.out _ o9 b9).mono ?_; rintro e w10 ⟨rfl, o10, b10⟩) | (go_at_call 11; with_reducible refine (A4.out _ o10).mono ?_; rintro e w11 ⟨rfl, e11⟩; subst e11))
          clear A1 A2 A3 A4 r1 q9 s1 s2 o8 b8 o9 b9
          have S11 : Aside (OneF w0.heap.size w11 k1 dh [] ∧ Below w0.heap.size w0 w11) := ⟨o10, b10⟩
          clear o10 b10
          go_roundg (m - (j + 1))
          case measure => omega
          case rel => exact ⟨j + 1, by go_num, by omega, by omega, S11.out⟩
        · have hltz2 : ¬ (j : Int) < (m : Int) := by omega
          obtain ⟨s1, s2⟩ := SJ.out
          have R1 := RS.out _ s1 s2
          have C1 : Aside (∀ W, OneF w0.heap.size W k1 dh [] → Below w0.heap.size w0 W → Calls Try.prog 20 #[.pointer (some ⟨k1, 0, none⟩), .int .i64 0] W fun e w' => e = .returned (.tuple #[]) ∧ OneF w0.heap.size w' k1 (crash 0 dh) [] ∧ Below w0.heap.size w0 w') := fun W h hb =>
            (crash1 h 0).mono fun e w' ⟨q1, q2, q3⟩ => ⟨q1, q2, hb.trans q3⟩
          have C2 : Aside (∀ W, OneF w0.heap.size W k1 (crash 0 dh) [] → Calls Try.prog 11 #[.pointer (some ⟨k1, 0, none⟩)] W fun e w' => e = .returned (.bool false) ∧ w' = W) := fun W h => halted1 h
          have C3 : Aside (∀ W, OneF w0.heap.size W k1 (crash 0 dh) [] → Below w0.heap.size w0 W → Calls Try.prog 12 #[.pointer (some ⟨k1, 0, none⟩), .slice none 0 0] W fun e w' => e = .returned (.int .u16 0) ∧ Below w0.heap.size w0 w') := fun W h hb => by
            have := app1 h (Sl.nil W)
            rw [app_free rfl (by have := h.fit.len; simpa using this)] at this
            exact this.mono fun e w' ⟨q1, q2, q3⟩ => ⟨q1, hb.trans q3⟩
          clear s1 s2 SJ RS
          go_wp2_with (first | (go_at_call 14; with_reducible refine R1.mono ?_; rintro e w8 ⟨a8, c8, rfl, o8, b8, hc8⟩) | (go_at_call 20; with_reducible refine (C1.out _ o8 b8).mono ?_; rintro e w9 ⟨rfl, o9, b9⟩) | (go_at_call 11; with_reducible refine (C2.out _ o9).mono ?_; rintro e w10 ⟨rfl, e10⟩; subst e10) | (go_at_call 12; with_reducible refine (C3.out _ o9 b9).mono ?_; rintro e w11 ⟨rfl, b11⟩))
          go_ret
          exact ⟨rfl, b11⟩
end Go.Proofs.Ytpaekckahapngaa.disk
