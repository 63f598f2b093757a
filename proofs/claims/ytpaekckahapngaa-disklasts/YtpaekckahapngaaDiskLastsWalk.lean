/-
  DiskLasts: behind a crash there is what lasted, and so many bytes more of what there was; behind another one the same.
-/
import Derived.Test.YtpaekckahapngaaDiskKnown
import Derived.Test.YtpaekckahapngaaDiskOpen
namespace Go.Proofs.Ytpaekckahapngaa.disk
open Go.ChangeShapes Go.WideShapes Go.ChangeAt Go.RowKit Go.Deep
open Go.Proofs.Ytpaekckahapngaa.bytes
set_option linter.unusedVariables false
set_option maxRecDepth 100000
set_option linter.unusedSimpArgs false

/-! ### the bytes of lists -/
def flat (ls : List Lr) : List UInt8 := (ls.map (·.l)).flatten
theorem flat_take {ls : List Lr} {k : Nat} (h : k < ls.length) : flat (ls.take (k + 1)) = flat (ls.take k) ++ (ln ls k).l := by
  unfold flat
  rw [List.take_succ_eq_append_getElem h, List.map_append, List.flatten_append, ln_eq h]
  simp
theorem flat_take_le (ls : List Lr) (k : Nat) : (flat (ls.take k)).length ≤ (flat ls).length := by
  have : flat ls = flat (ls.take k) ++ flat (ls.drop k) := by
    unfold flat
    rw [← List.flatten_append, ← List.map_append, List.take_append_drop]
  rw [this, List.length_append]; omega
/-- the sum of the lengths, as it is reckoned -/
def swl (ls : List Lr) : Int := ls.foldl (fun s o => wrap64 (s + (o.l.length : Int))) 0
theorem swl_take {ls : List Lr} {k : Nat} (h : k < ls.length) : swl (ls.take (k + 1)) = wrap64 (swl (ls.take k) + ((ln ls k).l.length : Int)) := by
  unfold swl
  rw [List.take_succ_eq_append_getElem h, List.foldl_append, ln_eq h]
  rfl
theorem flat_len_le {ls : List Lr} (hr : ∀ i, i < ls.length → (ln ls i).l.length ≤ 140737488355328) : ∀ k, k ≤ ls.length → (flat (ls.take k)).length ≤ k * 140737488355328
  | 0, _ => by simp [flat]
  | k + 1, h => by
    have h1 := flat_len_le hr k (by omega)
    have h2 := hr k (by omega)
    rw [flat_take (by omega), List.length_append, Nat.add_mul]; omega
theorem swl_tot {ls : List Lr} (hr : ∀ i, i < ls.length → (ln ls i).l.length ≤ 140737488355328) : ∀ k, k ≤ 100 → k ≤ ls.length → swl (ls.take k) = ((flat (ls.take k)).length : Nat)
  | 0, _, _ => by simp [swl, flat]
  | k + 1, h1, h2 => by
    have hk : k < ls.length := by omega
    have h3 := flat_len_le hr k (by omega)
    have h5 := hr k hk
    rw [swl_take hk, flat_take hk, swl_tot hr k (by omega) (by omega), List.length_append]
    have h4 : k * 140737488355328 ≤ 100 * 140737488355328 := Nat.mul_le_mul_right _ (by omega)
    unfold wrap64; omega

/-- between two rounds -/
structure LastsAt (B : Nat) (w : World) (k1 : Nat) (F : List UInt8) (s : Nat) (v : Value) (W : World) : Prop where
  one : OneF B W k1 ⟨F, s, 10000, -1⟩ [(v, F)]
  bel : Below B w W
theorem LastsAt.app {B k1 s : Nat} {w W : World} {F : List UInt8} {v : Value} (h : LastsAt B w k1 F s v W) {a : Option Addr} {n c : Nat} {y : List UInt8} (hS : Sl W a n c y) (hl : F.length + y.length ≤ 10000) :
    Calls Try.prog 12 #[.pointer (some ⟨k1, 0, none⟩), .slice a n c] W fun e w' => e = .returned (.int .u16 0) ∧ OneF B w' k1 ⟨F ++ y, s, 10000, -1⟩ [(v, F)] ∧ Below B w w' := by
  have := app1 h.one hS
  rw [app_free (d := ⟨F, s, 10000, -1⟩) rfl hl] at this
  exact this.mono fun e w' ⟨q1, q2, q3⟩ => ⟨q1, q2, h.bel.trans q3⟩
theorem LastsAt.sync {B k1 s : Nat} {w W : World} {F : List UInt8} {v : Value} (h : LastsAt B w k1 F s v W) :
    Calls Try.prog 19 #[.pointer (some ⟨k1, 0, none⟩)] W fun e w' => e = .returned (.int .u16 0) ∧ LastsAt B w k1 F F.length v w' :=
  (sync1 h.one).mono fun e w' ⟨q1, q2, q3⟩ => ⟨q1, q2, h.bel.trans q3⟩
theorem crash_is (keep : Int) (F : List UInt8) (s : Nat) : crash keep ⟨F, s, 10000, -1⟩ = ⟨F.take (kept keep ⟨F, s, 10000, -1⟩), kept keep ⟨F, s, 10000, -1⟩, 10000, -1⟩ := rfl
theorem kept_is (keep : Int) (F : List UInt8) (s : Nat) : kept keep ⟨F, s, 10000, -1⟩ = s + min (max keep 0).toNat (F.length - s) := rfl

set_option maxHeartbeats 8000000 in
theorem lasts_walk (a : Option Addr) (n c : Nat) (ls : List Lr) (sy : Nat) (keep again : Int) (w : World) (hL : ListsIn w a ls) (hx : ∀ i, i < ls.length → Sl w (ln ls i).a (ln ls i).l.length (ln ls i).cap (ln ls i).l ∧ (ln ls i).l.length ≤ 140737488355328) (hn : ls.length = n) (hn2 : n ≤ 9223372036854775807) (hsy : sy < 256) :
    Calls Try.prog 5 #[.slice a n c, .int .u8 (sy : Nat), .int .i64 keep, .int .i64 again] w fun e w' => e = .returned (.bool true) ∧ Below w.heap.size w w' := by
  have K0 := known_any w
  have H : Aside (ListsIn w a ls ∧ ls.length = n ∧ ∀ i, i < ls.length → Sl w (ln ls i).a (ln ls i).l.length (ln ls i).cap (ln ls i).l ∧ (ln ls i).l.length ≤ 140737488355328) := ⟨hL, hn, hx⟩
  obtain ⟨S, hS⟩ : ∃ S, sy % 20 = S := ⟨_, rfl⟩
  have hS2 : S < 20 := by omega
  have e1 : (sy : Int) % 20 = (S : Int) := by omega
  clear hL hx hn hS
  go_enter Try.func5, Try.ntmps5
  go_wp2_with fail
  go_loopg [9, 10] n (fun g1 vs vi wr => ∃ (k : Nat) (s : Int), vi = .int .i64 k ∧ vs = .int .i64 s ∧ k ≤ n ∧ n - k ≤ g1 ∧ wr = w ∧ Aside (s = swl (ls.take k)))
  case atStart => exact ⟨0, 0, rfl, rfl, Nat.zero_le _, Nat.le_refl _, rfl, by show _ = _; simp [swl]⟩
  case round =>
    obtain ⟨k, s, rfl, rfl, hk, hg1, rfl, SK⟩ := hrel
    by_cases hlt : k < n
    · have hltz : (k : Int) < (n : Int) := by omega
      have hkl : k < ls.length := by rw [H.out.2.1]; exact hlt
      obtain ⟨b, off, ha, hc⟩ := H.out.1.get hkl
      subst ha
      have r0 := (hc k hkl).1
      clear hc
      have S2 : Aside (wrap64 (s + ((ln ls k).l.length : Int)) = swl (ls.take (k + 1))) := by
        show _ = _
        rw [SK.out, swl_take hkl]
      clear SK
      generalize (ln ls k).l.length = q at r0 S2
      generalize (ln ls k).a = la at r0
      generalize (ln ls k).cap = lc at r0
      go_wp2
      go_roundg (n - (k + 1))
      case measure => omega
      case rel => exact ⟨k + 1, _, by go_num, rfl, by omega, by omega, rfl, S2⟩
    · have hltz : ¬ (k : Int) < (n : Int) := by omega
      have hkn : k = n := by omega
      subst hkn
      by_cases h1 : 5000 < s
      · clear SK
        go_wp2_with (go_at_call 13; with_reducible refine K0.mono ?_; rintro e w1 ⟨rfl, b1⟩)
        go_ret
        exact ⟨rfl, b1⟩
      by_cases h2 : (100 : Int) < (k : Int)
      · clear SK
        go_wp2_with (go_at_call 13; with_reducible refine K0.mono ?_; rintro e w1 ⟨rfl, b1⟩)
        go_ret
        exact ⟨rfl, b1⟩
      have HF : Aside ((flat ls).length ≤ 5000) := by
        have h3 := swl_tot (fun i hi => (H.out.2.2 i hi).2) ls.length (by rw [H.out.2.1]; omega) (Nat.le_refl _)
        rw [List.take_length] at h3
        have h4 := SK.out
        rw [List.take_of_length_le (by rw [H.out.2.1]; omega)] at h4
        show _ ≤ _
        omega
      have N1 : Aside (∀ W, Below wr.heap.size wr W → Calls Try.prog 9 #[.int .i64 10000] W fun e w' => e = .returned (.pointer (some ⟨W.heap.size, 0, none⟩)) ∧ LastsAt wr.heap.size wr W.heap.size [] 0 (.slice none 0 0) w') := fun W hW => by
        refine (new1 (B := wr.heap.size) (w := W) 10000 (by omega) hW.size).mono ?_
        rintro e w' ⟨q1, ⟨v, q2, -⟩, q3⟩
        refine ⟨q1, ⟨⟨v, q2, fun u hu => ?_⟩, hW.trans (q3.mono hW.size)⟩⟩
        obtain rfl : u = (.slice none 0 0, []) := by simpa using hu
        exact ⟨Bs.none _ _, fun q hq hq2 => by cases hq2⟩
      clear SK hltz
      go_wp2_with (first | (go_at_call 13; with_reducible refine K0.mono ?_; rintro e w1 ⟨rfl, b1⟩) | (go_at_call 9; with_reducible refine (N1.out _ b1).mono ?_; rintro e w2 ⟨rfl, o2⟩))
      have S0 : Aside (LastsAt wr.heap.size wr w1.heap.size [] 0 (.slice none 0 0) w2) := o2
      clear K0 N1 b1 o2 hk hg1
      generalize w1.heap.size = k1 at S0 ⊢
      generalize hW0 : wr = w0 at H S0 ⊢
      have HW : Hid (wr = w0) := hW0
      clear hW0
      go_loopg [12, 13, 14] k (fun g1 va vl vi wr => ∃ (i fl cv s : Nat) (av : Option Addr), vi = .int .i64 i ∧ va = .slice av fl cv ∧ vl = .int .i64 (s : Nat) ∧ i ≤ k ∧ k - i ≤ g1 ∧ fl ≤ cv ∧ fl ≤ 5000 ∧ Aside (LastsAt w0.heap.size w0 k1 (flat (ls.take i)) s (.slice av fl cv) wr ∧ (flat (ls.take i)).length = fl))
      case atStart => exact ⟨0, 0, 0, 0, none, rfl, rfl, rfl, Nat.zero_le _, Nat.le_refl _, Nat.le_refl _, by omega, S0.out, rfl⟩
      case round =>
        clear S0
        obtain ⟨i, fl, cv, s, av, rfl, rfl, rfl, hi, hg2, hcv, hfl, SI⟩ := hrel
        by_cases hlt2 : i < k
        · have hltz2 : (i : Int) < (k : Int) := by omega
          have hkl : i < ls.length := by rw [H.out.2.1]; exact hlt2
          obtain ⟨b, off, ha, hc⟩ := H.out.1.get hkl
          subst ha
          have r0' := (hc i hkl).1
          clear hc
          have L0 := cell_lt r0'
          have hy5 : fl + (ln ls i).l.length ≤ 5000 := by
            have h1 := flat_take_le ls (i + 1)
            rw [flat_take hkl, List.length_append, SI.out.2] at h1
            exact Nat.le_trans h1 HF.out
          have R0 : Aside (∀ W, Below w0.heap.size w0 W → W.cell? ⟨b, off + i, none⟩ = some (.slice (ln ls i).a (ln ls i).l.length (ln ls i).cap) ∧ Sl W (ln ls i).a (ln ls i).l.length (ln ls i).cap (ln ls i).l) := fun W hW => ⟨(hW.cell (p := ⟨b, off + i, none⟩) L0).trans r0', (H.out.2.2 i hkl).1.keep hW⟩
          have HN : Aside (flat (ls.take (i + 1)) = flat (ls.take i) ++ (ln ls i).l) := flat_take hkl
          have SJ : Aside (LastsAt w0.heap.size w0 k1 (flat (ls.take i)) s (.slice av fl cv) wr ∧ (flat (ls.take i)).length = fl) := SI.out
          clear r0' L0 SI
          generalize flat (ls.take i) = F at SJ HN
          generalize hyl : (ln ls i).l = y at R0 HN hy5
          generalize (ln ls i).a = la at R0
          generalize (ln ls i).cap = lc at R0
          clear hyl
          obtain ⟨yl, hyl⟩ : ∃ yl, y.length = yl := ⟨_, rfl⟩
          rw [hyl] at R0 hy5
          have HY : Hid (y.length = yl) := hyl
          obtain ⟨r1, hsl⟩ := R0.out wr SJ.out.1.bel
          have A1 := SJ.out.1.app hsl (by rw [SJ.out.2, hyl]; omega)
          have A2 : Calls Try.prog 12 #[.pointer (some ⟨k1, 0, none⟩), .slice la yl lc] wr fun e w' => e = .returned (.int .u16 0) ∧ OneF w0.heap.size w' k1 ⟨F ++ y, s, 10000, -1⟩ [(.slice av fl cv, F)] ∧ Below w0.heap.size w0 w' ∧ w'.cell? ⟨b, off + i, none⟩ = some (.slice la yl lc) ∧ Sl w' la yl lc y ∧ Bs w0.heap.size w' (.slice av fl cv) F := A1.mono fun e w' ⟨q1, q2, q3⟩ => ⟨q1, q2, q3, (R0.out w' q3).1, (R0.out w' q3).2, q2.row (by simp)⟩
          have HFL : Hid (F.length = fl) := SJ.out.2
          obtain ⟨q, hq⟩ : ∃ q, fl + yl = q := ⟨_, rfl⟩
          have hq5 : q ≤ 5000 := by omega
          have HQ : Hid (F.length + yl = q) := by show _ = _; rw [HFL.out]; exact hq
          have HQ2 : Hid ((F ++ y).length = q) := by show _ = _; rw [List.length_append, HY.out]; exact HQ.out
          clear A1 hsl hyl hq SJ R0
          go_upto_region 18 with (go_at_call 12; with_reducible refine A2.mono ?_; rintro e w4 ⟨rfl, o4, b4, r4, sl4, bs4⟩)
          clear A2 r1
          have hB4 : w0.heap.size ≤ w4.heap.size := b4.size
          have HG : Aside (∀ a' c' w', Bs w0.heap.size w' (.slice a' q c') (F ++ y) → Gr w4 (.slice av fl cv) w' (.slice a' q c') → LastsAt w0.heap.size w0 k1 (F ++ y) s (.slice a' q c') w' ∧ q ≤ c') := fun a' c' w' h1 h2 => by
            obtain ⟨t1, t2⟩ := o4.grow h2 h1
            refine ⟨⟨t1, b4.trans t2⟩, ?_⟩
            obtain ⟨a9, c9, e9, hb9⟩ := h1.bytes
            injection e9 with x1 x2 x3
            subst x3
            have := hb9.cap
            rw [HQ2.out] at this; exact this
          clear o4
          go_wp2_with (at_builtin; refine wpList_bytes rfl (.tmp 58) (.tmp 62) rfl w0.heap.size _ F rfl bs4 la yl lc y rfl sl4 q HQ.out (by omega) hB4 ?_; intro a5 c5 w5 h5 g5; refine Hid.out ?_)
          refine hid ?_
          obtain ⟨L5, hc5⟩ := HG.out a5 c5 w5 h5 g5
          have S5 : Aside (LastsAt w0.heap.size w0 k1 (flat (ls.take (i + 1))) s (.slice a5 q c5) w5 ∧ (flat (ls.take (i + 1))).length = q) := by
            rw [HN.out]; exact ⟨L5, HQ2.out⟩
          have A6 : Aside (∀ F s, LastsAt w0.heap.size w0 k1 F s (.slice a5 q c5) w5 → F.length = q → Calls Try.prog 19 #[.pointer (some ⟨k1, 0, none⟩)] w5 fun e w' => e = .returned (.int .u16 0) ∧ LastsAt w0.heap.size w0 k1 F q (.slice a5 q c5) w') := fun F s h hq => by
            subst hq
            exact h.sync
          clear HG h5 g5 bs4 sl4 b4 hB4 r4 L5 HN HY HFL HQ HQ2
          by_cases hiS : (i : Int) < (S : Int)
          · have A7 := A6.out _ _ S5.out.1 S5.out.2
            go_wp2_with (go_at_call 19; with_reducible refine A7.mono ?_; rintro e w6 ⟨rfl, o6⟩)
            have S6 : Aside (LastsAt w0.heap.size w0 k1 (flat (ls.take (i + 1))) q (.slice a5 q c5) w6 ∧ (flat (ls.take (i + 1))).length = q) := ⟨o6, S5.out.2⟩
            clear S5 A6 A7 o6
            go_roundg (k - (i + 1))
            case measure => omega
            case rel => exact ⟨i + 1, q, c5, q, a5, by go_num, rfl, rfl, by omega, by omega, hc5, hq5, S6⟩
          · clear A6
            go_wp2
            go_roundg (k - (i + 1))
            case measure => omega
            case rel => exact ⟨i + 1, q, c5, s, a5, by go_num, rfl, rfl, by omega, by omega, hc5, hq5, S5⟩
        · have hltz2 : ¬ (i : Int) < (k : Int) := by omega
          have SJ : Aside (LastsAt w0.heap.size w0 k1 (flat ls) s (.slice av fl cv) wr ∧ (flat ls).length = fl) := by
            have := SI.out
            rwa [List.take_of_length_le (by rw [H.out.2.1]; omega)] at this
          clear SI HF H
          generalize flat ls = F at SJ
          have hsl : s ≤ fl := by
            have h1 : s ≤ F.length := SJ.out.1.one.fit.lasts
            have h2 := SJ.out.2
            omega
          obtain ⟨j, hj⟩ : ∃ j, kept keep ⟨F, s, 10000, -1⟩ = j := ⟨_, rfl⟩
          have hjl : (j : Int) = (s : Int) + min (max keep 0) ((fl - s : Nat) : Int) := by
            rw [← hj, kept_is, SJ.out.2]; omega
          have hj2 : j ≤ fl := by omega
          have hjc : j ≤ cv := by omega
          have HD : Aside (crash keep ⟨F, s, 10000, -1⟩ = ⟨F.take j, j, 10000, -1⟩ ∧ (F.take j).length = j ∧ (crash again ⟨F.take j, j, 10000, -1⟩).b = F.take j) := by
            have h1 := crash_is keep F s
            rw [hj] at h1
            have h2 := crash_again (d := ⟨F, s, 10000, -1⟩) (by show s ≤ F.length; rw [SJ.out.2]; exact hsl) keep again
            rw [h1] at h2
            exact ⟨h1, by rw [List.length_take, SJ.out.2]; omega, h2⟩
          have C1 : Calls Try.prog 20 #[.pointer (some ⟨k1, 0, none⟩), .int .i64 keep] wr fun e w' => e = .returned (.tuple #[]) ∧ OneF w0.heap.size w' k1 ⟨F.take j, j, 10000, -1⟩ [(.slice av fl cv, F)] ∧ Below w0.heap.size w0 w' := by
            have := crash1 SJ.out.1.one keep
            rw [HD.out.1] at this
            exact this.mono fun e w' ⟨q1, q2, q3⟩ => ⟨q1, q2, SJ.out.1.bel.trans q3⟩
          have C2 : Aside (∀ W us dd, dd.b = F.take j → OneF w0.heap.size W k1 dd us → Below w0.heap.size w0 W → Calls Try.prog 14 #[.pointer (some ⟨k1, 0, none⟩)] W fun e w' => ∃ a c, e = .returned (.slice a j c) ∧ OneF w0.heap.size w' k1 dd ((.slice a j c, F.take j) :: us) ∧ Below w0.heap.size w0 w' ∧ Below W.heap.size W w' ∧ (convert 29 9 (.slice a j c)).run Try.prog w' = .ok (.string ⟨(F.take j).toArray⟩) w') := fun W us dd hdd h hb => by
            have hlen : dd.b.length = j := by rw [hdd]; exact HD.out.2.1
            refine (read1 h).mono ?_
            rintro e w' ⟨a, c, q1, q2, q3, q4⟩
            rw [hlen, hdd] at q2
            rw [hlen] at q1 q4
            rw [hdd] at q4
            exact ⟨a, c, q1, q2, hb.trans (q3.mono hb.size), q3, str_of q4.at_.mem j c HD.out.2.1⟩
          have C3 : Aside (∀ W us, OneF w0.heap.size W k1 ⟨F.take j, j, 10000, -1⟩ us → Below w0.heap.size w0 W → Calls Try.prog 20 #[.pointer (some ⟨k1, 0, none⟩), .int .i64 again] W fun e w' => e = .returned (.tuple #[]) ∧ OneF w0.heap.size w' k1 (crash again ⟨F.take j, j, 10000, -1⟩) us ∧ Below w0.heap.size w0 w') := fun W us h hb =>
            (crash1 h again).mono fun e w' ⟨q1, q2, q3⟩ => ⟨q1, q2, hb.trans q3⟩
          have HFJ : Hid (F.length = fl) := SJ.out.2
          clear SJ hj
          go_upto_region 24 with (first | (go_at_call 20; with_reducible refine C1.mono ?_; rintro e w6 ⟨rfl, o6, b6⟩) | (go_at_call 14; with_reducible refine (C2.out _ _ _ rfl o6 b6).mono ?_; rintro e w7 ⟨a7, c7, rfl, o7, b7, bb7, hc7⟩))
          clear C1 o6 b6 hc7 bb7
          by_cases p0 : 0 < keep
          · by_cases p1 : (fl : Int) - (s : Int) < keep
            · have hjl' := hjl
              have hjv : (s : Int) + ((fl : Int) - (s : Int)) = (j : Int) := by omega
              have hw : IntKind.i64.wrap ((s : Int) + ((fl : Int) - (s : Int))) = (j : Int) := by rw [IntKind.wrap_i64]; omega
              have hjv2 : wrap64 ((s : Int) + ((fl : Int) - (s : Int))) = (j : Int) := by unfold wrap64; omega
              clear hjl hjl'
              go_upto_region 28 with (go_at_call 20; with_reducible refine (C3.out _ _ o7 b7).mono ?_; rintro e w8 ⟨rfl, o8, b8⟩)
              have HB8 : Aside (Below w8.heap.size w8 w8) := Below.refl _ _
              have HS : Aside (∀ W, Below w8.heap.size w8 W → (convert 29 9 (.slice a7 j c7)).run Try.prog W = .ok (.string ⟨(F.take j).toArray⟩) W ∧ (convert 29 9 (.slice av j cv)).run Try.prog W = .ok (.string ⟨(F.take j).toArray⟩) W) := fun W hW => by
                have t1 := (o8.row (u := .slice a7 j c7) (l := F.take j) (by simp)).keep hW
                have t2 := Bs.cut ((show Bs w0.heap.size w8 (.slice av fl cv) F from o8.row (by simp)).keep hW) j (by rw [HFJ.out]; exact hj2)
                obtain ⟨x1, y1, z1, u1⟩ := t1.bytes
                obtain ⟨x2, y2, z2, u2⟩ := t2.bytes
                injection z1 with za zb zc
                injection z2 with zd ze zf
                subst za zc zd zf
                exact ⟨str_of u1.mem j _ HD.out.2.1, str_of u2.mem j _ HD.out.2.1⟩
              have R9 : ∀ W, Below w8.heap.size w8 W → Calls Try.prog 14 #[.pointer (some ⟨k1, 0, none⟩)] W fun e w' => ∃ a c, e = .returned (.slice a j c) ∧ Below w0.heap.size w0 w' ∧ Below w8.heap.size w8 w' ∧ (convert 29 9 (.slice a j c)).run Try.prog w' = .ok (.string ⟨(F.take j).toArray⟩) w' := fun W hW => (C2.out W _ _ HD.out.2.2 (o8.keep hW) (b8.trans (hW.mono b8.size))).mono fun e w' ⟨a, c, q1, q2, q3, q4, q5⟩ => ⟨a, c, q1, q3, hW.trans (q4.mono hW.size), q5⟩
              have q12 := HS.out _ HB8.out.drew
              clear o8 C2 C3 HD o7 b7
              generalize F.take j = tj at *
              go_wp2_with fail
              refine wp_region_held_drew (S := fun W => (convert 29 9 (.slice a7 j c7)).run Try.prog W = .ok (.string ⟨tj.toArray⟩) W ∧ (convert 29 9 (.slice av j cv)).run Try.prog W = .ok (.string ⟨tj.toArray⟩) W) (by kernel_rfl) ?_ (fun hHeld => ?_)
              · (try dsimp only); exact q12
              change wpAnyH _ _ _ _ _ 16 #[false, false, false, false, false, false, false, false, false, false, false, false, false, false, false, false] _ _
              refine wpAnyH_take (i := 0) (oi := { dst := some 92, op := Op.move (Operand.tmp 15), type := 29, pos := "law.go:108", after := #[], guard := none }) (v := ?_) rfl (by kernel_rfl) (by kernel_rfl) (by kernel_rfl) (fun _ _ _ h => h) (Or.inl ⟨by kernel_rfl, ?_⟩) (by assumption) ?_
              rotate_left
              focus
                intro w hSw
                (try dsimp only at hSw)
                go_simp
                all_goals (try with_reducible rfl)
              simp only [Act.put, List.setIfInBounds_toArray, List.set_cons_zero, List.set_cons_succ]
              refine wpAnyH_take (i := 1) (oi := { dst := some 93, op := Op.convert 29 9 (Operand.tmp 92), type := 9, pos := "law.go:108", after := #[{ on := 0, ground := Ground.data }], guard := none }) (v := ?_) rfl (by kernel_rfl) (by kernel_rfl) (by kernel_rfl) (fun _ _ _ h => h) (Or.inl ⟨by kernel_rfl, ?_⟩) (by assumption) ?_
              rotate_left
              focus
                intro w hSw
                (try dsimp only at hSw)
                go_simp
                all_goals (try with_reducible rfl)
              simp only [Act.put, List.setIfInBounds_toArray, List.set_cons_zero, List.set_cons_succ]
              refine wpAnyH_take (i := 2) (oi := { dst := some 94, op := Op.move (Operand.tmp 12), type := 29, pos := "law.go:108", after := #[], guard := none }) (v := ?_) rfl (by kernel_rfl) (by kernel_rfl) (by kernel_rfl) (fun _ _ _ h => h) (Or.inl ⟨by kernel_rfl, ?_⟩) (by assumption) ?_
              rotate_left
              focus
                intro w hSw
                (try dsimp only at hSw)
                go_simp
                all_goals (try with_reducible rfl)
              simp only [Act.put, List.setIfInBounds_toArray, List.set_cons_zero, List.set_cons_succ]
              refine wpAnyH_take (i := 3) (oi := { dst := some 95, op := Op.move (Operand.tmp 16), type := 3, pos := "law.go:108", after := #[], guard := none }) (v := ?_) rfl (by kernel_rfl) (by kernel_rfl) (by kernel_rfl) (fun _ _ _ h => h) (Or.inl ⟨by kernel_rfl, ?_⟩) (by assumption) ?_
              rotate_left
              focus
                intro w hSw
                (try dsimp only at hSw)
                go_simp
                all_goals (try with_reducible rfl)
              simp only [Act.put, List.setIfInBounds_toArray, List.set_cons_zero, List.set_cons_succ]
              refine wpAnyH_take (i := 4) (oi := { dst := some 96, op := Op.slice 29 (Operand.tmp 94) none (some (Operand.tmp 95)) none, type := 29, pos := "law.go:108", after := #[{ on := 2, ground := Ground.data }, { on := 3, ground := Ground.data }], guard := none }) (v := ?_) rfl (by kernel_rfl) (by kernel_rfl) (by kernel_rfl) (fun _ _ _ h => h) (Or.inl ⟨by kernel_rfl, ?_⟩) (by assumption) ?_
              rotate_left
              focus
                intro w hSw
                (try dsimp only at hSw)
                go_simp
                all_goals (try with_reducible rfl)
              simp only [Act.put, List.setIfInBounds_toArray, List.set_cons_zero, List.set_cons_succ]
              refine wpAnyH_take (i := 5) (oi := { dst := some 97, op := Op.convert 29 9 (Operand.tmp 96), type := 9, pos := "law.go:108", after := #[{ on := 4, ground := Ground.data }], guard := none }) (v := ?_) rfl (by kernel_rfl) (by kernel_rfl) (by kernel_rfl) (fun _ _ _ h => h) (Or.inl ⟨by kernel_rfl, ?_⟩) (by assumption) ?_
              rotate_left
              focus
                intro w hSw
                (try dsimp only at hSw)
                go_simp
                all_goals (try with_reducible rfl)
              simp only [Act.put, List.setIfInBounds_toArray, List.set_cons_zero, List.set_cons_succ]
              refine wpAnyH_take (i := 6) (oi := { dst := some 98, op := Op.binOp BinOp.eql 9 (Operand.tmp 93) (Operand.tmp 97) 9, type := 4, pos := "law.go:108", after := #[{ on := 1, ground := Ground.data }, { on := 5, ground := Ground.data }], guard := none }) (v := ?_) rfl (by kernel_rfl) (by kernel_rfl) (by kernel_rfl) (fun _ _ _ h => h) (Or.inl ⟨by kernel_rfl, ?_⟩) (by assumption) ?_
              rotate_left
              focus
                intro w hSw
                (try dsimp only at hSw)
                go_simp
                all_goals (try with_reducible rfl)
              simp only [Act.put, List.setIfInBounds_toArray, List.set_cons_zero, List.set_cons_succ]
              refine wpAnyH_take (i := 7) (oi := { dst := some 99, op := Op.move (Operand.tmp 98), type := 4, pos := "law.go:108", after := #[{ on := 6, ground := Ground.data }], guard := none }) (v := ?_) rfl (by kernel_rfl) (by kernel_rfl) (by kernel_rfl) (fun _ _ _ h => h) (Or.inl ⟨by kernel_rfl, ?_⟩) (by assumption) ?_
              rotate_left
              focus
                intro w hSw
                (try dsimp only at hSw)
                go_simp
                all_goals (try with_reducible rfl)
              simp only [Act.put, List.setIfInBounds_toArray, List.set_cons_zero, List.set_cons_succ]
              refine wpAnyH_take (i := 8) (oi := { dst := some 100, op := Op.move (Operand.tmp 11), type := 22, pos := "law.go:108", after := #[{ on := 7, ground := Ground.guard }], guard := some (7, true) }) (v := ?_) rfl (by kernel_rfl) (by kernel_rfl) (by kernel_rfl) (fun _ _ _ h => h) (Or.inl ⟨by kernel_rfl, ?_⟩) (by assumption) ?_
              rotate_left
              focus
                intro w hSw
                (try dsimp only at hSw)
                go_simp
                all_goals (try with_reducible rfl)
              simp only [Act.put, List.setIfInBounds_toArray, List.set_cons_zero, List.set_cons_succ]
              refine wpAnyH_take (i := 11) (oi := { dst := some 103, op := Op.move (Operand.tmp 15), type := 29, pos := "law.go:108", after := #[{ on := 7, ground := Ground.guard }], guard := some (7, true) }) (v := ?_) rfl (by kernel_rfl) (by kernel_rfl) (by kernel_rfl) (fun _ _ _ h => h) (Or.inl ⟨by kernel_rfl, ?_⟩) (by assumption) ?_
              rotate_left
              focus
                intro w hSw
                (try dsimp only at hSw)
                go_simp
                all_goals (try with_reducible rfl)
              simp only [Act.put, List.setIfInBounds_toArray, List.set_cons_zero, List.set_cons_succ]
              refine wpAnyH_take (i := 12) (oi := { dst := some 104, op := Op.convert 29 9 (Operand.tmp 103), type := 9, pos := "law.go:108", after := #[{ on := 11, ground := Ground.data }, { on := 7, ground := Ground.guard }], guard := some (7, true) }) (v := ?_) rfl (by kernel_rfl) (by kernel_rfl) (by kernel_rfl) (fun _ _ _ h => h) (Or.inl ⟨by kernel_rfl, ?_⟩) (by assumption) ?_
              rotate_left
              focus
                intro w hSw
                (try dsimp only at hSw)
                go_simp
                all_goals (try with_reducible rfl)
              simp only [Act.put, List.setIfInBounds_toArray, List.set_cons_zero, List.set_cons_succ]
              refine wpAnyH_ready (rs := [9]) (by kernel_rfl) (by simp) ?_
              refine AllReadyH.cons (o := { dst := some 101, op := Op.call { callee := Callee.value (Operand.func 14), args := #[Operand.tmp 100], argTypes := #[22] }, type := 29, pos := "law.go:108", after := #[{ on := 8, ground := Ground.data }, { on := 7, ground := Ground.chain }, { on := 7, ground := Ground.guard }], guard := some (7, true) }) rfl (fun K hK => ?_) AllReadyH.nil
              go_simp
              refine (R9 _ (HB8.out.drew)).mono ?_
              (rintro e w9 ⟨a9, c9, rfl, b9, bb9, hc9⟩)
              go_wp2_with fail
              refine hK.out _ _ ?_ (fun hHeld2 => ?_)
              · (try dsimp only); exact HS.out _ bb9
              clear hK K hHeld
              have hHeld := hHeld2
              clear hHeld2
              simp only [List.setIfInBounds_toArray, List.set_cons_zero, List.set_cons_succ]
              refine wpAnyH_ready (rs := [10]) (by kernel_rfl) (by simp) ?_
              refine AllReadyH.cons (o := { dst := some 102, op := Op.convert 29 9 (Operand.tmp 101), type := 9, pos := "law.go:108", after := #[{ on := 9, ground := Ground.data }, { on := 7, ground := Ground.guard }], guard := some (7, true) }) rfl (fun K hK => ?_) AllReadyH.nil
              go_simp
              refine hK.out _ _ ?_ (fun hHeld2 => ?_)
              · (try dsimp only); exact HS.out _ bb9
              clear hK K hHeld
              have hHeld := hHeld2
              clear hHeld2
              simp only [List.setIfInBounds_toArray, List.set_cons_zero, List.set_cons_succ]
              refine wpAnyH_take (i := 13) (oi := { dst := some 105, op := Op.binOp BinOp.eql 9 (Operand.tmp 102) (Operand.tmp 104) 9, type := 4, pos := "law.go:108", after := #[{ on := 10, ground := Ground.data }, { on := 12, ground := Ground.data }, { on := 7, ground := Ground.guard }], guard := some (7, true) }) (v := ?_) rfl (by kernel_rfl) (by kernel_rfl) (by kernel_rfl) (fun _ _ _ h => h) (Or.inl ⟨by kernel_rfl, ?_⟩) (by assumption) ?_
              rotate_left
              focus
                intro w hSw
                (try dsimp only at hSw)
                go_simp
                all_goals (try with_reducible rfl)
              simp only [Act.put, List.setIfInBounds_toArray, List.set_cons_zero, List.set_cons_succ]
              refine wpAnyH_take (i := 14) (oi := { dst := some 106, op := Op.pick (Operand.tmp 99) (Operand.tmp 105) (Operand.const (Value.bool false)), type := 4, pos := "law.go:108", after := #[{ on := 7, ground := Ground.data }, { on := 13, ground := Ground.data }], guard := none }) (v := ?_) rfl (by kernel_rfl) (by kernel_rfl) (by kernel_rfl) (fun _ _ _ h => h) (Or.inl ⟨by kernel_rfl, ?_⟩) (by assumption) ?_
              rotate_left
              focus
                intro w hSw
                (try dsimp only at hSw)
                go_simp
                all_goals (try with_reducible rfl)
              simp only [Act.put, List.setIfInBounds_toArray, List.set_cons_zero, List.set_cons_succ]
              refine wpAnyH_take (i := 15) (oi := { dst := some 8, op := Op.assign (Operand.tmp 106), type := 4, pos := "law.go:108", after := #[{ on := 14, ground := Ground.data }, { on := 9, ground := Ground.chain }, { on := 0, ground := Ground.phase }, { on := 1, ground := Ground.phase }, { on := 2, ground := Ground.phase }, { on := 3, ground := Ground.phase }, { on := 4, ground := Ground.phase }, { on := 5, ground := Ground.phase }, { on := 6, ground := Ground.phase }, { on := 7, ground := Ground.phase }, { on := 8, ground := Ground.phase }, { on := 9, ground := Ground.phase }, { on := 10, ground := Ground.phase }, { on := 11, ground := Ground.phase }, { on := 12, ground := Ground.phase }, { on := 13, ground := Ground.phase }, { on := 14, ground := Ground.phase }], guard := none }) (v := ?_) rfl (by kernel_rfl) (by kernel_rfl) (by kernel_rfl) (fun _ _ _ h => h) (Or.inl ⟨by kernel_rfl, ?_⟩) (by assumption) ?_
              rotate_left
              focus
                intro w hSw
                (try dsimp only at hSw)
                go_simp
                all_goals (try with_reducible rfl)
              simp only [Act.put, List.setIfInBounds_toArray, List.set_cons_zero, List.set_cons_succ]
              refine wpAnyH_done (by kernel_rfl) ?_ _
              go_wp2
              go_ret
              exact ⟨rfl, by rw [HW.out]; exact b9⟩
            · have hjl' := hjl
              have hw : IntKind.i64.wrap ((s : Int) + keep) = (j : Int) := by rw [IntKind.wrap_i64]; omega
              clear hjl hjl'
              go_upto_region 28 with (go_at_call 20; with_reducible refine (C3.out _ _ o7 b7).mono ?_; rintro e w8 ⟨rfl, o8, b8⟩)
              have HB8 : Aside (Below w8.heap.size w8 w8) := Below.refl _ _
              have HS : Aside (∀ W, Below w8.heap.size w8 W → (convert 29 9 (.slice a7 j c7)).run Try.prog W = .ok (.string ⟨(F.take j).toArray⟩) W ∧ (convert 29 9 (.slice av j cv)).run Try.prog W = .ok (.string ⟨(F.take j).toArray⟩) W) := fun W hW => by
                have t1 := (o8.row (u := .slice a7 j c7) (l := F.take j) (by simp)).keep hW
                have t2 := Bs.cut ((show Bs w0.heap.size w8 (.slice av fl cv) F from o8.row (by simp)).keep hW) j (by rw [HFJ.out]; exact hj2)
                obtain ⟨x1, y1, z1, u1⟩ := t1.bytes
                obtain ⟨x2, y2, z2, u2⟩ := t2.bytes
                injection z1 with za zb zc
                injection z2 with zd ze zf
                subst za zc zd zf
                exact ⟨str_of u1.mem j _ HD.out.2.1, str_of u2.mem j _ HD.out.2.1⟩
              have R9 : ∀ W, Below w8.heap.size w8 W → Calls Try.prog 14 #[.pointer (some ⟨k1, 0, none⟩)] W fun e w' => ∃ a c, e = .returned (.slice a j c) ∧ Below w0.heap.size w0 w' ∧ Below w8.heap.size w8 w' ∧ (convert 29 9 (.slice a j c)).run Try.prog w' = .ok (.string ⟨(F.take j).toArray⟩) w' := fun W hW => (C2.out W _ _ HD.out.2.2 (o8.keep hW) (b8.trans (hW.mono b8.size))).mono fun e w' ⟨a, c, q1, q2, q3, q4, q5⟩ => ⟨a, c, q1, q3, hW.trans (q4.mono hW.size), q5⟩
              have q12 := HS.out _ HB8.out.drew
              clear o8 C2 C3 HD o7 b7
              generalize F.take j = tj at *
              go_wp2_with fail
              refine wp_region_held_drew (S := fun W => (convert 29 9 (.slice a7 j c7)).run Try.prog W = .ok (.string ⟨tj.toArray⟩) W ∧ (convert 29 9 (.slice av j cv)).run Try.prog W = .ok (.string ⟨tj.toArray⟩) W) (by kernel_rfl) ?_ (fun hHeld => ?_)
              · (try dsimp only); exact q12
              change wpAnyH _ _ _ _ _ 16 #[false, false, false, false, false, false, false, false, false, false, false, false, false, false, false, false] _ _
              refine wpAnyH_take (i := 0) (oi := { dst := some 92, op := Op.move (Operand.tmp 15), type := 29, pos := "law.go:108", after := #[], guard := none }) (v := ?_) rfl (by kernel_rfl) (by kernel_rfl) (by kernel_rfl) (fun _ _ _ h => h) (Or.inl ⟨by kernel_rfl, ?_⟩) (by assumption) ?_
              rotate_left
              focus
                intro w hSw
                (try dsimp only at hSw)
                go_simp
                all_goals (try with_reducible rfl)
              simp only [Act.put, List.setIfInBounds_toArray, List.set_cons_zero, List.set_cons_succ]
              refine wpAnyH_take (i := 1) (oi := { dst := some 93, op := Op.convert 29 9 (Operand.tmp 92), type := 9, pos := "law.go:108", after := #[{ on := 0, ground := Ground.data }], guard := none }) (v := ?_) rfl (by kernel_rfl) (by kernel_rfl) (by kernel_rfl) (fun _ _ _ h => h) (Or.inl ⟨by kernel_rfl, ?_⟩) (by assumption) ?_
              rotate_left
              focus
                intro w hSw
                (try dsimp only at hSw)
                go_simp
                all_goals (try with_reducible rfl)
              simp only [Act.put, List.setIfInBounds_toArray, List.set_cons_zero, List.set_cons_succ]
              refine wpAnyH_take (i := 2) (oi := { dst := some 94, op := Op.move (Operand.tmp 12), type := 29, pos := "law.go:108", after := #[], guard := none }) (v := ?_) rfl (by kernel_rfl) (by kernel_rfl) (by kernel_rfl) (fun _ _ _ h => h) (Or.inl ⟨by kernel_rfl, ?_⟩) (by assumption) ?_
              rotate_left
              focus
                intro w hSw
                (try dsimp only at hSw)
                go_simp
                all_goals (try with_reducible rfl)
              simp only [Act.put, List.setIfInBounds_toArray, List.set_cons_zero, List.set_cons_succ]
              refine wpAnyH_take (i := 3) (oi := { dst := some 95, op := Op.move (Operand.tmp 16), type := 3, pos := "law.go:108", after := #[], guard := none }) (v := ?_) rfl (by kernel_rfl) (by kernel_rfl) (by kernel_rfl) (fun _ _ _ h => h) (Or.inl ⟨by kernel_rfl, ?_⟩) (by assumption) ?_
              rotate_left
              focus
                intro w hSw
                (try dsimp only at hSw)
                go_simp
                all_goals (try with_reducible rfl)
              simp only [Act.put, List.setIfInBounds_toArray, List.set_cons_zero, List.set_cons_succ]
              refine wpAnyH_take (i := 4) (oi := { dst := some 96, op := Op.slice 29 (Operand.tmp 94) none (some (Operand.tmp 95)) none, type := 29, pos := "law.go:108", after := #[{ on := 2, ground := Ground.data }, { on := 3, ground := Ground.data }], guard := none }) (v := ?_) rfl (by kernel_rfl) (by kernel_rfl) (by kernel_rfl) (fun _ _ _ h => h) (Or.inl ⟨by kernel_rfl, ?_⟩) (by assumption) ?_
              rotate_left
              focus
                intro w hSw
                (try dsimp only at hSw)
                go_simp
                all_goals (try with_reducible rfl)
              simp only [Act.put, List.setIfInBounds_toArray, List.set_cons_zero, List.set_cons_succ]
              refine wpAnyH_take (i := 5) (oi := { dst := some 97, op := Op.convert 29 9 (Operand.tmp 96), type := 9, pos := "law.go:108", after := #[{ on := 4, ground := Ground.data }], guard := none }) (v := ?_) rfl (by kernel_rfl) (by kernel_rfl) (by kernel_rfl) (fun _ _ _ h => h) (Or.inl ⟨by kernel_rfl, ?_⟩) (by assumption) ?_
              rotate_left
              focus
                intro w hSw
                (try dsimp only at hSw)
                go_simp
                all_goals (try with_reducible rfl)
              simp only [Act.put, List.setIfInBounds_toArray, List.set_cons_zero, List.set_cons_succ]
              refine wpAnyH_take (i := 6) (oi := { dst := some 98, op := Op.binOp BinOp.eql 9 (Operand.tmp 93) (Operand.tmp 97) 9, type := 4, pos := "law.go:108", after := #[{ on := 1, ground := Ground.data }, { on := 5, ground := Ground.data }], guard := none }) (v := ?_) rfl (by kernel_rfl) (by kernel_rfl) (by kernel_rfl) (fun _ _ _ h => h) (Or.inl ⟨by kernel_rfl, ?_⟩) (by assumption) ?_
              rotate_left
              focus
                intro w hSw
                (try dsimp only at hSw)
                go_simp
                all_goals (try with_reducible rfl)
              simp only [Act.put, List.setIfInBounds_toArray, List.set_cons_zero, List.set_cons_succ]
              refine wpAnyH_take (i := 7) (oi := { dst := some 99, op := Op.move (Operand.tmp 98), type := 4, pos := "law.go:108", after := #[{ on := 6, ground := Ground.data }], guard := none }) (v := ?_) rfl (by kernel_rfl) (by kernel_rfl) (by kernel_rfl) (fun _ _ _ h => h) (Or.inl ⟨by kernel_rfl, ?_⟩) (by assumption) ?_
              rotate_left
              focus
                intro w hSw
                (try dsimp only at hSw)
                go_simp
                all_goals (try with_reducible rfl)
              simp only [Act.put, List.setIfInBounds_toArray, List.set_cons_zero, List.set_cons_succ]
              refine wpAnyH_take (i := 8) (oi := { dst := some 100, op := Op.move (Operand.tmp 11), type := 22, pos := "law.go:108", after := #[{ on := 7, ground := Ground.guard }], guard := some (7, true) }) (v := ?_) rfl (by kernel_rfl) (by kernel_rfl) (by kernel_rfl) (fun _ _ _ h => h) (Or.inl ⟨by kernel_rfl, ?_⟩) (by assumption) ?_
              rotate_left
              focus
                intro w hSw
                (try dsimp only at hSw)
                go_simp
                all_goals (try with_reducible rfl)
              simp only [Act.put, List.setIfInBounds_toArray, List.set_cons_zero, List.set_cons_succ]
              refine wpAnyH_take (i := 11) (oi := { dst := some 103, op := Op.move (Operand.tmp 15), type := 29, pos := "law.go:108", after := #[{ on := 7, ground := Ground.guard }], guard := some (7, true) }) (v := ?_) rfl (by kernel_rfl) (by kernel_rfl) (by kernel_rfl) (fun _ _ _ h => h) (Or.inl ⟨by kernel_rfl, ?_⟩) (by assumption) ?_
              rotate_left
              focus
                intro w hSw
                (try dsimp only at hSw)
                go_simp
                all_goals (try with_reducible rfl)
              simp only [Act.put, List.setIfInBounds_toArray, List.set_cons_zero, List.set_cons_succ]
              refine wpAnyH_take (i := 12) (oi := { dst := some 104, op := Op.convert 29 9 (Operand.tmp 103), type := 9, pos := "law.go:108", after := #[{ on := 11, ground := Ground.data }, { on := 7, ground := Ground.guard }], guard := some (7, true) }) (v := ?_) rfl (by kernel_rfl) (by kernel_rfl) (by kernel_rfl) (fun _ _ _ h => h) (Or.inl ⟨by kernel_rfl, ?_⟩) (by assumption) ?_
              rotate_left
              focus
                intro w hSw
                (try dsimp only at hSw)
                go_simp
                all_goals (try with_reducible rfl)
              simp only [Act.put, List.setIfInBounds_toArray, List.set_cons_zero, List.set_cons_succ]
              refine wpAnyH_ready (rs := [9]) (by kernel_rfl) (by simp) ?_
              refine AllReadyH.cons (o := { dst := some 101, op := Op.call { callee := Callee.value (Operand.func 14), args := #[Operand.tmp 100], argTypes := #[22] }, type := 29, pos := "law.go:108", after := #[{ on := 8, ground := Ground.data }, { on := 7, ground := Ground.chain }, { on := 7, ground := Ground.guard }], guard := some (7, true) }) rfl (fun K hK => ?_) AllReadyH.nil
              go_simp
              refine (R9 _ (HB8.out.drew)).mono ?_
              (rintro e w9 ⟨a9, c9, rfl, b9, bb9, hc9⟩)
              go_wp2_with fail
              refine hK.out _ _ ?_ (fun hHeld2 => ?_)
              · (try dsimp only); exact HS.out _ bb9
              clear hK K hHeld
              have hHeld := hHeld2
              clear hHeld2
              simp only [List.setIfInBounds_toArray, List.set_cons_zero, List.set_cons_succ]
              refine wpAnyH_ready (rs := [10]) (by kernel_rfl) (by simp) ?_
              refine AllReadyH.cons (o := { dst := some 102, op := Op.convert 29 9 (Operand.tmp 101), type := 9, pos := "law.go:108", after := #[{ on := 9, ground := Ground.data }, { on := 7, ground := Ground.guard }], guard := some (7, true) }) rfl (fun K hK => ?_) AllReadyH.nil
              go_simp
              refine hK.out _ _ ?_ (fun hHeld2 => ?_)
              · (try dsimp only); exact HS.out _ bb9
              clear hK K hHeld
              have hHeld := hHeld2
              clear hHeld2
              simp only [List.setIfInBounds_toArray, List.set_cons_zero, List.set_cons_succ]
              refine wpAnyH_take (i := 13) (oi := { dst := some 105, op := Op.binOp BinOp.eql 9 (Operand.tmp 102) (Operand.tmp 104) 9, type := 4, pos := "law.go:108", after := #[{ on := 10, ground := Ground.data }, { on := 12, ground := Ground.data }, { on := 7, ground := Ground.guard }], guard := some (7, true) }) (v := ?_) rfl (by kernel_rfl) (by kernel_rfl) (by kernel_rfl) (fun _ _ _ h => h) (Or.inl ⟨by kernel_rfl, ?_⟩) (by assumption) ?_
              rotate_left
              focus
                intro w hSw
                (try dsimp only at hSw)
                go_simp
                all_goals (try with_reducible rfl)
              simp only [Act.put, List.setIfInBounds_toArray, List.set_cons_zero, List.set_cons_succ]
              refine wpAnyH_take (i := 14) (oi := { dst := some 106, op := Op.pick (Operand.tmp 99) (Operand.tmp 105) (Operand.const (Value.bool false)), type := 4, pos := "law.go:108", after := #[{ on := 7, ground := Ground.data }, { on := 13, ground := Ground.data }], guard := none }) (v := ?_) rfl (by kernel_rfl) (by kernel_rfl) (by kernel_rfl) (fun _ _ _ h => h) (Or.inl ⟨by kernel_rfl, ?_⟩) (by assumption) ?_
              rotate_left
              focus
                intro w hSw
                (try dsimp only at hSw)
                go_simp
                all_goals (try with_reducible rfl)
              simp only [Act.put, List.setIfInBounds_toArray, List.set_cons_zero, List.set_cons_succ]
              refine wpAnyH_take (i := 15) (oi := { dst := some 8, op := Op.assign (Operand.tmp 106), type := 4, pos := "law.go:108", after := #[{ on := 14, ground := Ground.data }, { on := 9, ground := Ground.chain }, { on := 0, ground := Ground.phase }, { on := 1, ground := Ground.phase }, { on := 2, ground := Ground.phase }, { on := 3, ground := Ground.phase }, { on := 4, ground := Ground.phase }, { on := 5, ground := Ground.phase }, { on := 6, ground := Ground.phase }, { on := 7, ground := Ground.phase }, { on := 8, ground := Ground.phase }, { on := 9, ground := Ground.phase }, { on := 10, ground := Ground.phase }, { on := 11, ground := Ground.phase }, { on := 12, ground := Ground.phase }, { on := 13, ground := Ground.phase }, { on := 14, ground := Ground.phase }], guard := none }) (v := ?_) rfl (by kernel_rfl) (by kernel_rfl) (by kernel_rfl) (fun _ _ _ h => h) (Or.inl ⟨by kernel_rfl, ?_⟩) (by assumption) ?_
              rotate_left
              focus
                intro w hSw
                (try dsimp only at hSw)
                go_simp
                all_goals (try with_reducible rfl)
              simp only [Act.put, List.setIfInBounds_toArray, List.set_cons_zero, List.set_cons_succ]
              refine wpAnyH_done (by kernel_rfl) ?_ _
              go_wp2
              go_ret
              exact ⟨rfl, by rw [HW.out]; exact b9⟩
          · have hjl' := hjl
            have hsj : j = s := by omega
            subst hsj
            clear hjl hjl'
            go_upto_region 28 with (go_at_call 20; with_reducible refine (C3.out _ _ o7 b7).mono ?_; rintro e w8 ⟨rfl, o8, b8⟩)
            have HB8 : Aside (Below w8.heap.size w8 w8) := Below.refl _ _
            have HS : Aside (∀ W, Below w8.heap.size w8 W → (convert 29 9 (.slice a7 j c7)).run Try.prog W = .ok (.string ⟨(F.take j).toArray⟩) W ∧ (convert 29 9 (.slice av j cv)).run Try.prog W = .ok (.string ⟨(F.take j).toArray⟩) W) := fun W hW => by
              have t1 := (o8.row (u := .slice a7 j c7) (l := F.take j) (by simp)).keep hW
              have t2 := Bs.cut ((show Bs w0.heap.size w8 (.slice av fl cv) F from o8.row (by simp)).keep hW) j (by rw [HFJ.out]; exact hj2)
              obtain ⟨x1, y1, z1, u1⟩ := t1.bytes
              obtain ⟨x2, y2, z2, u2⟩ := t2.bytes
              injection z1 with za zb zc
              injection z2 with zd ze zf
              subst za zc zd zf
              exact ⟨str_of u1.mem j _ HD.out.2.1, str_of u2.mem j _ HD.out.2.1⟩
            have R9 : ∀ W, Below w8.heap.size w8 W → Calls Try.prog 14 #[.pointer (some ⟨k1, 0, none⟩)] W fun e w' => ∃ a c, e = .returned (.slice a j c) ∧ Below w0.heap.size w0 w' ∧ Below w8.heap.size w8 w' ∧ (convert 29 9 (.slice a j c)).run Try.prog w' = .ok (.string ⟨(F.take j).toArray⟩) w' := fun W hW => (C2.out W _ _ HD.out.2.2 (o8.keep hW) (b8.trans (hW.mono b8.size))).mono fun e w' ⟨a, c, q1, q2, q3, q4, q5⟩ => ⟨a, c, q1, q3, hW.trans (q4.mono hW.size), q5⟩
            have q12 := HS.out _ HB8.out.drew
            clear o8 C2 C3 HD o7 b7
            generalize F.take j = tj at *
            go_wp2_with fail
            refine wp_region_held_drew (S := fun W => (convert 29 9 (.slice a7 j c7)).run Try.prog W = .ok (.string ⟨tj.toArray⟩) W ∧ (convert 29 9 (.slice av j cv)).run Try.prog W = .ok (.string ⟨tj.toArray⟩) W) (by kernel_rfl) ?_ (fun hHeld => ?_)
            · (try dsimp only); exact q12
            change wpAnyH _ _ _ _ _ 16 #[false, false, false, false, false, false, false, false, false, false, false, false, false, false, false, false] _ _
            refine wpAnyH_take (i := 0) (oi := { dst := some 92, op := Op.move (Operand.tmp 15), type := 29, pos := "law.go:108", after := #[], guard := none }) (v := ?_) rfl (by kernel_rfl) (by kernel_rfl) (by kernel_rfl) (fun _ _ _ h => h) (Or.inl ⟨by kernel_rfl, ?_⟩) (by assumption) ?_
            rotate_left
            focus
              intro w hSw
              (try dsimp only at hSw)
              go_simp
              all_goals (try with_reducible rfl)
            simp only [Act.put, List.setIfInBounds_toArray, List.set_cons_zero, List.set_cons_succ]
            refine wpAnyH_take (i := 1) (oi := { dst := some 93, op := Op.convert 29 9 (Operand.tmp 92), type := 9, pos := "law.go:108", after := #[{ on := 0, ground := Ground.data }], guard := none }) (v := ?_) rfl (by kernel_rfl) (by kernel_rfl) (by kernel_rfl) (fun _ _ _ h => h) (Or.inl ⟨by kernel_rfl, ?_⟩) (by assumption) ?_
            rotate_left
            focus
              intro w hSw
              (try dsimp only at hSw)
              go_simp
              all_goals (try with_reducible rfl)
            simp only [Act.put, List.setIfInBounds_toArray, List.set_cons_zero, List.set_cons_succ]
            refine wpAnyH_take (i := 2) (oi := { dst := some 94, op := Op.move (Operand.tmp 12), type := 29, pos := "law.go:108", after := #[], guard := none }) (v := ?_) rfl (by kernel_rfl) (by kernel_rfl) (by kernel_rfl) (fun _ _ _ h => h) (Or.inl ⟨by kernel_rfl, ?_⟩) (by assumption) ?_
            rotate_left
            focus
              intro w hSw
              (try dsimp only at hSw)
              go_simp
              all_goals (try with_reducible rfl)
            simp only [Act.put, List.setIfInBounds_toArray, List.set_cons_zero, List.set_cons_succ]
            refine wpAnyH_take (i := 3) (oi := { dst := some 95, op := Op.move (Operand.tmp 16), type := 3, pos := "law.go:108", after := #[], guard := none }) (v := ?_) rfl (by kernel_rfl) (by kernel_rfl) (by kernel_rfl) (fun _ _ _ h => h) (Or.inl ⟨by kernel_rfl, ?_⟩) (by assumption) ?_
            rotate_left
            focus
              intro w hSw
              (try dsimp only at hSw)
              go_simp
              all_goals (try with_reducible rfl)
            simp only [Act.put, List.setIfInBounds_toArray, List.set_cons_zero, List.set_cons_succ]
            refine wpAnyH_take (i := 4) (oi := { dst := some 96, op := Op.slice 29 (Operand.tmp 94) none (some (Operand.tmp 95)) none, type := 29, pos := "law.go:108", after := #[{ on := 2, ground := Ground.data }, { on := 3, ground := Ground.data }], guard := none }) (v := ?_) rfl (by kernel_rfl) (by kernel_rfl) (by kernel_rfl) (fun _ _ _ h => h) (Or.inl ⟨by kernel_rfl, ?_⟩) (by assumption) ?_
            rotate_left
            focus
              intro w hSw
              (try dsimp only at hSw)
              go_simp
              all_goals (try with_reducible rfl)
            simp only [Act.put, List.setIfInBounds_toArray, List.set_cons_zero, List.set_cons_succ]
            refine wpAnyH_take (i := 5) (oi := { dst := some 97, op := Op.convert 29 9 (Operand.tmp 96), type := 9, pos := "law.go:108", after := #[{ on := 4, ground := Ground.data }], guard := none }) (v := ?_) rfl (by kernel_rfl) (by kernel_rfl) (by kernel_rfl) (fun _ _ _ h => h) (Or.inl ⟨by kernel_rfl, ?_⟩) (by assumption) ?_
            rotate_left
            focus
              intro w hSw
              (try dsimp only at hSw)
              go_simp
              all_goals (try with_reducible rfl)
            simp only [Act.put, List.setIfInBounds_toArray, List.set_cons_zero, List.set_cons_succ]
            refine wpAnyH_take (i := 6) (oi := { dst := some 98, op := Op.binOp BinOp.eql 9 (Operand.tmp 93) (Operand.tmp 97) 9, type := 4, pos := "law.go:108", after := #[{ on := 1, ground := Ground.data }, { on := 5, ground := Ground.data }], guard := none }) (v := ?_) rfl (by kernel_rfl) (by kernel_rfl) (by kernel_rfl) (fun _ _ _ h => h) (Or.inl ⟨by kernel_rfl, ?_⟩) (by assumption) ?_
            rotate_left
            focus
              intro w hSw
              (try dsimp only at hSw)
              go_simp
              all_goals (try with_reducible rfl)
            simp only [Act.put, List.setIfInBounds_toArray, List.set_cons_zero, List.set_cons_succ]
            refine wpAnyH_take (i := 7) (oi := { dst := some 99, op := Op.move (Operand.tmp 98), type := 4, pos := "law.go:108", after := #[{ on := 6, ground := Ground.data }], guard := none }) (v := ?_) rfl (by kernel_rfl) (by kernel_rfl) (by kernel_rfl) (fun _ _ _ h => h) (Or.inl ⟨by kernel_rfl, ?_⟩) (by assumption) ?_
            rotate_left
            focus
              intro w hSw
              (try dsimp only at hSw)
              go_simp
              all_goals (try with_reducible rfl)
            simp only [Act.put, List.setIfInBounds_toArray, List.set_cons_zero, List.set_cons_succ]
            refine wpAnyH_take (i := 8) (oi := { dst := some 100, op := Op.move (Operand.tmp 11), type := 22, pos := "law.go:108", after := #[{ on := 7, ground := Ground.guard }], guard := some (7, true) }) (v := ?_) rfl (by kernel_rfl) (by kernel_rfl) (by kernel_rfl) (fun _ _ _ h => h) (Or.inl ⟨by kernel_rfl, ?_⟩) (by assumption) ?_
            rotate_left
            focus
              intro w hSw
              (try dsimp only at hSw)
              go_simp
              all_goals (try with_reducible rfl)
            simp only [Act.put, List.setIfInBounds_toArray, List.set_cons_zero, List.set_cons_succ]
            refine wpAnyH_take (i := 11) (oi := { dst := some 103, op := Op.move (Operand.tmp 15), type := 29, pos := "law.go:108", after := #[{ on := 7, ground := Ground.guard }], guard := some (7, true) }) (v := ?_) rfl (by kernel_rfl) (by kernel_rfl) (by kernel_rfl) (fun _ _ _ h => h) (Or.inl ⟨by kernel_rfl, ?_⟩) (by assumption) ?_
            rotate_left
            focus
              intro w hSw
              (try dsimp only at hSw)
              go_simp
              all_goals (try with_reducible rfl)
            simp only [Act.put, List.setIfInBounds_toArray, List.set_cons_zero, List.set_cons_succ]
            refine wpAnyH_take (i := 12) (oi := { dst := some 104, op := Op.convert 29 9 (Operand.tmp 103), type := 9, pos := "law.go:108", after := #[{ on := 11, ground := Ground.data }, { on := 7, ground := Ground.guard }], guard := some (7, true) }) (v := ?_) rfl (by kernel_rfl) (by kernel_rfl) (by kernel_rfl) (fun _ _ _ h => h) (Or.inl ⟨by kernel_rfl, ?_⟩) (by assumption) ?_
            rotate_left
            focus
              intro w hSw
              (try dsimp only at hSw)
              go_simp
              all_goals (try with_reducible rfl)
            simp only [Act.put, List.setIfInBounds_toArray, List.set_cons_zero, List.set_cons_succ]
            refine wpAnyH_ready (rs := [9]) (by kernel_rfl) (by simp) ?_
            refine AllReadyH.cons (o := { dst := some 101, op := Op.call { callee := Callee.value (Operand.func 14), args := #[Operand.tmp 100], argTypes := #[22] }, type := 29, pos := "law.go:108", after := #[{ on := 8, ground := Ground.data }, { on := 7, ground := Ground.chain }, { on := 7, ground := Ground.guard }], guard := some (7, true) }) rfl (fun K hK => ?_) AllReadyH.nil
            go_simp
            refine (R9 _ (HB8.out.drew)).mono ?_
            (rintro e w9 ⟨a9, c9, rfl, b9, bb9, hc9⟩)
            go_wp2_with fail
            refine hK.out _ _ ?_ (fun hHeld2 => ?_)
            · (try dsimp only); exact HS.out _ bb9
            clear hK K hHeld
            have hHeld := hHeld2
            clear hHeld2
            simp only [List.setIfInBounds_toArray, List.set_cons_zero, List.set_cons_succ]
            refine wpAnyH_ready (rs := [10]) (by kernel_rfl) (by simp) ?_
            refine AllReadyH.cons (o := { dst := some 102, op := Op.convert 29 9 (Operand.tmp 101), type := 9, pos := "law.go:108", after := #[{ on := 9, ground := Ground.data }, { on := 7, ground := Ground.guard }], guard := some (7, true) }) rfl (fun K hK => ?_) AllReadyH.nil
            go_simp
            refine hK.out _ _ ?_ (fun hHeld2 => ?_)
            · (try dsimp only); exact HS.out _ bb9
            clear hK K hHeld
            have hHeld := hHeld2
            clear hHeld2
            simp only [List.setIfInBounds_toArray, List.set_cons_zero, List.set_cons_succ]
            refine wpAnyH_take (i := 13) (oi := { dst := some 105, op := Op.binOp BinOp.eql 9 (Operand.tmp 102) (Operand.tmp 104) 9, type := 4, pos := "law.go:108", after := #[{ on := 10, ground := Ground.data }, { on := 12, ground := Ground.data }, { on := 7, ground := Ground.guard }], guard := some (7, true) }) (v := ?_) rfl (by kernel_rfl) (by kernel_rfl) (by kernel_rfl) (fun _ _ _ h => h) (Or.inl ⟨by kernel_rfl, ?_⟩) (by assumption) ?_
            rotate_left
            focus
              intro w hSw
              (try dsimp only at hSw)
              go_simp
              all_goals (try with_reducible rfl)
            simp only [Act.put, List.setIfInBounds_toArray, List.set_cons_zero, List.set_cons_succ]
            refine wpAnyH_take (i := 14) (oi := { dst := some 106, op := Op.pick (Operand.tmp 99) (Operand.tmp 105) (Operand.const (Value.bool false)), type := 4, pos := "law.go:108", after := #[{ on := 7, ground := Ground.data }, { on := 13, ground := Ground.data }], guard := none }) (v := ?_) rfl (by kernel_rfl) (by kernel_rfl) (by kernel_rfl) (fun _ _ _ h => h) (Or.inl ⟨by kernel_rfl, ?_⟩) (by assumption) ?_
            rotate_left
            focus
              intro w hSw
              (try dsimp only at hSw)
              go_simp
              all_goals (try with_reducible rfl)
            simp only [Act.put, List.setIfInBounds_toArray, List.set_cons_zero, List.set_cons_succ]
            refine wpAnyH_take (i := 15) (oi := { dst := some 8, op := Op.assign (Operand.tmp 106), type := 4, pos := "law.go:108", after := #[{ on := 14, ground := Ground.data }, { on := 9, ground := Ground.chain }, { on := 0, ground := Ground.phase }, { on := 1, ground := Ground.phase }, { on := 2, ground := Ground.phase }, { on := 3, ground := Ground.phase }, { on := 4, ground := Ground.phase }, { on := 5, ground := Ground.phase }, { on := 6, ground := Ground.phase }, { on := 7, ground := Ground.phase }, { on := 8, ground := Ground.phase }, { on := 9, ground := Ground.phase }, { on := 10, ground := Ground.phase }, { on := 11, ground := Ground.phase }, { on := 12, ground := Ground.phase }, { on := 13, ground := Ground.phase }, { on := 14, ground := Ground.phase }], guard := none }) (v := ?_) rfl (by kernel_rfl) (by kernel_rfl) (by kernel_rfl) (fun _ _ _ h => h) (Or.inl ⟨by kernel_rfl, ?_⟩) (by assumption) ?_
            rotate_left
            focus
              intro w hSw
              (try dsimp only at hSw)
              go_simp
              all_goals (try with_reducible rfl)
            simp only [Act.put, List.setIfInBounds_toArray, List.set_cons_zero, List.set_cons_succ]
            refine wpAnyH_done (by kernel_rfl) ?_ _
            go_wp2
            go_ret
            exact ⟨rfl, by rw [HW.out]; exact b9⟩
end Go.Proofs.Ytpaekckahapngaa.disk
