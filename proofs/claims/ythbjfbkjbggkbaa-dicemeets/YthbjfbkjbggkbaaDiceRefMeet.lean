/-
  The contract of the chapter's Meet.
-/
import Derived.Test.YthbjfbkjbggkbaaDiceMeet
namespace Go.Proofs.Ythbjfbkjbggkbaa.dice
open Go.ChangeShapes Go.WideShapes Go.ChangeAt Go.RowKit Go.Deep
open Go.Proofs.Ythbjfbkjbggkbaa.dims
set_option linter.unusedVariables false
set_option maxRecDepth 100000

/-- a row grows, another one stays -/
theorem grow_apart {W W' : World} {b1 b2 : Nat} {e : TypeId} {s : Nat} {v1 v2 : Value} {n1 n2 g m cap : Nat} {x1 x2 : List Value} (h1 : W.ownsRow b1 e s v1 n1 x1) (h2 : W.ownsRow b2 e s v2 n2 x2) (hne : v1.ownBlock = none ∨ v1.ownBlock ≠ v2.ownBlock)
    (hg : W.grownBy W' v1.ownBlock) (hat : v1.ownBlock = some g ∨ g = W.heap.size) : W'.ownsRow b2 e s v2 n2 x2 ∧ (Value.slice (some ⟨g, 0, none⟩) m cap).ownBlock ≠ v2.ownBlock := by
  refine ⟨h2.kept hg ?_, ?_⟩
  · rcases hne with h | h
    · rw [h]; cases v2.ownBlock <;> simp
    · exact .inr (fun e => h e.symm)
  · show some g ≠ v2.ownBlock
    intro e
    rcases hat with h | h
    · rcases hne with q | q
      · rw [q] at h; cases h
      · exact q (h.trans e)
    · have := (h2.lt g e.symm).2
      omega

/-- the loop's world: k places are done -/
structure RL (w : World) (lo up fr un : List Int) (k : Nat) (v1 v2 : Value) (W : World) : Prop where
  bel : Below w.heap.size w W
  ne : v1.ownBlock = none ∨ v1.ownBlock ≠ v2.ownBlock
  one : W.ownsRow w.heap.size 3 1 v1 k (vals ((mLo lo fr).take k))
  two : W.ownsRow w.heap.size 3 1 v2 k (vals ((mHi up un).take k))
  ok : ∀ i, i < k → mtAt lo up fr un i = true

theorem take_vals {l : List Int} {k : Nat} {x : Int} (hk : k < l.length) (hx : nth l k = x) : vals (l.take (k + 1)) = vals (l.take k) ++ [.int .i64 x] := by
  rw [List.take_succ_eq_append_getElem hk, vals_app, ← hx]
  simp [vals, nth, hk]

set_option maxHeartbeats 8000000 in
theorem refMeet_any (a1 a2 a3 a4 : Option Addr) (n1 n2 n3 n4 c1 c2 c3 c4 : Nat) (lo up fr un : List Int) (w : World) (h1 : Ints w a1 lo) (e1 : lo.length = n1) (h2 : Ints w a2 up) (e2 : up.length = n2) (h3 : Ints w a3 fr) (e3 : fr.length = n3) (h4 : Ints w a4 un) (e4 : un.length = n4) (hm : n1 ≤ 100000) :
    Calls Try.prog 24 #[.slice a1 n1 c1, .slice a2 n2 c2, .slice a3 n3 c3, .slice a4 n4 c4] w fun e w' => ∃ t, e = .returned t ∧ MeetRes w lo up fr un t w' := by
  obtain ⟨i0, hi, hz0, hz1, hz2⟩ := info_parts info_int
  by_cases hl2 : n1 = n2
  · subst hl2
    by_cases hl3 : n1 = n3
    · subst hl3
      by_cases hl4 : n1 = n4
      · subst hl4
        have H1 : Aside (Ints w a1 lo ∧ lo.length = n1) := ⟨h1, e1⟩
        have H2 : Aside (Ints w a2 up ∧ up.length = n1) := ⟨h2, e2⟩
        have H3 : Aside (Ints w a3 fr ∧ fr.length = n1) := ⟨h3, e3⟩
        have H4 : Aside (Ints w a4 un ∧ un.length = n1) := ⟨h4, e4⟩
        clear h1 h2 h3 h4 e1 e2 e3 e4
        go_enter Try.func24, Try.ntmps24
        go_wp2_with fail
        go_loopg [11, 12, 13, 14, 15] n1 (fun g1 v1 v2 vi s t wr => ∃ (k : Nat), vi = .int .i64 k ∧ k ≤ n1 ∧ n1 - k ≤ g1 ∧ Aside (RL w lo up fr un k v1 v2 wr))
        case atStart => exact ⟨0, rfl, Nat.zero_le _, Nat.le_refl _, Below.refl _ _, .inl rfl, World.ownsRow_nil _ _ _ _, World.ownsRow_nil _ _ _ _, fun i hi => by omega⟩
        case round =>
          obtain ⟨k, rfl, hk, hg1, SK⟩ := hrel
          by_cases hlt : k < n1
          · have hltz : (k : Int) < (n1 : Int) := by omega
            have hkl : k < lo.length := by rw [H1.out.2]; exact hlt
            have hku : k < up.length := by rw [H2.out.2]; exact hlt
            obtain ⟨b1, o1, ha1, hc1⟩ := (H1.out.1.keep SK.out.bel).get (k := k) hkl
            obtain ⟨b2, o2, ha2, hc2⟩ := (H2.out.1.keep SK.out.bel).get (k := k) hku
            obtain ⟨b3, o3, ha3, hc3⟩ := (H3.out.1.keep SK.out.bel).get (k := k) (by rw [H3.out.2]; exact hlt)
            obtain ⟨b4, o4, ha4, hc4⟩ := (H4.out.1.keep SK.out.bel).get (k := k) (by rw [H4.out.2]; exact hlt)
            subst ha1
            subst ha2
            subst ha3
            subst ha4
            have r1 := hc1 k hkl
            have r2 := hc2 k hku
            have r3 := hc3 k (by rw [H3.out.2]; exact hlt)
            have r4 := hc4 k (by rw [H4.out.2]; exact hlt)
            clear hc1 hc2 hc3 hc4
            obtain ⟨x, hx⟩ : ∃ x, nth lo k = x := ⟨_, rfl⟩
            obtain ⟨y, hy⟩ : ∃ x, nth up k = x := ⟨_, rfl⟩
            obtain ⟨u, hu⟩ : ∃ x, nth fr k = x := ⟨_, rfl⟩
            obtain ⟨v, hv⟩ : ∃ x, nth un k = x := ⟨_, rfl⟩
            rw [hx] at r1
            rw [hy] at r2
            rw [hu] at r3
            rw [hv] at r4
            have HX : ∃ X, Hid (maxI x u = X) ∧ (x < u ∧ X = u ∨ ¬ x < u ∧ X = x) := by
              by_cases g : x < u
              · exact ⟨u, by show _ = _; unfold maxI; rw [if_pos g], .inl ⟨g, rfl⟩⟩
              · exact ⟨x, by show _ = _; unfold maxI; rw [if_neg g], .inr ⟨g, rfl⟩⟩
            have HY : ∃ Y, Hid (minI y v = Y) ∧ (v < y ∧ Y = v ∨ ¬ v < y ∧ Y = y) := by
              by_cases g : v < y
              · exact ⟨v, by show _ = _; unfold minI; rw [if_pos g], .inl ⟨g, rfl⟩⟩
              · exact ⟨y, by show _ = _; unfold minI; rw [if_neg g], .inr ⟨g, rfl⟩⟩
            obtain ⟨X, hX, HX⟩ := HX
            obtain ⟨Y, hY, HY⟩ := HY
            have T1 : Hid (vals ((mLo lo fr).take (k + 1)) = vals ((mLo lo fr).take k) ++ [.int .i64 X]) := take_vals (by rw [mLo_len]; exact hkl) (by rw [mLo_nth _ _ hkl, hx, hu]; exact hX.out)
            have T2 : Hid (vals ((mHi up un).take (k + 1)) = vals ((mHi up un).take k) ++ [.int .i64 Y]) := take_vals (by rw [mHi_len]; exact hku) (by rw [mHi_nth _ _ hku, hy, hv]; exact hY.out)
            have S4 : Hid (mtAt lo up fr un k = decide (X < Y)) := by show _ = _; unfold mtAt; rw [hx, hu, hy, hv, hX.out, hY.out]
            clear hx hy hu hv hX hY
            rcases HX with ⟨gx, rfl⟩ | ⟨gx, rfl⟩
            all_goals
              rcases HY with ⟨gy, rfl⟩ | ⟨gy, rfl⟩
              all_goals
                go_wp2_with fail
                go_region
                go_wp2_with fail
                go_region
                have S5 : Aside (RL w lo up fr un k u11 u12 wr.drew.drew) := ⟨SK.out.bel.drew.drew, SK.out.ne, SK.out.one, SK.out.two, SK.out.ok⟩
                clear SK r1 r2 r3 r4 gx gy
                generalize wr.drew.drew = W1 at S5 ⊢
                by_cases g : Y ≤ X
                · have d : decide (Y ≤ X) = true := decide_eq_true g
                  have E : Hid (mt lo up fr un = false) := mt_at hkl (by rw [S4.out]; exact decide_eq_false (by omega))
                  go_wp2
                  go_ret3
                  exact ⟨_, rfl, MeetRes.none E.out S5.out.bel⟩
                · have d : decide (Y ≤ X) = false := decide_eq_false g
                  have hown := S5.out.one
                  have hsz := S5.out.bel.size
                  go_wp2_with (first | (at_builtin; refine wpList_append_lies _ rfl (.tmp 62) (.tmp 64) 26 rfl w.heap.size 3 i0 _ 1 8 Try.underlying26 hi hz0 hz1 hz2 rfl (by decide) _ _ _ rfl (hown.alloc _) ⟨W1.heap.size, 0, none⟩ 1 1 [.int .i64 X] rfl rfl (cell_one_new _ _ _) (by intro u hu; simp at hu; subst hu; rfl) (by decide) (by unfold maxLen; omega) (by omega) (by simp; omega) _ rfl ?_) | go_in)
                  intro g3 cap3 w3 hown3 hgrow hat hglt
                  have S6 : Aside (Below w.heap.size w w3 ∧ (Value.slice (some ⟨g3, 0, none⟩) (k + 1) cap3).ownBlock ≠ u12.ownBlock ∧ w3.ownsRow w.heap.size 3 1 (.slice (some ⟨g3, 0, none⟩) (k + 1) cap3) (k + 1) (vals ((mLo lo fr).take (k + 1))) ∧ w3.ownsRow w.heap.size 3 1 u12 k (vals ((mHi up un).take k)) ∧ ∀ i, i < k → mtAt lo up fr un i = true) := by
                    have q := grow_apart (m := k + 1) (cap := cap3) (hown.alloc _) (S5.out.two.alloc _) S5.out.ne hgrow (by simpa using hat)
                    exact ⟨(S5.out.bel.alloc hsz _).grown hgrow (by simp; omega) fun q hq => (S5.out.one.lt q hq).1, q.2, by rw [T1.out]; exact hown3, q.1, S5.out.ok⟩
                  clear hown hown3 hgrow hat hglt S5 hsz
                  have hown := S6.out.2.2.2.1
                  have hsz := S6.out.1.size
                  go_wp2_with (first | (at_builtin; refine wpList_append_lies _ rfl (.tmp 66) (.tmp 68) 26 rfl w.heap.size 3 i0 _ 1 8 Try.underlying26 hi hz0 hz1 hz2 rfl (by decide) _ _ _ rfl (hown.alloc _) ⟨w3.heap.size, 0, none⟩ 1 1 [.int .i64 Y] rfl rfl (cell_one_new _ _ _) (by intro u hu; simp at hu; subst hu; rfl) (by decide) (by unfold maxLen; omega) (by omega) (by simp; omega) _ rfl ?_) | go_in)
                  intro g4 cap4 w4 hown4 hgrow hat hglt
                  have S7 : Aside (RL w lo up fr un (k + 1) (.slice (some ⟨g3, 0, none⟩) (k + 1) cap3) (.slice (some ⟨g4, 0, none⟩) (k + 1) cap4) w4) := by
                    obtain ⟨t1, t2, t3, t4, t5⟩ := S6.out
                    have q := grow_apart (m := k + 1) (cap := cap4) (hown.alloc _) (t3.alloc _) (.inr (fun e => t2 e.symm)) hgrow (by simpa using hat)
                    refine ⟨(t1.alloc hsz _).grown hgrow (by simp; omega) fun q hq => (t4.lt q hq).1, .inr (fun e => q.2 e.symm), q.1, by rw [T2.out]; exact hown4, fun i hi => ?_⟩
                    by_cases e : i = k
                    · subst e; rw [S4.out]; exact decide_eq_true (by omega)
                    · exact t5 i (by omega)
                  clear hown hown4 hgrow hat hglt S6 hsz
                  go_wp2
                  go_roundg (n1 - (k + 1))
                  case measure => omega
                  case rel => exact ⟨k + 1, by go_num, by omega, by omega, S7⟩
          · have hltz : ¬ (k : Int) < (n1 : Int) := by omega
            have hke : k = n1 := by omega
            have HR : Aside (MeetRes w lo up fr un (.tuple #[u11, u12, .bool true]) wr) := by
              have h := SK.out
              rw [hke] at h
              have hmt : mt lo up fr un = true := mt_true ⟨by rw [H1.out.2, H2.out.2], by rw [H1.out.2, H3.out.2], by rw [H1.out.2, H4.out.2]⟩ fun i hi => h.ok i (by rw [H1.out.2] at hi; exact hi)
              have t1 := h.one
              have t2 := h.two
              rw [List.take_of_length_le (by rw [mLo_len, H1.out.2]; exact Nat.le_refl _)] at t1
              rw [List.take_of_length_le (by rw [mHi_len, H2.out.2]; exact Nat.le_refl _)] at t2
              refine ⟨⟨_, _, by rw [hmt], ?_, ?_⟩, h.bel⟩
              · unfold mtL; rw [if_pos hmt]; exact (own_out t1).1
              · unfold mtH; rw [if_pos hmt]; exact (own_out t2).1
            clear hke SK
            go_wp2
            go_ret3
            exact ⟨_, rfl, HR.out⟩
      · have b14 : ((n1 : Int) == (n4 : Int)) = false := by simp; omega
        have E : Hid (mt lo up fr un = false) := mt_len (by rw [e1, e2, e3, e4]; exact fun h => hl4 h.2.2.symm)
        clear h1 h2 h3 h4 e1 e2 e3 e4 hl4
        go_enter Try.func24, Try.ntmps24
        go_wp2
        go_ret3
        exact ⟨_, rfl, MeetRes.none E.out (Below.refl _ _)⟩
    · have b13 : ((n1 : Int) == (n3 : Int)) = false := by simp; omega
      have E : Hid (mt lo up fr un = false) := mt_len (by rw [e1, e2, e3, e4]; exact fun h => hl3 h.2.1.symm)
      clear h1 h2 h3 h4 e1 e2 e3 e4 hl3
      go_enter Try.func24, Try.ntmps24
      go_wp2
      go_ret3
      exact ⟨_, rfl, MeetRes.none E.out (Below.refl _ _)⟩
  · have b12 : ((n1 : Int) == (n2 : Int)) = false := by simp; omega
    have E : Hid (mt lo up fr un = false) := mt_len (by rw [e1, e2, e3, e4]; exact fun h => hl2 h.1.symm)
    clear h1 h2 h3 h4 e1 e2 e3 e4 hl2
    go_enter Try.func24, Try.ntmps24
    go_wp2
    all_goals
      go_ret3
      exact ⟨_, rfl, MeetRes.none E.out (Below.refl _ _)⟩
end Go.Proofs.Ythbjfbkjbggkbaa.dice
