/-
  The contract of the chapter's own Order: each place is laid in behind those that are not above it.
-/
import Derived.Test.YtpaelakaolggmaaRankRows
import Derived.Deep.RegionHeld3
namespace Go.Proofs.Ytpaelakaolggmaa.rank
open Go.ChangeShapes Go.WideShapes Go.ChangeAt Go.RowKit Go.Deep
set_option linter.unusedVariables false

def ints (l : List Nat) : List Value := l.map (fun x => Value.int .i64 ((x : Nat) : Int))
def mhc (cs : List C4) (x : Nat) : Nat := mh (nth cs x).n (nth cs x).s

theorem key_of_lt {cs : List C4} {x y : Nat} (hx : x < 18446744073709551616) (h : mhc cs x < mhc cs y) : key cs x < key cs y := by
  have e1 : key cs x = mhc cs x * 18446744073709551616 + x := rfl
  have e2 : key cs y = mhc cs y * 18446744073709551616 + y := rfl
  omega
theorem key_of_le {cs : List C4} {x y : Nat} (hxy : x < y) (h : mhc cs x ≤ mhc cs y) : key cs x < key cs y := by
  have e1 : key cs x = mhc cs x * 18446744073709551616 + x := rfl
  have e2 : key cs y = mhc cs y * 18446744073709551616 + y := rfl
  omega
theorem mhc_of_key {cs : List C4} {x y : Nat} (hy : y < 18446744073709551616) (h : key cs x < key cs y) : mhc cs x ≤ mhc cs y := by
  have e1 : key cs x = mhc cs x * 18446744073709551616 + x := rfl
  have e2 : key cs y = mhc cs y * 18446744073709551616 + y := rfl
  omega

/-- the first k places, in order -/
structure OrdTo (cs : List C4) (k : Nat) (l : List Nat) : Prop where
  perm : l.Perm (List.range k)
  pw : l.Pairwise (fun x y => key cs x < key cs y)

theorem OrdTo.len {cs : List C4} {k : Nat} {l : List Nat} (h : OrdTo cs k l) : l.length = k := by simpa using h.perm.length_eq
theorem OrdTo.lt {cs : List C4} {k : Nat} {l : List Nat} (h : OrdTo cs k l) {x : Nat} (hx : x ∈ l) : x < k := List.mem_range.1 (h.perm.mem_iff.1 hx)
theorem OrdTo.start (cs : List C4) : OrdTo cs 0 [] := ⟨List.Perm.refl _, List.Pairwise.nil⟩

theorem OrdTo.step {cs : List C4} {k j : Nat} {l : List Nat} (h : OrdTo cs k l) (hk : k < 18446744073709551616) (h1 : ∀ x ∈ l.take j, mhc cs x ≤ mhc cs k) (h2 : ∀ hj : j < l.length, mhc cs k < mhc cs l[j]) : OrdTo cs (k + 1) (l.take j ++ [k] ++ l.drop j) := by
  have hl : l = l.take j ++ l.drop j := (List.take_append_drop j l).symm
  refine ⟨?_, ?_⟩
  · rw [List.range_succ]
    have e : (l.take j ++ [k] ++ l.drop j).Perm (l ++ [k]) := by
      rw [List.append_assoc]
      refine (List.Perm.append_left _ List.perm_append_comm).trans ?_
      rw [← List.append_assoc, ← hl]
    exact e.trans (h.perm.append_right _)
  · have hpw := h.pw
    rw [hl, List.pairwise_append] at hpw
    obtain ⟨p1, p2, p3⟩ := hpw
    have lo : ∀ x ∈ l.take j, key cs x < key cs k := fun x hx => by
      exact key_of_le (h.lt (List.mem_of_mem_take hx)) (h1 x hx)
    have hi : ∀ y ∈ l.drop j, key cs k < key cs y := fun y hy => by
      by_cases hj : j < l.length
      · have a := h2 hj
        have ed : l.drop j = l[j] :: l.drop (j + 1) := List.drop_eq_getElem_cons hj
        rw [ed] at hy p2
        rcases List.mem_cons.1 hy with e | hy'
        · rw [e]; exact key_of_lt hk a
        · have c := List.rel_of_pairwise_cons p2 hy'
          have d := h.lt (List.mem_of_mem_drop hy')
          exact key_of_lt hk (Nat.lt_of_lt_of_le a (mhc_of_key (by omega) c))
      · rw [List.drop_eq_nil_of_le (by omega)] at hy; cases hy
    rw [List.pairwise_append]
    refine ⟨?_, p2, ?_⟩
    · rw [List.pairwise_append]
      exact ⟨p1, List.pairwise_singleton _ _, fun x hx y hy => by rw [List.mem_singleton.1 hy]; exact lo x hx⟩
    · intro x hx y hy
      rcases List.mem_append.1 hx with hx | hx
      · exact p3 x hx y hy
      · rw [List.mem_singleton.1 hx]; exact hi y hy

theorem refCmp_val (n s n2 s2 : Int) (a b : Nat) (c : Int) (ha : meanOk n s a) (hb : meanOk n2 s2 b) (hc : cmpH (mh n s) (mh n2 s2) = c) (w : World) :
    Calls Try.prog 18 #[.float .f64 a, .float .f64 b] w fun e w' => e = .returned (.int .i64 c) ∧ w' = w := by
  rw [← hc, ← hgt_of_mean ha, ← hgt_of_mean hb]; exact refCmp_any a b ha.1 hb.1 w

theorem cell_lt {W : World} {c o : Nat} {v : Value} (h : W.cell? ⟨c, o, none⟩ = some v) : c < W.heap.size := by
  by_cases hc : c < W.heap.size
  · exact hc
  · exfalso
    have : W.heap[c]? = none := Array.getElem?_eq_none (by omega)
    simp [World.cell?, this] at h

theorem row_form {w : World} {base : Nat} {e : TypeId} {size : Nat} {v : Value} {n : Nat} {xs : List Value} (h : w.ownsRow base e size v n xs) (hn : 0 < n) : ∃ g cap, v = .slice (some ⟨g, 0, none⟩) n cap ∧ base ≤ g ∧ g < w.heap.size := by
  have hl := h.lt
  rcases h.2 with ⟨_, h0⟩ | ⟨g, cap, cur, hv, _⟩
  · omega
  · have := hl g (by rw [hv]; rfl)
    exact ⟨g, cap, hv, this.1, this.2⟩

theorem own_below {w w' : World} {base : Nat} {e : TypeId} {size : Nat} {v : Value} {n : Nat} {xs : List Value} (h : w.ownsRow base e size v n xs) (hb : Below w.heap.size w w') : w'.ownsRow base e size v n xs := by
  have hl := h.lt
  refine ⟨h.1, ?_⟩
  rcases h.2 with h0 | ⟨g, cap, cur, hv, a, hg, r⟩
  · exact .inl h0
  · have := hl g (by rw [hv]; rfl)
    exact .inr ⟨g, cap, cur, hv, a, by rw [hb.block g this.2]; exact hg, r⟩
theorem own_mono {w : World} {base base' : Nat} {e : TypeId} {size : Nat} {v : Value} {n : Nat} {xs : List Value} (h : w.ownsRow base e size v n xs) (hb : base' ≤ base) : w.ownsRow base' e size v n xs := by
  refine ⟨h.1, ?_⟩
  rcases h.2 with h0 | ⟨g, cap, cur, hv, a, r⟩
  · exact .inl h0
  · exact .inr ⟨g, cap, cur, hv, Nat.le_trans hb a, r⟩
theorem own_cap {w : World} {base : Nat} {e : TypeId} {size g cap : Nat} {n : Nat} {xs : List Value} (h : w.ownsRow base e size (.slice (some ⟨g, 0, none⟩) n cap) n xs) : n ≤ cap ∧ cap ≤ maxLen := by
  rcases h.2 with ⟨h0, _⟩ | ⟨g', cap', cur, hv, _, _, h1, h2, _⟩
  · cases h0
  · cases hv; exact ⟨h1, h2⟩

theorem info_int2 : (Try.prog.info? 3).map (fun i => (i.zero, i.size, i.bytes)) = some (some (.int .i64 0), 1, 8) := by kernel_rfl

theorem ints_get {l : List Nat} {j : Nat} (h : j < l.length) : (ints l)[j]? = some (.int .i64 ((l[j] : Nat) : Int)) := by simp [ints, h]
theorem ints_len (l : List Nat) : (ints l).length = l.length := by simp [ints]
theorem ints_one (l : List Nat) : ∀ u ∈ ints l, u.oneCell' = true := by
  intro u hu
  obtain ⟨x, _, rfl⟩ := List.mem_map.1 hu
  rfl
theorem ints_app (l m : List Nat) : ints (l ++ m) = ints l ++ ints m := by simp [ints]

/-- eleven cells and all below: what a comparison of two rows reads -/
theorem cmp_keep {W0 W w' : World} {g j b p q : Nat} {x : Value} {a0 a1 a2 a3 c0 c1 c2 c3 : Value} (hb : Below W.heap.size W w')
    (h : Below W0.heap.size W0 W ∧ W.cell? ⟨g, j, none⟩ = some x ∧ W.cell? ⟨b, p, none⟩ = some a0 ∧ W.cell? ⟨b, p + 1, none⟩ = some a1 ∧ W.cell? ⟨b, p + 2, none⟩ = some a2 ∧ W.cell? ⟨b, p + 3, none⟩ = some a3 ∧ W.cell? ⟨b, q, none⟩ = some c0 ∧ W.cell? ⟨b, q + 1, none⟩ = some c1 ∧ W.cell? ⟨b, q + 2, none⟩ = some c2 ∧ W.cell? ⟨b, q + 3, none⟩ = some c3) :
    Below W0.heap.size W0 w' ∧ w'.cell? ⟨g, j, none⟩ = some x ∧ w'.cell? ⟨b, p, none⟩ = some a0 ∧ w'.cell? ⟨b, p + 1, none⟩ = some a1 ∧ w'.cell? ⟨b, p + 2, none⟩ = some a2 ∧ w'.cell? ⟨b, p + 3, none⟩ = some a3 ∧ w'.cell? ⟨b, q, none⟩ = some c0 ∧ w'.cell? ⟨b, q + 1, none⟩ = some c1 ∧ w'.cell? ⟨b, q + 2, none⟩ = some c2 ∧ w'.cell? ⟨b, q + 3, none⟩ = some c3 := by
  obtain ⟨h0, h1, h2, h3, h4, h5, h6, h7, h8, h9⟩ := h
  have k : ∀ {c o : Nat} {v : Value}, W.cell? ⟨c, o, none⟩ = some v → w'.cell? ⟨c, o, none⟩ = some v := fun {c o v} hv => (hb.cell (p := ⟨c, o, none⟩) (cell_lt hv)).trans hv
  exact ⟨h0.trans (hb.mono h0.size), k h1, k h2, k h3, k h4, k h5, k h6, k h7, k h8, k h9⟩

set_option maxHeartbeats 16000000 in
theorem refOrder_some (cs : List C4) (b off cap : Nat) (w : World) (hb : b < w.heap.size) (hn : cs.length ≤ 200) (hR : RowsAt w b off cs) :
    Calls Try.prog 24 #[.slice (some ⟨b, off, none⟩) cs.length cap] w fun e w' => ∃ v, e = .returned v ∧ ∃ l, OrdTo cs cs.length l ∧ w'.ownsRow w.heap.size 3 1 v cs.length (ints l) ∧ Below w.heap.size w w' := by
  obtain ⟨i0, hi, hz0, hz1, hz2⟩ := info_parts info_int2
  obtain ⟨n, hnn⟩ : ∃ n, n = cs.length := ⟨_, rfl⟩
  rw [← hnn] at hn ⊢
  have HN : Hid (n = cs.length) := hnn
  clear hnn
  go_enter Try.func24, Try.ntmps24
  go_wp2_with fail
  go_loopg [3, 4, 5, 6] n (fun g1 v vi vx vy wr => ∃ (k : Nat) (l : List Nat), vi = .int .i64 k ∧ k ≤ n ∧ n - k ≤ g1 ∧ Aside (OrdTo cs k l ∧ wr.ownsRow w.heap.size 3 1 v k (ints l) ∧ Below w.heap.size w wr) ∧ Hid (k = 0 → v = .slice none 0 0))
  case atStart => exact ⟨0, [], rfl, Nat.zero_le _, Nat.le_refl _, ⟨OrdTo.start cs, World.ownsRow_nil _ _ _ _, Below.refl _ _⟩, fun _ => rfl⟩
  case round =>
    obtain ⟨k, l, rfl, hk, hg1, SK, HV⟩ := hrel
    by_cases hlt : k < n
    · have hltz : (k : Int) < (n : Int) := by omega
      have hsz := SK.out.2.2.size
      by_cases hk0 : k = 0
      · as_aux_lemma =>
          have hv := HV.out hk0
          subst hv
          subst hk0
          have HP : Aside (OrdTo cs 1 [0]) := ⟨List.Perm.refl _, List.pairwise_singleton _ _⟩
          generalize wr = W1 at SK hsz ⊢
          go_wp2_with fail
          go_loopg [5, 6] 0 (fun g2 vx vy wr2 => vx = .slice none 0 0 ∧ vy = .int .i64 0 ∧ Aside (Below W1.heap.size W1 wr2))
          case atStart => exact ⟨rfl, rfl, Below.refl _ _⟩
          case round =>
            obtain ⟨rfl, rfl, SB⟩ := hrel
            have hdz : decide ((0 : Int) < 0) = false := by decide
            go_wp2_with fail
            go_quiet (fail)
            have S2 : Aside (Below W1.heap.size W1 (wr.drewN nq)) := below_drewN SB.out nq
            clear SB
            generalize wr.drewN nq = w2 at S2 ⊢
            have hzw := S2.out.size
            go_wp2_with (first | (at_builtin; refine wpList_append_own _ rfl (.tmp 45) (.tmp 47) 45 rfl w.heap.size 3 i0 _ 1 8 Try.underlying45 hi hz0 hz1 hz2 rfl (by decide) _ _ _ rfl (World.ownsRow_nil _ _ _ _) ⟨w2.heap.size, 0, none⟩ 1 1 [.int .i64 0] rfl rfl (cell_one_new _ _ _) ?c2 ?c3 ?c4 ?c5 ?_) | go_in)
            case c2 => intro u hu; simp at hu; subst hu; rfl
            case c3 => unfold maxLen; omega
            case c4 => omega
            case c5 => simp; omega
            · intro v' w3 hown' hgrow _
              have hown2 : w3.ownsRow w.heap.size 3 1 v' 1 (ints [0]) := hown'
              have S3 : Aside (OrdTo cs 1 [0] ∧ w3.ownsRow w.heap.size 3 1 v' 1 (ints [0]) ∧ Below w.heap.size w w3) := by
                refine ⟨HP.out, hown2, ?_⟩
                exact (((SK.out.2.2.trans (S2.out.mono hsz))).alloc (by omega) _).grown hgrow (by simp; omega) fun q hq => by cases hq
              clear hown' hgrow SK S2 HP
              go_wp2_with (first | (at_builtin; refine wpList_append_own_none rfl (.tmp 49) (.tmp 52) 45 rfl w.heap.size 3 i0 1 Try.underlying45 hi _ _ _ rfl hown2 rfl ?_) | go_in)
              go_roundg (n - 1)
              case measure => omega
              case rel => exact ⟨1, [0], by go_num, by omega, by omega, S3, (fun h => by omega)⟩
      · obtain ⟨g, cap2, hv, hgb, hgl⟩ := row_form SK.out.2.1 (by omega)
        subst hv
        have hlen : l.length = k := SK.out.1.len
        have hlc : k < cs.length := by rw [← HN.out]; exact hlt
        generalize wr = W1 at SK hsz hgl ⊢
        have hout : ∀ i (hi : i < l.length), W1.cell? ⟨g, i, none⟩ = some (.int .i64 ((l[i] : Nat) : Int)) := fun i hi => by
          rw [World.ownsRow.cellAt SK.out.2.1 i (by omega), ints_get hi]
        have HO : Aside (∀ i (hi : i < l.length), W1.cell? ⟨g, i, none⟩ = some (.int .i64 ((l[i] : Nat) : Int))) := hout
        clear hout
        go_wp2_with fail
        go_loopg [5, 6] k (fun g2 vx vy wr2 => ∃ (j : Nat), vy = .int .i64 j ∧ j ≤ k ∧ k - j ≤ g2 ∧ Aside (wr2.ownsRow W1.heap.size 3 1 vx j (ints (l.take j)) ∧ Below W1.heap.size W1 wr2) ∧ Hid (∀ x ∈ l.take j, mhc cs x ≤ mhc cs k))
        case atStart => exact ⟨0, rfl, Nat.zero_le _, Nat.le_refl _, ⟨World.ownsRow_nil _ _ _ _, Below.refl _ _⟩, fun x hx => by simp at hx⟩
        case round =>
          obtain ⟨j, rfl, hj, hg2, SJ, HJ⟩ := hrel
          by_cases hjk : j < k
          · have hjkz : (j : Int) < (k : Int) := by omega
            have hjd : decide ((j : Int) < (k : Int)) = true := decide_eq_true hjkz
            obtain ⟨x, hx⟩ : ∃ x, x = l[j]'(by omega) := ⟨_, rfl⟩
            have hxk : x < k := by rw [hx]; exact SK.out.1.lt (List.getElem_mem _)
            have hb1 := SJ.out.2
            have hbw : Below w.heap.size w wr := SK.out.2.2.trans (hb1.mono hsz)
            have co : wr.cell? ⟨g, j, none⟩ = some (.int .i64 (x : Nat)) := by rw [hb1.cell (p := ⟨g, j, none⟩) hgl, hx]; exact HO.out j (by omega)
            obtain ⟨_, p1, p2, p3, p4⟩ := hR x (by rw [← HN.out]; omega)
            obtain ⟨_, q1, q2, q3, q4⟩ := hR k hlc
            rw [← hbw.cell (p := ⟨b, off + x * 5 + 1, none⟩) hb] at p1
            rw [← hbw.cell (p := ⟨b, off + x * 5 + 2, none⟩) hb] at p2
            rw [← hbw.cell (p := ⟨b, off + x * 5 + 3, none⟩) hb] at p3
            rw [← hbw.cell (p := ⟨b, off + x * 5 + 4, none⟩) hb] at p4
            rw [← hbw.cell (p := ⟨b, off + k * 5 + 1, none⟩) hb] at q1
            rw [← hbw.cell (p := ⟨b, off + k * 5 + 2, none⟩) hb] at q2
            rw [← hbw.cell (p := ⟨b, off + k * 5 + 3, none⟩) hb] at q3
            rw [← hbw.cell (p := ⟨b, off + k * 5 + 4, none⟩) hb] at q4
            have hxz : (x : Int) < (n : Int) := by omega
            have hxl : x < n := by omega
            clear hb1 hbw
            obtain ⟨cv, hcv⟩ : ∃ c, cmpH (mh (nth cs x).n (nth cs x).s) (mh (nth cs k).n (nth cs k).s) = c := ⟨_, rfl⟩
            by_cases hc : mhc cs x ≤ mhc cs k
            · have hv0 : cv ≤ 0 := by rw [← hcv]; exact cmpH_le hc
              have hvd : decide (cv ≤ 0) = true := decide_eq_true hv0
              have HX : Hid (x = l[j]'(by omega)) := hx
              have HC : Hid (mhc cs x ≤ mhc cs k) := hc
              clear hx hc
              generalize ht1 : (nth cs x).n = t1 at p1 hcv
              generalize ht2 : (nth cs x).s = t2 at p2 hcv
              generalize (nth cs x).lo = t3 at p3
              generalize (nth cs x).hi = t4 at p4
              generalize ht5 : (nth cs k).n = t5 at q1 hcv
              generalize ht6 : (nth cs k).s = t6 at q2 hcv
              generalize (nth cs k).lo = t7 at q3
              generalize (nth cs k).hi = t8 at q4
              clear ht1 ht2 ht5 ht6
              go_wp2_with fail
              go_region_held3 (fun w' => Below wr.heap.size wr w' ∧ w'.cell? ⟨g, j, none⟩ = some (.int .i64 (x : Nat)) ∧ w'.cell? ⟨b, off + x * 5 + 1, none⟩ = some (.int .i64 t1) ∧ w'.cell? ⟨b, off + x * 5 + 1 + 1, none⟩ = some (.int .i64 t2) ∧ w'.cell? ⟨b, off + x * 5 + 1 + 2, none⟩ = some (.int .i64 t3) ∧ w'.cell? ⟨b, off + x * 5 + 1 + 3, none⟩ = some (.int .i64 t4) ∧ w'.cell? ⟨b, off + k * 5 + 1, none⟩ = some (.int .i64 t5) ∧ w'.cell? ⟨b, off + k * 5 + 1 + 1, none⟩ = some (.int .i64 t6) ∧ w'.cell? ⟨b, off + k * 5 + 1 + 2, none⟩ = some (.int .i64 t7) ∧ w'.cell? ⟨b, off + k * 5 + 1 + 3, none⟩ = some (.int .i64 t8))
                (first | assumption | (exact ⟨(Below.refl _ _).drew, co, p1, p2, p3, p4, q1, q2, q3, q4⟩) | (exact ⟨Below.refl _ _, co, p1, p2, p3, p4, q1, q2, q3, q4⟩) | (refine cmp_keep (W0 := wr) (g := g) (j := j) (b := b) (p := off + x * 5 + 1) (q := off + k * 5 + 1) (x := .int .i64 (x : Nat)) (a0 := .int .i64 t1) (a1 := .int .i64 t2) (a2 := .int .i64 t3) (a3 := .int .i64 t4) (c0 := .int .i64 t5) (c1 := .int .i64 t6) (c2 := .int .i64 t7) (c3 := .int .i64 t8) hb2 ?_; assumption))
                (first | (go_at_call 14; with_reducible refine (refMean_any t1 t2 t3 t4 _).mono ?_; rintro e w2 ⟨m1, hm1, rfl, hb2⟩) | (go_at_call 14; with_reducible refine (refMean_any t5 t6 t7 t8 _).mono ?_; rintro e w2 ⟨m2, hm2, rfl, hb2⟩) | (go_at_call 18; refine (refCmp_val t1 t2 t5 t6 m1 m2 cv hm1 hm2 hcv _).mono ?_; rintro e w2 ⟨rfl, rfl⟩))
              have hS : Below wr.heap.size wr w2 := by apply And.left; assumption
              have co2 : w2.cell? ⟨g, j, none⟩ = some (.int .i64 (x : Nat)) := (hS.cell (p := ⟨g, j, none⟩) (cell_lt co)).trans co
              have hown := own_below SJ.out.1 hS
              have SB : Aside (Below W1.heap.size W1 w2) := SJ.out.2.trans (hS.mono SJ.out.2.size)
              have hs2 : W1.heap.size ≤ w2.heap.size := SB.out.size
              have HT : Hid (ints (l.take (j + 1)) = ints (l.take j) ++ [.int .i64 (x : Nat)]) := by
                show _ = _
                rw [List.take_succ_eq_append_getElem (by omega), ints_app, HX.out]; rfl
              have HJ2 : Hid (∀ y ∈ l.take (j + 1), mhc cs y ≤ mhc cs k) := by
                intro y hy
                rw [List.take_succ_eq_append_getElem (by omega)] at hy
                rcases List.mem_append.1 hy with h | h
                · exact HJ.out y h
                · rw [List.mem_singleton.1 h, ← HX.out]; exact HC.out
              clear co p1 p2 p3 p4 q1 q2 q3 q4 SJ HX HC HJ
              go_wp2_with (first | (at_builtin; refine wpList_append_own _ rfl (.tmp 36) (.tmp 41) 45 rfl W1.heap.size 3 i0 _ 1 8 Try.underlying45 hi hz0 hz1 hz2 rfl (by decide) _ _ _ rfl (hown.alloc _) ⟨w2.heap.size, 0, none⟩ 1 1 [.int .i64 (x : Nat)] rfl rfl (cell_one_new _ _ _) ?c2 ?c3 ?c4 ?c5 ?_) | go_in)
              case c2 => intro u hu; simp at hu; subst hu; rfl
              case c3 => unfold maxLen; omega
              case c4 => omega
              case c5 => simp; omega
              · intro v3 w3 hown3 hgrow3 _
                have S3 : Aside (w3.ownsRow W1.heap.size 3 1 v3 (j + 1) (ints (l.take (j + 1))) ∧ Below W1.heap.size W1 w3) :=
                  ⟨by rw [HT.out]; exact hown3, (SB.out.alloc hs2 _).grown hgrow3 (by simp; omega) fun q hq => (hown.lt q hq).1⟩
                clear hown3 hgrow3 hown HT SB
                go_wp2
                go_roundg (k - (j + 1))
                case measure => omega
                case rel => exact ⟨j + 1, by go_num, by omega, by omega, S3, HJ2⟩
            · as_aux_lemma =>
                have hv0 : ¬ cv ≤ 0 := by rw [← hcv, show cmpH (mh (nth cs x).n (nth cs x).s) (mh (nth cs k).n (nth cs k).s) = 1 from cmpH_gt (by unfold mhc at hc; omega)]; omega
                have hvd : decide (cv ≤ 0) = false := decide_eq_false hv0
                have HZ : Hid (∀ hj : j < l.length, mhc cs k < mhc cs l[j]) := fun hj => by rw [← hx]; omega
                clear hx hc
                generalize ht1 : (nth cs x).n = t1 at p1 hcv
                generalize ht2 : (nth cs x).s = t2 at p2 hcv
                generalize (nth cs x).lo = t3 at p3
                generalize (nth cs x).hi = t4 at p4
                generalize ht5 : (nth cs k).n = t5 at q1 hcv
                generalize ht6 : (nth cs k).s = t6 at q2 hcv
                generalize (nth cs k).lo = t7 at q3
                generalize (nth cs k).hi = t8 at q4
                clear ht1 ht2 ht5 ht6
                go_wp2_with fail
                go_region_held3 (fun w' => Below wr.heap.size wr w' ∧ w'.cell? ⟨g, j, none⟩ = some (.int .i64 (x : Nat)) ∧ w'.cell? ⟨b, off + x * 5 + 1, none⟩ = some (.int .i64 t1) ∧ w'.cell? ⟨b, off + x * 5 + 1 + 1, none⟩ = some (.int .i64 t2) ∧ w'.cell? ⟨b, off + x * 5 + 1 + 2, none⟩ = some (.int .i64 t3) ∧ w'.cell? ⟨b, off + x * 5 + 1 + 3, none⟩ = some (.int .i64 t4) ∧ w'.cell? ⟨b, off + k * 5 + 1, none⟩ = some (.int .i64 t5) ∧ w'.cell? ⟨b, off + k * 5 + 1 + 1, none⟩ = some (.int .i64 t6) ∧ w'.cell? ⟨b, off + k * 5 + 1 + 2, none⟩ = some (.int .i64 t7) ∧ w'.cell? ⟨b, off + k * 5 + 1 + 3, none⟩ = some (.int .i64 t8))
                  (first | assumption | (exact ⟨(Below.refl _ _).drew, co, p1, p2, p3, p4, q1, q2, q3, q4⟩) | (exact ⟨Below.refl _ _, co, p1, p2, p3, p4, q1, q2, q3, q4⟩) | (refine cmp_keep (W0 := wr) (g := g) (j := j) (b := b) (p := off + x * 5 + 1) (q := off + k * 5 + 1) (x := .int .i64 (x : Nat)) (a0 := .int .i64 t1) (a1 := .int .i64 t2) (a2 := .int .i64 t3) (a3 := .int .i64 t4) (c0 := .int .i64 t5) (c1 := .int .i64 t6) (c2 := .int .i64 t7) (c3 := .int .i64 t8) hb2 ?_; assumption))
                  (first | (go_at_call 14; with_reducible refine (refMean_any t1 t2 t3 t4 _).mono ?_; rintro e w2 ⟨m1, hm1, rfl, hb2⟩) | (go_at_call 14; with_reducible refine (refMean_any t5 t6 t7 t8 _).mono ?_; rintro e w2 ⟨m2, hm2, rfl, hb2⟩) | (go_at_call 18; refine (refCmp_val t1 t2 t5 t6 m1 m2 cv hm1 hm2 hcv _).mono ?_; rintro e w2 ⟨rfl, rfl⟩))
                have hS : Below wr.heap.size wr w2 := by apply And.left; assumption
                have hown := own_below SJ.out.1 hS
                have SB : Aside (Below W1.heap.size W1 w2) := SJ.out.2.trans (hS.mono SJ.out.2.size)
                have hs2 : W1.heap.size ≤ w2.heap.size := SB.out.size
                clear co p1 p2 p3 p4 q1 q2 q3 q4 SJ
                have hcap := (own_cap SK.out.2.1).1
                have hcapz : (k : Int) ≤ (cap2 : Int) := by omega
                have hjz : (j : Int) ≤ (k : Int) := by omega
                go_wp2_with (first | (at_builtin; refine wpList_append_own _ rfl (.tmp 45) (.tmp 47) 45 rfl W1.heap.size 3 i0 _ 1 8 Try.underlying45 hi hz0 hz1 hz2 rfl (by decide) _ _ _ rfl (hown.alloc _) ⟨w2.heap.size, 0, none⟩ 1 1 [.int .i64 (k : Nat)] rfl rfl (cell_one_new _ _ _) ?c2 ?c3 ?c4 ?c5 ?_) | go_in)
                case c2 => intro u hu; simp at hu; subst hu; rfl
                case c3 => unfold maxLen; omega
                case c4 => omega
                case c5 => simp; omega
                · intro v3 w3 hown3 hgrow3 _
                  have hB3 : Below W1.heap.size W1 w3 := (SB.out.alloc hs2 _).grown hgrow3 (by simp; omega) fun q hq => (hown.lt q hq).1
                  have hs3 := hB3.size
                  have h3lt := hown3.lt
                  clear hown hgrow3
                  have hcj : ¬ cap2 = j := by omega
                  have hnews : ∀ q u, (ints (l.drop j))[q]? = some u → w3.cell? ((⟨g, j, none⟩ : Addr).add q) = some u := by
                    intro q u hq
                    have hql : q < (l.drop j).length := by
                      have := (List.getElem?_eq_some_iff.1 hq).1
                      rw [ints_len] at this; exact this
                    rw [ints_get hql] at hq
                    have hql2 : j + q < l.length := by simp at hql; omega
                    have ea : (⟨g, j, none⟩ : Addr).add q = ⟨g, j + q, none⟩ := by by_cases e : q = 0 <;> simp [Addr.add, e]
                    rw [ea, hB3.cell (p := ⟨g, j + q, none⟩) hgl, HO.out (j + q) hql2, ← hq]
                    simp
                  go_wp2_with (first | (at_builtin; refine wpList_append_own _ rfl (.tmp 49) (.tmp 52) 45 rfl W1.heap.size 3 i0 _ 1 8 Try.underlying45 hi hz0 hz1 hz2 rfl (by decide) _ _ _ rfl hown3 ⟨g, j, none⟩ (k - j) (cap2 - j) (ints (l.drop j)) rfl ?d1 hnews (ints_one _) ?d3 ?d4 hs3 ?_) | go_in)
                  case d1 => rw [ints_len]; simp; omega
                  case d3 => unfold maxLen; omega
                  case d4 => omega
                  intro v4 w4 hown4 hgrow4 _
                  have hown5 : w4.ownsRow W1.heap.size 3 1 v4 (k + 1) (ints (l.take j ++ [k] ++ l.drop j)) := by
                    have e : ints (l.take j ++ [k] ++ l.drop j) = ints (l.take j) ++ .int .i64 ((k : Nat) : Int) :: ints (l.drop j) := by simp [ints]
                    rw [e]
                    have e2 : j + 1 + (k - j) = k + 1 := by omega
                    rw [e2] at hown4; exact hown4
                  have S4 : Aside (OrdTo cs (k + 1) (l.take j ++ [k] ++ l.drop j) ∧ w4.ownsRow w.heap.size 3 1 v4 (k + 1) (ints (l.take j ++ [k] ++ l.drop j)) ∧ Below w.heap.size w w4) :=
                    ⟨SK.out.1.step (by omega) HJ.out HZ.out, own_mono hown5 hsz, SK.out.2.2.trans ((hB3.grown hgrow4 hs3 fun q hq => (h3lt q hq).1).mono hsz)⟩
                  clear hown3 hown4 hown5 hgrow4 h3lt hB3 SK SB HJ HZ hnews HO
                  go_wp2
                  go_roundg (n - (k + 1))
                  case measure => omega
                  case rel => exact ⟨k + 1, _, by go_num, by omega, by omega, S4, (fun h => by omega)⟩
          · as_aux_lemma =>
              have hjk2 : j = l.length := by omega
              subst hlen
              subst hjk2
              have hjd : decide ((l.length : Int) < (l.length : Int)) = false := decide_eq_false (by omega)
              have hjkz : ¬ (l.length : Int) < (l.length : Int) := by omega
              clear hjk hj
              have HZ : Hid (∀ hj : l.length < l.length, mhc cs l.length < mhc cs l[l.length]) := fun hj => by omega
              go_wp2_with fail
              go_quiet (fail)
              have hown : (wr.drewN nq).ownsRow W1.heap.size 3 1 _ l.length (ints (l.take l.length)) := SJ.out.1
              have SB : Aside (Below W1.heap.size W1 (wr.drewN nq)) := below_drewN SJ.out.2 nq
              clear SJ
              generalize wr.drewN nq = w2 at hown SB ⊢
              have hs2 : W1.heap.size ≤ w2.heap.size := SB.out.size
              have hcap := (own_cap SK.out.2.1).1
              have hcapz : (l.length : Int) ≤ (cap2 : Int) := by omega
              go_wp2_with (first | (at_builtin; refine wpList_append_own _ rfl (.tmp 45) (.tmp 47) 45 rfl W1.heap.size 3 i0 _ 1 8 Try.underlying45 hi hz0 hz1 hz2 rfl (by decide) _ _ _ rfl (hown.alloc _) ⟨w2.heap.size, 0, none⟩ 1 1 [.int .i64 (l.length : Nat)] rfl rfl (cell_one_new _ _ _) ?c2 ?c3 ?c4 ?c5 ?_) | go_in)
              case c2 => intro u hu; simp at hu; subst hu; rfl
              case c3 => unfold maxLen; omega
              case c4 => omega
              case c5 => simp; omega
              · intro v3 w3 hown3 hgrow3 _
                have hB3 : Below W1.heap.size W1 w3 := (SB.out.alloc hs2 _).grown hgrow3 (by simp; omega) fun q hq => (hown.lt q hq).1
                have hs3 := hB3.size
                have h3lt := hown3.lt
                clear hown hgrow3
                by_cases hck : cap2 = l.length
                all_goals
                  try subst hck
                  go_wp2_with (first | (at_builtin; refine wpList_append_own _ rfl (.tmp 49) (.tmp 52) 45 rfl W1.heap.size 3 i0 _ 1 8 Try.underlying45 hi hz0 hz1 hz2 rfl (by decide) _ _ _ rfl hown3 _ _ _ [] rfl ?d1 ?d2 ?d5 ?d3 ?d4 hs3 ?_) | go_in)
                  case d1 => simp
                  case d2 => intro q u hq; simp at hq
                  case d5 => intro u hu; cases hu
                  case d3 => unfold maxLen; omega
                  case d4 => omega
                  intro v4 w4 hown4 hgrow4 _
                  have hown5 : w4.ownsRow W1.heap.size 3 1 v4 (l.length + 1) (ints (l.take l.length ++ [l.length] ++ l.drop l.length)) := by
                    have e : ints (l.take l.length ++ [l.length] ++ l.drop l.length) = ints l ++ [.int .i64 ((l.length : Nat) : Int)] := by simp [ints]
                    rw [e]; exact hown4
                  have S4 : Aside (OrdTo cs (l.length + 1) (l.take l.length ++ [l.length] ++ l.drop l.length) ∧ w4.ownsRow w.heap.size 3 1 v4 (l.length + 1) (ints (l.take l.length ++ [l.length] ++ l.drop l.length)) ∧ Below w.heap.size w w4) :=
                    ⟨SK.out.1.step (by omega) HJ.out HZ.out, own_mono hown5 hsz, SK.out.2.2.trans ((hB3.grown hgrow4 hs3 fun q hq => (h3lt q hq).1).mono hsz)⟩
                  clear hown3 hown4 hown5 hgrow4 h3lt hB3 SK SB HJ HZ
                  go_wp2
                  go_roundg (n - (l.length + 1))
                  case measure => omega
                  case rel => exact ⟨l.length + 1, _, by go_num, by omega, by omega, S4, (fun h => by omega)⟩
    · as_aux_lemma =>
        have hltz : ¬ (k : Int) < (n : Int) := by omega
        have hown := SK.out.2.1
        have e : k = n := by omega
        rw [e] at hown
        have ho := SK.out.1
        rw [e] at ho
        have HO : Aside _ := hown
        have HP : Aside _ := ho
        clear hown e ho
        go_wp2
        go_ret
        exact ⟨_, rfl, l, HP.out, HO.out, SK.out.2.2⟩
end Go.Proofs.Ytpaelakaolggmaa.rank
