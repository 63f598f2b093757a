/-
  The contract of spans.holders: a set of nodes, filled from the end.
-/
import Derived.Test.YtfhihkogdnbghaaSpanFind
import Derived.Maps.OwnIn
import Derived.Maps.OwnSet
namespace Go.Proofs.Ytfhihkogdnbghaa.spans
open Go.ChangeShapes Go.WideShapes Go.ChangeAt Go.RowKit Go.Deep Go.Shelf Go.Maps
open Go.Proofs.Ytfhihkogdnbghaa.bytes (ret_bool hid nth addr_add cell_lt own_below own_mono)
set_option linter.unusedVariables false
set_option maxRecDepth 100000
set_option linter.unusedSimpArgs false
attribute [local go_sem] Oper.semAt_some

/-! ### the set, as a list -/
def hStep (frm : Int) (o : List Int × Int) (s : Sp) : List Int × Int := (if max s.1 frm < o.2 then o.1 ++ [s.2] else o.1, min o.2 s.1)
def hSt (l : List Sp) (frm till : Int) (is : List Nat) : List Int × Int := is.foldl (fun o i => hStep frm o (spn l i)) ([], till)
theorem hSt_snoc (l : List Sp) (frm till : Int) (is : List Nat) (i : Nat) : hSt l frm till (is ++ [i]) = hStep frm (hSt l frm till is) (spn l i) := by simp [hSt]
theorem fnd_any {l : List Sp} {v : Int} (h : ∃ s ∈ l, s.1 ≤ v) (n m : Int) : fnd n l v = fnd m l v := by
  induction l generalizing n m with
  | nil => obtain ⟨s, hs, _⟩ := h; cases hs
  | cons s r ih =>
    show fnd (if s.1 ≤ v then s.2 else n) r v = fnd (if s.1 ≤ v then s.2 else m) r v
    by_cases hs : s.1 ≤ v
    · rw [if_pos hs, if_pos hs]
    · obtain ⟨t, ht, h1⟩ := h
      rcases List.mem_cons.1 ht with rfl | ht
      · exact absurd h1 hs
      · exact ih ⟨t, ht, h1⟩ _ _
theorem hSt_inv (l : List Sp) (frm till : Int) : ∀ k : Nat, k ≤ l.length →
    (∀ v, v < (hSt l frm till (desc l.length k)).2 ↔ v < till ∧ ∀ s ∈ l.drop (l.length - k), v < s.1) ∧
    (∀ m, m ∈ (hSt l frm till (desc l.length k)).1 ↔ ∃ v, frm ≤ v ∧ v < till ∧ (∃ s ∈ l.drop (l.length - k), s.1 ≤ v) ∧ find (l.drop (l.length - k)) v = m)
  | 0, _ => by
    refine ⟨fun v => ?_, fun m => ?_⟩
    · simp [desc, hSt]
    · simp [desc, hSt]
  | k + 1, hk => by
    obtain ⟨i1, i2⟩ := hSt_inv l frm till k (by omega)
    have hd : l.drop (l.length - (k + 1)) = spn l (l.length - (k + 1)) :: l.drop (l.length - k) := by
      rw [drop_spn (by omega), show l.length - (k + 1) + 1 = l.length - k by omega]
    rw [desc, hSt_snoc, hd]
    generalize spn l (l.length - (k + 1)) = s
    generalize l.drop (l.length - k) = d at i1 i2
    generalize hSt l frm till (desc l.length k) = o at i1 i2
    refine ⟨fun v => ?_, fun m => ?_⟩
    · show v < min o.2 s.1 ↔ _
      have h0 : v < min o.2 s.1 ↔ v < o.2 ∧ v < s.1 := by omega
      rw [h0, i1 v]
      simp only [List.mem_cons, forall_eq_or_imp]
      exact ⟨fun ⟨⟨p, q⟩, r⟩ => ⟨p, r, q⟩, fun ⟨p, r, q⟩ => ⟨⟨p, q⟩, r⟩⟩
    · show m ∈ (if max s.1 frm < o.2 then o.1 ++ [s.2] else o.1) ↔ _
      have e1 : m ∈ (if max s.1 frm < o.2 then o.1 ++ [s.2] else o.1) ↔ m ∈ o.1 ∨ (max s.1 frm < o.2 ∧ m = s.2) := by
        by_cases h : max s.1 frm < o.2
        · rw [if_pos h]; simp [h]
        · rw [if_neg h]; simp [h]
      rw [e1, i2]
      constructor
      · rintro (⟨v, h1, h2, ⟨t, ht, h3⟩, h4⟩ | ⟨h1, h2⟩)
        · refine ⟨v, h1, h2, ⟨t, by simp [ht], h3⟩, ?_⟩
          rw [← h4]
          exact fnd_any ⟨t, ht, h3⟩ _ _
        · have hv := (i1 (max s.1 frm)).1 h1
          refine ⟨max s.1 frm, by omega, hv.1, ⟨s, by simp, by omega⟩, ?_⟩
          show fnd (if s.1 ≤ max s.1 frm then s.2 else -1) d _ = m
          rw [if_pos (by omega), fnd_none _ _ _ hv.2, h2]
      · rintro ⟨v, h1, h2, ⟨t, ht, h3⟩, h4⟩
        by_cases hd : ∃ u ∈ d, u.1 ≤ v
        · exact .inl ⟨v, h1, h2, hd, by rw [← h4]; exact fnd_any hd _ _⟩
        · have hall : ∀ u ∈ d, v < u.1 := fun u hu => by
            by_cases h5 : u.1 ≤ v
            · exact absurd ⟨u, hu, h5⟩ hd
            · omega
          have hs : s.1 ≤ v := by
            rcases List.mem_cons.1 ht with rfl | ht
            · exact h3
            · exact absurd ⟨t, ht, h3⟩ hd
          have h5 := (i1 v).2 ⟨h2, hall⟩
          have h6 : fnd (if s.1 ≤ v then s.2 else -1) d v = m := h4
          rw [if_pos hs, fnd_none _ _ _ hall] at h6
          exact .inr ⟨by omega, h6.symm⟩
theorem hSt_done {l : List Sp} {frm till : Int} {n : Nat} (hn : l.length = n) {xs : List (Rd n)} (h : Told xs) (hl : xs.length = n) (m : Int) :
    m ∈ (hSt l frm till (xs.map (·.1))).1 ↔ ∃ v, frm ≤ v ∧ v < till ∧ (∃ s ∈ l, s.1 ≤ v) ∧ find l v = m := by
  have := (hSt_inv l frm till n (by omega)).2 m
  rw [hn, Nat.sub_self, List.drop_zero] at this
  rw [h.2, hl]
  exact this
theorem hSt_typed (l : List Sp) (frm till : Int) (ht : ∀ s ∈ l, I64 s.1 ∧ I64 s.2) {n : Nat} (hn : l.length = n) (xs : List (Rd n)) : ∀ m ∈ (hSt l frm till (xs.map (·.1))).1, I64 m := by
  have : ∀ (ys : List (Rd n)) (o : List Int × Int), (∀ m ∈ o.1, I64 m) → ∀ m ∈ ((ys.map (·.1)).foldl (fun o i => hStep frm o (spn l i)) o).1, I64 m := by
    intro ys
    induction ys with
    | nil => exact fun o h => h
    | cons y r ih =>
      intro o h
      refine ih _ ?_
      intro m hm
      have hm' : m ∈ (if max (spn l y.1).1 frm < o.2 then o.1 ++ [(spn l y.1).2] else o.1) := hm
      split at hm'
      · rcases List.mem_append.1 hm' with h1 | h1
        · exact h m h1
        · rw [List.mem_singleton.1 h1]; exact (ht _ (spn_mem (by rw [hn]; exact y.2))).2
      · exact h m hm'
  exact this xs ([], till) (fun m hm => by cases hm)

/-! ### the set, as a map -/
def keyI (x : Int) : Lit := .int .i64 x
def uD : DataW Unit := .agg []
def setD (o : List Int) : DataW Unit := setOf uD (o.map keyI)
def SetAt (W : World) (b n : Nat) (o : List Int) : Prop := W.ownsMap Try.prog 3 (unitElem (H := Unit)) b n (setD o)
theorem lawI : Keyed Try.prog 3 := int_keyed Try.underlying3
theorem setD_snoc (o : List Int) (x : Int) : (setD o).put (keyI x) uD = setD (o ++ [x]) := by
  unfold setD
  rw [List.map_append, List.map_singleton, setOf_snoc]
theorem wf_i64 {x : Int} (h : I64 x) : (Lit.int .i64 x).wf = true := by
  unfold I64 at h
  exact WalkArith.wf_i64 (by omega)
theorem maxE (a b : Int) : (if a < b then b else a) = max a b := by omega
theorem minE (a b : Int) : (if b < a then b else a) = min a b := by omega

/-- between two rounds -/
structure HInv (w : World) (a : Option Addr) (n c : Nat) (frm t : Int) (o : List Int) (k : Nat) (W : World) : Prop where
  fr : Go.Boxed W w.heap.size 3 (.int .i64 frm)
  til : Go.Boxed W (w.heap.size + 1) 3 (.int .i64 t)
  set : SetAt W (w.heap.size + 2) k o
  ms : Go.Boxed W (w.heap.size + 3) 60 (.map (some (w.heap.size + 2)))
  box : Go.Boxed W (w.heap.size + 4) 27 (.slice a n c)
  bel : Below w.heap.size w W
theorem hinv_own {β : Type} (w : World) (a : Option Addr) (n c : Nat) (frm t : Int) (o : List Int) (k B : Nat) (hB : w.heap.size + 2 < B) : OwnFrom B (fun (_ : β) W => HInv w a n c frm t o k W) := by
  rintro s X Y row h hg hrow
  refine ⟨?_, ?_, ?_, ?_, ?_, ownFrom_below (β := β) (Nat.le_refl _) (by omega) s X Y row h.bel hg hrow⟩
  · exact boxed_own (β := β) _ _ (fun _ => _) s X Y row h.fr hg fun r e => (hrow r e).2
  · exact boxed_own (β := β) _ _ (fun _ => _) s X Y row h.til hg fun r e => (hrow r e).2
  · exact World.ownsMap.kept h.set hg fun e => by have := (hrow _ e.symm).1; omega
  · exact boxed_own (β := β) _ _ (fun _ => _) s X Y row h.ms hg fun r e => (hrow r e).2
  · exact boxed_own (β := β) _ _ (fun _ => _) s X Y row h.box hg fun r e => (hrow r e).2
theorem HInv.grown {w W W' : World} {a : Option Addr} {n c : Nat} {frm t : Int} {o : List Int} {k : Nat} (h : HInv w a n c frm t o k W) (hg : W.grownBy W' none) : HInv w a n c frm t o k W' :=
  hinv_own (β := Unit) w a n c frm t o k (w.heap.size + 3) (by omega) () W _ none h hg (fun _ e => by cases e)

/-- behind the rounds of 'pre' -/
def HI (w : World) (a : Option Addr) (n c : Nat) (l : List Sp) (frm till : Int) (pre : List (Rd n)) (W : World) : Prop :=
  HInv w a n c frm (hSt l frm till (pre.map (·.1))).2 (hSt l frm till (pre.map (·.1))).1 pre.length W
theorem hi_own (w : World) (a : Option Addr) (n c : Nat) (l : List Sp) (frm till : Int) (B : Nat) (hB : w.heap.size + 2 < B) : OwnFrom B (HI w a n c l frm till) :=
  fun s X Y row h hg hrow => hinv_own (β := Unit) w a n c frm _ _ _ B hB () X Y row h hg hrow
theorem hi_step {w W W1 : World} {a : Option Addr} {n c : Nat} {l : List Sp} {frm till : Int} {pre : List (Rd n)} {x : Rd n} {x1 x2 t : Int} {o : List Int} (e1 : (spn l x.1).1 = x1) (e2 : (spn l x.1).2 = x2) (eo : hSt l frm till (pre.map (·.1)) = (o, t))
    (h : HInv w a n c frm t o pre.length W) (hset : SetAt W1 (w.heap.size + 2) (pre.length + 1) (if max x1 frm < t then o ++ [x2] else o)) (hg : W.grownBy W1 (some (w.heap.size + 2))) :
    KeepsFrom (w.heap.size + 5) W (W1.setCell ⟨w.heap.size + 1, 0, none⟩ (.int .i64 (min t x1))) ∧ Keeps w.heap.size (w.heap.size + 1 + 1 + 1 + 1) (.slice a n c) W (W1.setCell ⟨w.heap.size + 1, 0, none⟩ (.int .i64 (min t x1))) ∧ HI w a n c l frm till (pre ++ [x]) (W1.setCell ⟨w.heap.size + 1, 0, none⟩ (.int .i64 (min t x1))) := by
  have q := grownBy_setCell' W1 (w.heap.size + 1) (.int .i64 (min t x1))
  have b1 : Below w.heap.size W W1 := (Below.refl _ W).grown hg h.bel.size (fun j e => by cases e; omega)
  have b2 : Below w.heap.size W (W1.setCell ⟨w.heap.size + 1, 0, none⟩ (.int .i64 (min t x1))) := b1.setCell (p := ⟨w.heap.size + 1, 0, none⟩) (by simp) _
  refine ⟨(KeepsFrom.of_grownBy hg (fun j e => by cases e; omega)).trans ((KeepsOthers.setCell _ _ _).from _), ⟨b2, fun r => (r.kept hg (by rw [Ne, Option.some.injEq]; omega)).kept q (by rw [Ne, Option.some.injEq]; omega)⟩, ?_⟩
  unfold HI
  rw [List.map_append, List.map_singleton, hSt_snoc, eo, List.length_append, List.length_singleton]
  unfold hStep
  rw [e1, e2]
  refine ⟨(h.fr.kept hg (by simp)).kept q (by simp), (h.til.kept hg (by simp)).set _, World.ownsMap.kept hset q (by simp), (h.ms.kept hg (by simp)).kept q (by simp), (h.box.kept hg (by simp)).kept q (by simp), h.bel.trans b2⟩

/-- what holders hands back: a new map, whose keys are those nodes -/
def Held (w : World) (n : Nat) (l : List Sp) (frm till : Int) (e : Ending) (w' : World) : Prop :=
  ∃ b o, e = .returned (.map (some b)) ∧ SetAt w' b n o ∧ (∀ m ∈ o, I64 m) ∧ (∀ m, m ∈ o ↔ ∃ v, frm ≤ v ∧ v < till ∧ (∃ s ∈ l, s.1 ≤ v) ∧ find l v = m) ∧ w.heap.size ≤ b ∧ Below w.heap.size w w'
set_option maxRecDepth 100000 in
set_option maxHeartbeats 4000000 in
theorem holders_any (a : Option Addr) (n c : Nat) (l : List Sp) (frm till : Int) (w : World) (h : Sps w a n c l) (hnM : n ≤ maxLen) :
    Calls Try.prog 30 #[.slice a n c, .int .i64 frm, .int .i64 till] w (Held w n l frm till) := by
  refine (callsIn_wide (n := 5)).1 ?_
  refine callsIn_of_wp_marks Try.func30 rfl trivial ?_ rfl
  simp only [Try.ntmps30, List.size_toArray, List.length_cons, List.length_nil, Nat.reduceAdd, Nat.reduceSub, Array.replicate_succ, Array.replicate_zero, List.push_toArray, List.append_toArray, List.nil_append, List.cons_append]
  have HS : Aside (Sps w a n c l) := h
  clear h
  have hmm := @run_makeMap Try.prog
  gi_wp2_with (refine ⟨trivial, ?_⟩; gi_at_call 40; refine (callsIn_wide.2 (back_in n c a _)).mono ?_; rintro e w1 ⟨rfl, rfl⟩)
  have hlow : l ≠ [] → ∀ p, a = some p → p.block < w.heap.size := HS.out.mem.low
  have bF := Go.Boxed.new w 3 (.int .i64 frm)
  have b1 : Below w.heap.size w (w.alloc (.cells #[.int .i64 frm] 3)) := (Below.refl _ w).alloc (Nat.le_refl _) _
  obtain ⟨W1, hW1⟩ : ∃ W1, w.alloc (.cells #[.int .i64 frm] 3) = W1 := ⟨_, rfl⟩
  have s1 : W1.heap.size = w.heap.size + 1 := by rw [← hW1]; simp
  have bT := Go.Boxed.new W1 3 (.int .i64 till)
  obtain ⟨W2, hW2⟩ : ∃ W2, W1.alloc (.cells #[.int .i64 till] 3) = W2 := ⟨_, rfl⟩
  have s2 : W2.heap.size = w.heap.size + 2 := by rw [← hW2]; simp [s1]
  have bD : SetAt (W2.alloc (.map #[] 0)) W2.heap.size 0 [] := World.ownsMap_made _ _ _ _
  obtain ⟨W3, hW3⟩ : ∃ W3, W2.alloc (.map #[] 0) = W3 := ⟨_, rfl⟩
  have s3 : W3.heap.size = w.heap.size + 3 := by rw [← hW3]; simp [s2]
  have bS := Go.Boxed.new W3 60 (.map (some (w.heap.size + 2)))
  obtain ⟨W4, hW4⟩ : ∃ W4, W3.alloc (.cells #[.map (some (w.heap.size + 2))] 60) = W4 := ⟨_, rfl⟩
  have s4 : W4.heap.size = w.heap.size + 4 := by rw [← hW4]; simp [s3]
  have bB := Go.Boxed.new W4 27 (.slice a n c)
  obtain ⟨W5, hW5⟩ : ∃ W5, W4.alloc (.cells #[.slice a n c] 27) = W5 := ⟨_, rfl⟩
  have s5 : W5.heap.size = w.heap.size + 5 := by rw [← hW5]; simp [s4]
  have F0 : HInv w a n c frm till [] 0 W5 := by
    rw [hW1] at bF b1
    rw [hW2, s1] at bT
    rw [hW3, s2] at bD
    rw [hW4, s3] at bS
    rw [hW5, s4] at bB
    have g2 : W1.grownBy W2 none := by rw [← hW2]; exact World.grownBy_alloc _ _ _
    have g3 : W2.grownBy W3 none := by rw [← hW3]; exact World.grownBy_alloc _ _ _
    have g4 : W3.grownBy W4 none := by rw [← hW4]; exact World.grownBy_alloc _ _ _
    have g5 : W4.grownBy W5 none := by rw [← hW5]; exact World.grownBy_alloc _ _ _
    refine ⟨(((bF.kept g2 (by simp)).kept g3 (by simp)).kept g4 (by simp)).kept g5 (by simp), ((bT.kept g3 (by simp)).kept g4 (by simp)).kept g5 (by simp), World.ownsMap.kept (World.ownsMap.kept bD g4 (by simp)) g5 (by simp), bS.kept g5 (by simp), bB, ?_⟩
    have q2 : Below w.heap.size w W2 := by rw [← hW2]; exact b1.alloc (by omega) _
    have q3 : Below w.heap.size w W3 := by rw [← hW3]; exact q2.alloc (by omega) _
    have q4 : Below w.heap.size w W4 := by rw [← hW4]; exact q3.alloc (by omega) _
    rw [← hW5]; exact q4.alloc (by omega) _
  have HW : Hid (((((w.alloc (.cells #[.int .i64 frm] 3)).alloc (.cells #[.int .i64 till] 3)).alloc (.map #[] 0)).alloc (.cells #[.map (some (w.heap.size + 1 + 1))] 60)).alloc (.cells #[.slice a n c] 27) = W5) := by show _ = _; rw [hW1, hW2, hW3, show w.heap.size + 1 + 1 = w.heap.size + 2 from rfl, hW4, hW5]
  clear bF b1 bT bD bS bB hW1 hW2 hW3 hW4 hW5 s1 s2 s3 s4 hmm
  rw [HW.out]
  refine wpIn_rangeFunc_ownH rfl (by omega) (gf := 52) (lb := #[.pointer (some ⟨w.heap.size + 1 + 1 + 1 + 1, 0, none⟩)]) rfl trivial (enters_of Try.func52 (by kernel_rfl) rfl)
    (back_stops (5 - 1) n c (w.heap.size + 1 + 1 + 1 + 1) w.heap.size a l (by omega) _ (HS.out.keep F0.bel) hlow F0.box) keeps_t (keeps_b (by omega) (by omega)) (Below.refl _ _) (fun _ => rfl)
    (HI w a n c l frm till) (fun _ _ _ => False)
    (hi_own w a n c l frm till _ (by omega))
    (fun _ _ _ _ _ hs _ _ => hs)
    F0
    (fun x a' W => ∃ Bq, w.heap.size + 5 ≤ Bq ∧ Bx W Bq (spC (spn l x.1)) 38 ∧ a' = { tmps := #[.slice a n c, .int .i64 frm, .int .i64 till, undef, .pointer (some ⟨w.heap.size, 0, none⟩), .pointer (some ⟨w.heap.size + 1, 0, none⟩), .map none, .pointer (some ⟨w.heap.size + 1 + 1 + 1, 0, none⟩), undef, .pointer (some ⟨Bq, 0, none⟩), .map (some (w.heap.size + 1 + 1)), .slice a n c, .func (.func 52) #[] #[.pointer (some ⟨w.heap.size + 1 + 1 + 1 + 1, 0, none⟩)], .int .i64 (x.1 : Int), spV (spn l x.1), undef, undef, undef, undef, undef, undef, undef, undef, undef, undef, undef, undef, undef, undef, undef], defers := [] })
    (by
      rintro x a' s X Y row ⟨Bq, h1, h2, h3⟩ hg hrow
      exact ⟨Bq, h1, boxed_ownN (β := Unit) _ _ _ s X Y row h2 hg fun r e => (hrow r e).2, h3⟩)
    ?assign ?body ?done ?stop
  case assign =>
    rintro l2 pre x W K hF hK
    have hsz := HInv.box hF |>.lt
    unfold encR spV
    gi_wp2
    refine hK _ _ ((KeepsOthers.alloc _ _).from _) ⟨(Below.refl _ W).alloc (by omega) _, fun q => q.alloc _⟩ (HInv.grown hF (World.grownBy_alloc _ _ _)) ⟨W.heap.size, ?_, Bx.new W (spC (spn l x.1)) _, rfl⟩
    omega
  case body =>
    rintro li pre x a' W hl0 _ hF ⟨Bq, hBq, hX, rfl⟩ hlt
    have c0 : W.cell? ⟨Bq, 0, none⟩ = some (.int .i64 (spn l x.1).1) := hX.cell (j := 0) rfl
    have c1 : W.cell? ⟨Bq, 1, none⟩ = some (.int .i64 (spn l x.1).2) := hX.cell (j := 1) rfl
    have hty := HS.out.mem.typed _ (spn_mem (by rw [HS.out.len]; exact x.2))
    have hF' : HInv w a n c frm (hSt l frm till (pre.map (·.1))).2 (hSt l frm till (pre.map (·.1))).1 pre.length W := hF
    clear hF
    obtain ⟨o, t, eo⟩ : ∃ o t, hSt l frm till (pre.map (·.1)) = (o, t) := ⟨_, _, rfl⟩
    rw [eo] at hF'
    dsimp only at hF'
    have hF := hF'
    clear hF'
    obtain ⟨x1, hx1⟩ : ∃ x1, (spn l x.1).1 = x1 := ⟨_, rfl⟩
    obtain ⟨x2, hx2⟩ : ∃ x2, (spn l x.1).2 = x2 := ⟨_, rfl⟩
    have HS1 : Aside (∀ W1, SetAt W1 (w.heap.size + 2) (pre.length + 1) (if max x1 frm < t then o ++ [x2] else o) → W.grownBy W1 (some (w.heap.size + 2)) → _ ∧ _ ∧ _) := fun W1 hs hg => hi_step hx1 hx2 eo hF hs hg
    rw [hx1] at c0 hty
    rw [hx2] at c1 hty
    clear hx1 hx2 eo
    generalize spV (spn l x.1) = xv
    have cf : W.cell? ⟨w.heap.size, 0, none⟩ = some (.int .i64 frm) := hF.fr.cell
    have ct : W.cell? ⟨w.heap.size + 1, 0, none⟩ = some (.int .i64 t) := hF.til.cell
    have ft := hF.til.frozen
    have cm : W.cell? ⟨w.heap.size + 1 + 1 + 1, 0, none⟩ = some (.map (some (w.heap.size + 2))) := hF.ms.cell
    have hset := hF.set
    have hlen : pre.length < maxLen := Nat.lt_of_lt_of_le hlt hnM
    have hT1 := hF.til
    clear hF hX
    rw [s5]
    by_cases hmx : x1 < frm
    · rw [show max x1 frm = frm by omega] at HS1
      have hmx2 : ¬ frm < x1 := by omega
      by_cases hm : frm < t
      · rw [if_pos hm] at HS1
        have hmn : x1 < t := by omega
        have hmn2 : ¬ t < x1 := by omega
        rw [show min t x1 = x1 by omega] at HS1
        gi_wp2_with (gi_at_mapUpdate; refine wpListIn_mapUpdate_own _ rfl _ _ _ 60 rfl 3 63 lawI Try.underlying60 _ (w.heap.size + 2) pre.length _ rfl hset hlen _ _ (keyI x2) rfl rfl (keyOf_int_mk Try.underlying3 (wf_i64 hty.2)) uD [] rfl ?_; intro w1 hown1 hgrow1; have ct1 : w1.cell? ⟨w.heap.size + 1, 0, none⟩ = some (.int .i64 t) := hgrow1.cell (a := ⟨w.heap.size + 1, 0, none⟩) ct (by simp); have c01 : w1.cell? ⟨Bq, 0, none⟩ = some (.int .i64 x1) := hgrow1.cell (a := ⟨Bq, 0, none⟩) c0 (by simp <;> omega); have ft1 : w1.frozen? ⟨w.heap.size + 1, 0, none⟩ = false := (hT1.kept hgrow1 (by simp)).frozen)
        rw [setD_snoc] at hown1
        exact HS1.out w1 hown1 hgrow1
      · rw [if_neg hm] at HS1
        by_cases hmn : x1 < t
        · have hmn2 : ¬ t < x1 := by omega
          rw [show min t x1 = x1 by omega] at HS1
          gi_wp2
          exact HS1.out W (World.ownsMap.mono hset (Nat.le_succ _)) (World.grownBy.refl _ _)
        · rw [show min t x1 = t by omega] at HS1
          by_cases hmn2 : t < x1
          · gi_wp2
            exact HS1.out W (World.ownsMap.mono hset (Nat.le_succ _)) (World.grownBy.refl _ _)
          · obtain rfl : x1 = t := by omega
            gi_wp2
            exact HS1.out W (World.ownsMap.mono hset (Nat.le_succ _)) (World.grownBy.refl _ _)
    · rw [show max x1 frm = x1 by omega] at HS1
      by_cases hm : x1 < t
      · rw [if_pos hm] at HS1
        have hmn2 : ¬ t < x1 := by omega
        rw [show min t x1 = x1 by omega] at HS1
        by_cases hmx2 : frm < x1
        · gi_wp2_with (gi_at_mapUpdate; refine wpListIn_mapUpdate_own _ rfl _ _ _ 60 rfl 3 63 lawI Try.underlying60 _ (w.heap.size + 2) pre.length _ rfl hset hlen _ _ (keyI x2) rfl rfl (keyOf_int_mk Try.underlying3 (wf_i64 hty.2)) uD [] rfl ?_; intro w1 hown1 hgrow1; have ct1 : w1.cell? ⟨w.heap.size + 1, 0, none⟩ = some (.int .i64 t) := hgrow1.cell (a := ⟨w.heap.size + 1, 0, none⟩) ct (by simp); have c01 : w1.cell? ⟨Bq, 0, none⟩ = some (.int .i64 x1) := hgrow1.cell (a := ⟨Bq, 0, none⟩) c0 (by simp <;> omega); have ft1 : w1.frozen? ⟨w.heap.size + 1, 0, none⟩ = false := (hT1.kept hgrow1 (by simp)).frozen)
          rw [setD_snoc] at hown1
          exact HS1.out w1 hown1 hgrow1
        · obtain rfl : frm = x1 := by omega
          gi_wp2_with (gi_at_mapUpdate; refine wpListIn_mapUpdate_own _ rfl _ _ _ 60 rfl 3 63 lawI Try.underlying60 _ (w.heap.size + 2) pre.length _ rfl hset hlen _ _ (keyI x2) rfl rfl (keyOf_int_mk Try.underlying3 (wf_i64 hty.2)) uD [] rfl ?_; intro w1 hown1 hgrow1; have ct1 : w1.cell? ⟨w.heap.size + 1, 0, none⟩ = some (.int .i64 t) := hgrow1.cell (a := ⟨w.heap.size + 1, 0, none⟩) ct (by simp); have c01 : w1.cell? ⟨Bq, 0, none⟩ = some (.int .i64 frm) := hgrow1.cell (a := ⟨Bq, 0, none⟩) c0 (by simp <;> omega); have ft1 : w1.frozen? ⟨w.heap.size + 1, 0, none⟩ = false := (hT1.kept hgrow1 (by simp)).frozen)
          rw [setD_snoc] at hown1
          exact HS1.out w1 hown1 hgrow1
      · rw [if_neg hm] at HS1
        rw [show min t x1 = t by omega] at HS1
        by_cases hmx2 : frm < x1
        · by_cases hmn2 : t < x1
          · gi_wp2
            exact HS1.out W (World.ownsMap.mono hset (Nat.le_succ _)) (World.grownBy.refl _ _)
          · obtain rfl : x1 = t := by omega
            gi_wp2
            exact HS1.out W (World.ownsMap.mono hset (Nat.le_succ _)) (World.grownBy.refl _ _)
        · obtain rfl : frm = x1 := by omega
          by_cases hmn2 : t < frm
          · gi_wp2
            exact HS1.out W (World.ownsMap.mono hset (Nat.le_succ _)) (World.grownBy.refl _ _)
          · obtain rfl : frm = t := by omega
            gi_wp2
            exact HS1.out W (World.ownsMap.mono hset (Nat.le_succ _)) (World.grownBy.refl _ _)
  case done =>
    rintro D xs W hD ⟨hT, hl⟩ hF hK
    have cm : W.cell? ⟨w.heap.size + 1 + 1 + 1, 0, none⟩ = some (.map (some (w.heap.size + 2))) := hF.ms.cell
    have HF : Aside (_ ∧ _ ∧ _) := ⟨show HInv w a n c frm (hSt l frm till (xs.map (·.1))).2 (hSt l frm till (xs.map (·.1))).1 xs.length W from hF, hSt_done (frm := frm) (till := till) HS.out.len hT hl, hSt_typed l frm till HS.out.mem.typed HS.out.len xs⟩
    have HD : Aside (W.heap[D]? = some (.deferred (some []))) := hK
    have HL : Hid (xs.length = n) := hl
    clear hF hT hl hK
    gi_wp2
    refine ⟨by simp, .inl ⟨_, _, rfl, run_takeDeferred HD.out, ?_⟩⟩
    have hb := HF.out.1.bel.trans (belowK_b (w := w) (Nat.le_refl _) _ D _ (.deferred none) (by omega) HD.out rfl rfl)
    have hs : SetAt (W.putObj D (.deferred none)) (w.heap.size + 2) n (hSt l frm till (xs.map (·.1))).1 :=
      World.ownsMap.mono (World.ownsMap.kept HF.out.1.set (grownBy_putObj' _ D _) (by simp; omega)) (Nat.le_of_eq HL.out)
    refine ⟨_, results_tmp rfl _ _ _, ?_⟩
    unfold Held
    exact ⟨_, _, rfl, hs, HF.out.2.2, HF.out.2.1, by omega, hb⟩
  case stop =>
    rintro D cc pre W hD hT h _
    exact h.elim
end Go.Proofs.Ytfhihkogdnbghaa.spans
