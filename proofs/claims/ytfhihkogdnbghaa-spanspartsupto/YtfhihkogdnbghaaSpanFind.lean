/-
  The contract of spans.Find.
-/
import Derived.Test.YtfhihkogdnbghaaSpanBack
namespace Go.Proofs.Ytfhihkogdnbghaa.spans
open Go.ChangeShapes Go.WideShapes Go.ChangeAt Go.RowKit Go.Deep Go.Shelf
open Go.Proofs.Ytfhihkogdnbghaa.bytes (ret_bool hid nth addr_add cell_lt own_below own_mono)
set_option linter.unusedVariables false
set_option maxRecDepth 100000
set_option linter.unusedSimpArgs false
attribute [local go_sem] Oper.semAt_some

/-- all the spans that were told begin above the member -/
def Above (l : List Sp) (v : Int) {n : Nat} (pre : List (Rd n)) : Prop := ∀ x ∈ pre, v < (spn l x.1).1
theorem desc_mem {n k i : Nat} (hk : k ≤ n) : i ∈ desc n k ↔ n - k ≤ i ∧ i < n := by
  induction k with
  | zero => simp [desc]; try omega
  | succ k ih =>
    rw [desc, List.mem_append, ih (by omega), List.mem_singleton]
    omega
theorem told_mem {n : Nat} {pre : List (Rd n)} (h : Told pre) {i : Nat} (h1 : n - pre.length ≤ i) (h2 : i < n) : ∃ x ∈ pre, x.1 = i := by
  have : i ∈ pre.map (·.1) := by rw [h.2, desc_mem h.1]; exact ⟨h1, h2⟩
  obtain ⟨x, hx, e⟩ := List.mem_map.1 this
  exact ⟨x, hx, e⟩
theorem above_drop {l : List Sp} {v : Int} {n : Nat} (hn : l.length = n) {pre : List (Rd n)} (h : Told pre) (ha : Above l v pre) : ∀ s ∈ l.drop (n - pre.length), v < s.1 := fun s hs => by
  obtain ⟨i, hi, rfl⟩ := List.mem_iff_getElem.1 hs
  rw [List.length_drop] at hi
  obtain ⟨x, hx, e⟩ := told_mem h (i := n - pre.length + i) (by omega) (by omega)
  have := ha x hx
  rw [e, spn_eq (by omega)] at this
  rw [List.getElem_drop]
  exact this
/-- no span was at or below it -/
theorem find_done {l : List Sp} {v : Int} {n : Nat} (hn : l.length = n) {xs : List (Rd n)} (h : Told xs) (hl : xs.length = n) (ha : Above l v xs) : find l v = -1 := by
  have := above_drop hn h ha
  rw [hl, Nat.sub_self, List.drop_zero] at this
  exact fnd_none _ _ _ this
/-- this is the one -/
theorem find_hit {l : List Sp} {v : Int} {n : Nat} (hn : l.length = n) {pre : List (Rd n)} {x : Rd n} (h : Told (pre ++ [x])) (ha : Above l v pre) (hx : (spn l x.1).1 ≤ v) : find l v = (spn l x.1).2 := by
  have hk : pre.length < n := by have := h.1; rw [List.length_append, List.length_singleton] at this; omega
  have hp : Told pre := by
    refine ⟨by omega, ?_⟩
    have := h.2
    rw [List.map_append, List.length_append, List.length_singleton, desc] at this
    exact (List.append_inj' this rfl).1
  have e : x.1 = n - (pre.length + 1) := by
    have := h.2
    rw [List.map_append, List.length_append, List.length_singleton, desc] at this
    have := (List.append_inj' this rfl).2
    simpa using this
  have hd := above_drop hn hp ha
  have h2 : l = l.take (x.1) ++ ([spn l x.1] ++ l.drop (x.1 + 1)) := by
    have h3 := drop_spn (l := l) (k := x.1) (by rw [hn]; exact x.2)
    show l = l.take x.1 ++ (spn l x.1 :: l.drop (x.1 + 1))
    rw [← h3, List.take_append_drop]
  rw [h2, find_app, fnd_app, fnd_none _ (l.drop (x.1 + 1)) v (by rw [e, show n - (pre.length + 1) + 1 = n - pre.length by omega]; exact hd)]
  rw [← h2]
  show (if (spn l x.1).1 ≤ v then (spn l x.1).2 else _) = _
  rw [if_pos hx]

/-- between two rounds -/
structure FInv (w : World) (ep : Int) (a : Option Addr) (n c : Nat) (v r : Int) (W : World) : Prop where
  mp : Bx W w.heap.size (mapC ep a n c) 29
  me : Bx W (w.heap.size + 1) #[.int .i64 v] 3
  res : Go.Boxed W (w.heap.size + 2) 3 (.int .i64 r)
  box : Go.Boxed W (w.heap.size + 3) 27 (.slice a n c)
  bel : Below w.heap.size w W
theorem finv_own {β : Type} (w : World) (ep : Int) (a : Option Addr) (n c : Nat) (v r : Int) (B : Nat) (hB : w.heap.size ≤ B) : OwnFrom B (fun (_ : β) W => FInv w ep a n c v r W) := by
  rintro s X Y row h hg hrow
  refine ⟨?_, ?_, ?_, ?_, ownFrom_below (β := β) (Nat.le_refl _) hB s X Y row h.bel hg hrow⟩
  · exact boxed_ownN (β := β) _ _ _ s X Y row h.mp hg fun r e => (hrow r e).2
  · exact boxed_ownN (β := β) _ _ _ s X Y row h.me hg fun r e => (hrow r e).2
  · exact boxed_own (β := β) _ _ (fun _ => _) s X Y row h.res hg fun r e => (hrow r e).2
  · exact boxed_own (β := β) _ _ (fun _ => _) s X Y row h.box hg fun r e => (hrow r e).2
theorem FInv.alloc {w W : World} {ep : Int} {a : Option Addr} {n c : Nat} {v r : Int} (h : FInv w ep a n c v r W) (o : Obj) : FInv w ep a n c v r (W.alloc o) :=
  finv_own (β := Unit) w ep a n c v r w.heap.size (Nat.le_refl _) () W _ none h (World.grownBy_alloc W o none) (fun _ e => by cases e)

theorem results_cell_int {fn : Func} {p : Tmp} (h : fn.results = #[.cell p 3]) (tmps : Array Value) (w : World) (g : Nat) (v : Value) (hp : tmps.getD p undef = .pointer (some ⟨g, 0, none⟩)) (hc : w.cell? ⟨g, 0, none⟩ = some v) : (results fn tmps).run Try.prog w = .ok v w := by
  have hp' : tmps[p]?.getD undef = .pointer (some ⟨g, 0, none⟩) := by simpa using hp
  simp [results, h, hp', asAddr]
  go_simp

set_option maxRecDepth 100000 in
set_option maxHeartbeats 4000000 in
theorem find_any (ep : Int) (a : Option Addr) (n c : Nat) (l : List Sp) (v : Int) (w : World) (h : Sps w a n c l) :
    Calls Try.prog 19 #[mapV ep a n c, .int .i64 v] w fun e w' => e = .returned (.int .i64 (find l v)) ∧ Below w.heap.size w w' := by
  refine (callsIn_wide (n := 5)).1 ?_
  refine callsIn_of_wp_marks Try.func19 rfl trivial ?_ rfl
  simp only [Try.ntmps19, List.size_toArray, List.length_cons, List.length_nil, Nat.reduceAdd, Nat.reduceSub, Array.replicate_succ, Array.replicate_zero, List.push_toArray, List.append_toArray, List.nil_append, List.cons_append]
  unfold mapV
  have HS : Aside (Sps w a n c l) := h
  clear h
  gi_wp2_with (refine ⟨trivial, ?_⟩; gi_at_call 40; refine (callsIn_wide.2 (back_in n c a _)).mono ?_; rintro e w1 ⟨rfl, rfl⟩)
  have hlow : l ≠ [] → ∀ p, a = some p → p.block < w.heap.size := HS.out.mem.low
  have bM := Bx.new w (mapC ep a n c) 29
  have b1 : Below w.heap.size w (w.alloc (.cells (mapC ep a n c) 29)) := (Below.refl _ w).alloc (Nat.le_refl _) _
  obtain ⟨W1, hW1⟩ : ∃ W1, w.alloc (.cells (mapC ep a n c) 29) = W1 := ⟨_, rfl⟩
  have s1 : W1.heap.size = w.heap.size + 1 := by rw [← hW1]; simp
  have bV := Bx.new W1 #[.int .i64 v] 3
  obtain ⟨W2, hW2⟩ : ∃ W2, W1.alloc (.cells #[.int .i64 v] 3) = W2 := ⟨_, rfl⟩
  have s2 : W2.heap.size = w.heap.size + 2 := by rw [← hW2]; simp [s1]
  have bR := Go.Boxed.new W2 3 (.int .i64 0)
  obtain ⟨W3, hW3⟩ : ∃ W3, W2.alloc (.cells #[.int .i64 0] 3) = W3 := ⟨_, rfl⟩
  have s3 : W3.heap.size = w.heap.size + 3 := by rw [← hW3]; simp [s2]
  have bB := Go.Boxed.new W3 27 (.slice a n c)
  obtain ⟨W4, hW4⟩ : ∃ W4, W3.alloc (.cells #[.slice a n c] 27) = W4 := ⟨_, rfl⟩
  have s4 : W4.heap.size = w.heap.size + 4 := by rw [← hW4]; simp [s3]
  have F0 : FInv w ep a n c v 0 W4 := by
    rw [hW1] at bM b1
    rw [hW2, s1] at bV
    rw [hW3, s2] at bR
    rw [hW4, s3] at bB
    have g2 : W1.grownBy W2 none := by rw [← hW2]; exact World.grownBy_alloc _ _ _
    have g3 : W2.grownBy W3 none := by rw [← hW3]; exact World.grownBy_alloc _ _ _
    have g4 : W3.grownBy W4 none := by rw [← hW4]; exact World.grownBy_alloc _ _ _
    refine ⟨((bM.grown g2 (by simp)).grown g3 (by simp)).grown g4 (by simp), (bV.grown g3 (by simp)).grown g4 (by simp), bR.kept g4 (by simp), bB, ?_⟩
    rw [← hW4, ← hW3, ← hW2]
    exact ((b1.alloc (by omega) _).alloc (by rw [hW2]; omega) _).alloc (by rw [hW2, hW3]; omega) _
  have HW : Hid ((((w.alloc (.cells (mapC ep a n c) 29)).alloc (.cells #[.int .i64 v] 3)).alloc (.cells #[.int .i64 0] 3)).alloc (.cells #[.slice a n c] 27) = W4) := by show _ = _; rw [hW1, hW2, hW3, hW4]
  clear bM b1 bV bR bB hW1 hW2 hW3 hW4 s1 s2 s3
  unfold mapC at HW
  rw [HW.out]
  refine wpIn_rangeFunc_ownH rfl (by omega) (gf := 52) (lb := #[.pointer (some ⟨w.heap.size + 1 + 1 + 1, 0, none⟩)]) rfl trivial (enters_of Try.func52 (by kernel_rfl) rfl)
    (back_stops (5 - 1) n c (w.heap.size + 1 + 1 + 1) w.heap.size a l (by omega) _ (HS.out.keep F0.bel) hlow F0.box) keeps_t (keeps_b (by omega) (by omega)) (Below.refl _ _) (fun _ => rfl)
    (fun pre W => Above l v pre ∧ FInv w ep a n c v 0 W) (fun cc pre W => cc = Code.ret ∧ ∃ p x, pre = p ++ [x] ∧ Above l v p ∧ (spn l x.1).1 ≤ v ∧ FInv w ep a n c v (spn l x.1).2 W)
    (OwnFrom.and (ownFrom_pure _ _) (finv_own w ep a n c v 0 _ (by omega)))
    (fun _ => by
      rintro pre X Y row ⟨h0, p, x, h1, h2, h3, h4⟩ hg hrow
      exact ⟨h0, p, x, h1, h2, h3, finv_own (β := Unit) w ep a n c v _ _ (by omega) () X Y row h4 hg hrow⟩)
    ⟨fun x hx => by simp at hx, F0⟩
    (fun x a' W => ∃ Bq, w.heap.size + 4 ≤ Bq ∧ Bx W Bq (spC (spn l x.1)) 38 ∧ a' = { tmps := #[.agg #[.int .u32 ep, .slice a n c], .int .i64 v, .pointer (some ⟨w.heap.size, 0, none⟩), .pointer (some ⟨w.heap.size + 1, 0, none⟩), .pointer (some ⟨w.heap.size + 1 + 1, 0, none⟩), undef, .pointer (some ⟨Bq, 0, none⟩), .pointer (some ⟨w.heap.size, 1, none⟩), .slice a n c, .func (.func 52) #[] #[.pointer (some ⟨w.heap.size + 1 + 1 + 1, 0, none⟩)], .int .i64 (x.1 : Int), spV (spn l x.1), undef, undef, undef, undef, undef, undef], defers := [] })
    (by
      rintro x a' s X Y row ⟨Bq, h1, h2, h3⟩ hg hrow
      exact ⟨Bq, h1, boxed_ownN (β := Unit) _ _ _ s X Y row h2 hg fun r e => (hrow r e).2, h3⟩)
    ?assign ?body ?done ?stop
  case assign =>
    rintro l2 pre x W K ⟨hA, hF⟩ hK
    have hsz := hF.box.lt
    unfold encR spV
    gi_wp2
    refine hK _ _ ((KeepsOthers.alloc _ _).from _) ⟨(Below.refl _ W).alloc (by omega) _, fun q => q.alloc _⟩ ⟨hA, hF.alloc _⟩ ⟨W.heap.size, ?_, Bx.new W (spC (spn l x.1)) _, rfl⟩
    omega
  case body =>
    rintro li pre x a' W hl0 _ ⟨hA, hF⟩ ⟨Bq, hBq, hX, rfl⟩ hlt
    have c0 : W.cell? ⟨Bq, 0, none⟩ = some (.int .i64 (spn l x.1).1) := hX.cell (j := 0) rfl
    have c1 : W.cell? ⟨Bq, 1, none⟩ = some (.int .i64 (spn l x.1).2) := hX.cell (j := 1) rfl
    have cv : W.cell? ⟨w.heap.size + 1, 0, none⟩ = some (.int .i64 v) := hF.me.cell (j := 0) rfl
    have cr := hF.res.cell
    have fr := hF.res.frozen
    have HA : Aside (_ ∧ _) := ⟨hA, hF⟩
    have HE : Hid (spV (spn l x.1) = .agg #[.int .i64 (spn l x.1).1, .int .i64 (spn l x.1).2]) := rfl
    by_cases hle : (spn l x.1).1 ≤ v
    · have HX : Aside (FInv w ep a n c v (spn l x.1).2 (W.setCell ⟨w.heap.size + 1 + 1, 0, none⟩ (.int .i64 (spn l x.1).2))) := by
        have q := grownBy_setCell' W (w.heap.size + 2) (.int .i64 (spn l x.1).2)
        exact ⟨hF.mp.grown q (by simp), hF.me.grown q (by simp), hF.res.set _, hF.box.kept q (by simp), hF.bel.setCell (p := ⟨w.heap.size + 2, 0, none⟩) (by simp) _⟩
      have HL : Aside (∃ p y, pre ++ [x] = p ++ [y] ∧ Above l v p ∧ (spn l y.1).1 ≤ v ∧ FInv w ep a n c v (spn l y.1).2 (W.setCell ⟨w.heap.size + 1 + 1, 0, none⟩ (.int .i64 (spn l x.1).2))) := ⟨pre, x, rfl, hA, hle, HX.out⟩
      clear hA hF hX HX
      generalize hx1 : (spn l x.1).1 = x1 at c0 hle
      generalize hx2 : (spn l x.1).2 = x2 at c1 HL
      clear hx1 hx2
      generalize spV (spn l x.1) = xv
      gi_wp2
      exact ⟨(KeepsOthers.setCell _ _ _).from _, rfl, HL.out⟩
    · have HL : Aside (Above l v (pre ++ [x])) := fun y hy => by
        rcases List.mem_append.1 hy with hy | hy
        · exact hA y hy
        · rw [List.mem_singleton.1 hy]; omega
      clear hA hF hX
      generalize hx1 : (spn l x.1).1 = x1 at c0 hle
      generalize hx2 : (spn l x.1).2 = x2 at c1
      clear hx1 hx2
      generalize spV (spn l x.1) = xv
      gi_wp2
      exact ⟨KeepsFrom.refl _ _, ⟨Below.refl _ _, fun q => q⟩, HL.out, HA.out.2⟩
  case done =>
    rintro D xs W hD ⟨hT, hl⟩ ⟨hA, hF⟩ hK
    have e : Hid (find l v = -1) := find_done HS.out.len hT hl hA
    have cr := hF.res.cell
    have fr := hF.res.frozen
    have HF : Aside (FInv w ep a n c v 0 W) := hF
    have HD : Aside (W.heap[D]? = some (.deferred (some []))) := hK
    clear hF hA hT hl hK
    gi_wp2
    have q := grownBy_setCell' W (w.heap.size + 2) (.int .i64 (-1))
    have hK2 := (KeepsOthers.setCell W ⟨w.heap.size + 1 + 1, 0, none⟩ (.int .i64 (-1))).same D _ HD.out rfl
    refine ⟨by simp, .inl ⟨_, _, rfl, run_takeDeferred hK2, ?_⟩⟩
    have hB : Below w.heap.size w (W.setCell ⟨w.heap.size + 1 + 1, 0, none⟩ (.int .i64 (-1))) := HF.out.bel.setCell (p := ⟨w.heap.size + 2, 0, none⟩) (by simp) _
    have hc2 : Go.Boxed (W.setCell ⟨w.heap.size + 1 + 1, 0, none⟩ (.int .i64 (-1))) (w.heap.size + 2) 3 (.int .i64 (-1)) := HF.out.res.set _
    have hc3 : Go.Boxed ((W.setCell ⟨w.heap.size + 1 + 1, 0, none⟩ (.int .i64 (-1))).putObj D (.deferred none)) (w.heap.size + 2) 3 (.int .i64 (-1)) := hc2.kept (grownBy_putObj' _ D _) (by simp; omega)
    rw [e.out]
    exact ⟨_, results_cell_int rfl _ _ _ _ rfl hc3.cell, rfl, hB.trans (belowK_b (w := w) (Nat.le_refl _) _ D _ _ (by omega) hK2 rfl rfl)⟩
  case stop =>
    rintro D cc pre W hD hT ⟨rfl, p, x, rfl, hA, hx, hF⟩ hK
    have e : Hid (find l v = (spn l x.1).2) := find_hit HS.out.len hT hA hx
    generalize (spn l x.1).2 = r at e hF
    clear hA hT hx
    have HF : Aside (FInv w ep a n c v r W) := hF
    have HD : Aside (W.heap[D]? = some (.deferred (some []))) := hK
    clear hF hK
    gi_wp2
    refine ⟨by simp, .inl ⟨_, _, rfl, run_takeDeferred HD.out, ?_⟩⟩
    have hc3 : Go.Boxed (W.putObj D (.deferred none)) (w.heap.size + 2) 3 (.int .i64 r) := HF.out.res.kept (grownBy_putObj' _ D _) (by simp; omega)
    rw [e.out]
    exact ⟨_, results_cell_int rfl _ _ _ _ rfl hc3.cell, rfl, HF.out.bel.trans (belowK_b (w := w) (Nat.le_refl _) _ D _ _ (by omega) HD.out rfl rfl)⟩
end Go.Proofs.Ytfhihkogdnbghaa.spans
