/-
  Lists of rows at an address; the contracts of query.Join and of the chapter's Join: the table of many parts.
-/
import Derived.Test.YtgimknplckkiaaaDoorQueryCheck
import Derived.Test.YtgimknplckkiaaaDoorTableConcat
import Derived.Test.YtgimknplckkiaaaDoorTableRefMerge
namespace Go.Proofs.YtgimknplckkiaaaDoor.query
open Go.ChangeShapes Go.WideShapes Go.ChangeAt Go.RowKit Go.Deep
open Go.Proofs.YtgimknplckkiaaaDoor.dims
open Go.Proofs.YtgimknplckkiaaaDoor.table
open Go.Proofs.YtgimknplckkiaaaDoor.cell (C4 In64)
set_option linter.unusedVariables false
set_option maxRecDepth 100000

/-- a part: where it lies, and its rows -/
structure Pt where
  a : Option Addr
  cap : Nat
  rs : List Rw
def ptn (ps : List Pt) (i : Nat) : Pt := ps.getD i ⟨none, 0, []⟩
theorem ptn_eq {ps : List Pt} {i : Nat} (h : i < ps.length) : ptn ps i = ps[i] := by simp [ptn, h]
theorem ptn_mem {ps : List Pt} {i : Nat} (h : i < ps.length) : ptn ps i ∈ ps := by rw [ptn_eq h]; exact List.getElem_mem h
/-- parts at an address -/
def PartsIn (W : World) (a : Option Addr) (ps : List Pt) : Prop :=
  ps = [] ∨ ∃ b off, a = some ⟨b, off, none⟩ ∧ ∀ i, i < ps.length → W.cell? ⟨b, off + i, none⟩ = some (.slice (ptn ps i).a (ptn ps i).rs.length (ptn ps i).cap) ∧ table.RowsIn W (ptn ps i).a (ptn ps i).rs
theorem PartsIn.keep {w w1 : World} {a : Option Addr} {ps : List Pt} (h : PartsIn w a ps) (hb : Below w.heap.size w w1) : PartsIn w1 a ps := by
  rcases h with h | ⟨b, off, ha, hc⟩
  · exact .inl h
  · exact .inr ⟨b, off, ha, fun i hi => ⟨(hb.cell (p := ⟨b, off + i, none⟩) (cell_lt (hc i hi).1)).trans (hc i hi).1, (hc i hi).2.keep hb⟩⟩
theorem PartsIn.get {w : World} {a : Option Addr} {ps : List Pt} (h : PartsIn w a ps) {j : Nat} (hj : j < ps.length) : ∃ b off, a = some ⟨b, off, none⟩ ∧ ∀ i, i < ps.length → w.cell? ⟨b, off + i, none⟩ = some (.slice (ptn ps i).a (ptn ps i).rs.length (ptn ps i).cap) ∧ table.RowsIn w (ptn ps i).a (ptn ps i).rs := by
  rcases h with rfl | h
  · simp at hj
  · exact h
theorem PartsIn.rows {w : World} {a : Option Addr} {ps : List Pt} (h : PartsIn w a ps) {p : Pt} (hp : p ∈ ps) : table.RowsIn w p.a p.rs := by
  obtain ⟨i, hi, rfl⟩ := List.mem_iff_getElem.1 hp
  obtain ⟨b, off, -, hc⟩ := h.get hi
  have := (hc i hi).2
  rwa [ptn_eq hi] at this

/-- the rows of the first parts -/
def allR (ps : List Pt) (k : Nat) : List Rw := ((ps.take k).map (·.rs)).flatten
theorem allR_zero (ps : List Pt) : allR ps 0 = [] := by simp [allR]
theorem allR_succ {ps : List Pt} {k : Nat} (h : k < ps.length) : allR ps (k + 1) = allR ps k ++ (ptn ps k).rs := by
  unfold allR
  rw [List.take_succ_eq_append_getElem h, ptn_eq h, List.map_append, List.flatten_append]
  simp only [List.map_cons, List.map_nil, List.flatten_cons, List.flatten_nil, List.append_nil]
theorem allR_mem {ps : List Pt} {k : Nat} {r : Rw} (h : r ∈ allR ps k) : ∃ p ∈ ps, r ∈ p.rs := by
  unfold allR at h
  obtain ⟨l, hl, hr⟩ := List.mem_flatten.1 h
  obtain ⟨p, hp, rfl⟩ := List.mem_map.1 hl
  exact ⟨p, List.mem_of_mem_take hp, hr⟩
def plains (ps : List Pt) : List (List PRow) := ps.map fun p => p.rs.map plain
theorem allR_plain (ps : List Pt) (k : Nat) : (allR ps k).map plain = (plains (ps.take k)).flatten := by
  unfold allR plains
  rw [List.map_flatten, List.map_map]; rfl
/-- how many rows there are -/
def total (ps : List Pt) : Nat := (allR ps ps.length).length
theorem allR_le (ps : List Pt) (k : Nat) : (allR ps k).length ≤ total ps := by
  unfold total allR
  rw [List.take_length]
  have e : ps = ps.take k ++ ps.drop k := (List.take_append_drop k ps).symm
  conv => rhs; rw [e]
  rw [List.map_append, List.flatten_append, List.length_append]
  omega
theorem part_le {ps : List Pt} {k : Nat} (h : k < ps.length) : (ptn ps k).rs.length ≤ total ps := by
  have := allR_le ps (k + 1)
  rw [allR_succ h, List.length_append] at this
  omega

/-- the rows of the first parts, one behind the other -/
structure JS (w : World) (ps : List Pt) (k : Nat) (v : Value) (W : World) : Prop where
  own : W.ownsRow w.heap.size 63 5 v (allR ps k).length (flatR (allR ps k))
  bel : Below w.heap.size w W
theorem JS.start (w : World) (ps : List Pt) : JS w ps 0 (.slice none 0 0) w := ⟨by rw [allR_zero]; exact World.ownsRow_nil _ _ _ _, Below.refl _ _⟩
theorem JS.step {w W W1 : World} {ps : List Pt} {k g cap m : Nat} {v : Value} (h : JS w ps k v W) (hk : k < ps.length) (hm : (ptn ps k).rs.length = m)
    (ho : W1.ownsRow w.heap.size 63 5 (.slice (some ⟨g, 0, none⟩) ((allR ps k).length + m) cap) ((allR ps k).length + m) (flatR (allR ps k) ++ flatR (ptn ps k).rs)) (hg : W.grownBy W1 v.ownBlock) : JS w ps (k + 1) (.slice (some ⟨g, 0, none⟩) ((allR ps k).length + m) cap) W1 := by
  refine ⟨?_, h.bel.grown hg h.bel.size fun q hq => (h.own.lt q hq).1⟩
  rw [allR_succ hk, flatR_append, List.length_append, hm]; exact ho
theorem JS.same {w W : World} {ps : List Pt} {k : Nat} {v : Value} (h : JS w ps k v W) (hk : k < ps.length) (hm : (ptn ps k).rs.length = 0) : JS w ps (k + 1) v W := by
  have e : allR ps (k + 1) = allR ps k := by rw [allR_succ hk, List.eq_nil_of_length_eq_zero hm, List.append_nil]
  exact ⟨by rw [e]; exact h.own, h.bel⟩
theorem JS.rows {w W : World} {ps : List Pt} {k : Nat} {v : Value} (h : JS w ps k v W) (hk : ∀ r ∈ allR ps k, KeyOk w r.a r.k.length r.cap r.k) : ∃ a cap, v = .slice a (allR ps k).length cap ∧ table.RowsIn W a (allR ps k) := by
  have ho := h.own
  rcases ho.2 with ⟨hv, h0⟩ | ⟨g, cap, cur, hv, _, _, hc, hm, _⟩
  · exact ⟨none, 0, by rw [hv, h0], .inl (List.eq_nil_of_length_eq_zero h0)⟩
  · refine ⟨some ⟨g, 0, none⟩, cap, hv, .inr ⟨g, 0, rfl, fun i hi => ⟨?_, (hk _ (rwn_mem hi)).keep h.bel⟩⟩⟩
    rw [hv] at ho
    have c : ∀ j, j < 5 → W.cell? ⟨g, i * 5 + j, none⟩ = (rowCells (rwn (allR ps k) i))[j]? := fun j hj => by
      rw [World.ownsRow.cellAt ho (i * 5 + j) (by omega), flatR_get _ i j hi hj]
    unfold CellsAt
    rw [Nat.zero_add]
    exact ⟨c 0 (by omega), c 1 (by omega), c 2 (by omega), c 3 (by omega), c 4 (by omega)⟩

set_option maxHeartbeats 8000000 in
theorem join_any (a : Option Addr) (n cap : Nat) (ps : List Pt) (w : World) (hp : Pow w) (hI : PartsIn w a ps) (hn : ps.length = n) (hm : n ≤ 10000) (ht : total ps ≤ 10000) (hk : ∀ p ∈ ps, ∀ r ∈ p.rs, r.k.length ≤ 1000000) :
    Calls Tryd.prog 16 #[.slice a n cap] w fun e w' => ∃ v, e = .returned (.tuple #[v, .int .u16 (toldE (joinT (plains ps)) 0)]) ∧ TabOut w' v (toldT (joinT (plains ps))) ∧ Below w.heap.size w w' := by
  obtain ⟨i0, hi, hz0, hz1, hz2⟩ := info_parts info_row
  have HH : Aside (PartsIn w a ps ∧ ps.length = n ∧ Pow w ∧ ∀ p ∈ ps, ∀ r ∈ p.rs, r.k.length ≤ 1000000) := ⟨hI, hn, hp, hk⟩
  clear hp hI hn hk
  go_enter Tryd.func16, Tryd.ntmps16
  go_wp2_with fail
  go_loopg [4, 6, 9] n (fun g1 v s vi wr => ∃ (k : Nat), vi = .int .i64 k ∧ k ≤ n ∧ n - k ≤ g1 ∧ Aside (JS w ps k v wr))
  case atStart => exact ⟨0, rfl, Nat.zero_le _, Nat.le_refl _, JS.start w ps⟩
  case round =>
    obtain ⟨k, rfl, hk, hg1, SK⟩ := hrel
    by_cases hlt : k < n
    · have hltz : (k : Int) < (n : Int) := by omega
      have hkl : k < ps.length := by rw [HH.out.2.1]; exact hlt
      obtain ⟨b, off, ha, hc⟩ := (HH.out.1.keep SK.out.bel).get hkl
      subst ha
      obtain ⟨r0, hR⟩ := hc k hkl
      clear hc
      have hown := SK.out.own
      have hsz := SK.out.bel.size
      have hle := allR_le ps k
      have hpl := part_le hkl
      obtain ⟨m, hm2⟩ : ∃ m, (ptn ps k).rs.length = m := ⟨_, rfl⟩
      rw [hm2] at r0 hpl
      by_cases h0 : m = 0
      · subst h0
        have S3 : Aside (JS w ps (k + 1) u4 wr) := SK.out.same hkl hm2
        clear SK hR hm2
        generalize (ptn ps k).a = pa at r0
        generalize (ptn ps k).cap = pc at r0
        go_wp2_with (at_builtin; refine wpList_append_zero rfl (.tmp 13) (.tmp 14) 23 rfl w.heap.size 63 i0 5 Tryd.underlying23 hi _ _ _ rfl hown _ _ rfl ?_)
        go_roundg (n - (k + 1))
        case measure => omega
        case rel => exact ⟨k + 1, by go_num, by omega, by omega, S3⟩
      · obtain ⟨b2, off2, ha2, -⟩ := hR.get (k := 0) (by omega)
        rw [ha2] at r0 hR
        have hnews := rows_news hR 0
        simp only [List.drop_zero, Nat.zero_mul, Nat.add_zero] at hnews
        have hlen : (flatR (ptn ps k).rs).length = m * 5 := by rw [flatR_len, hm2]
        have S3 : Aside (∀ g cap W1, W1.ownsRow w.heap.size 63 5 (.slice (some ⟨g, 0, none⟩) ((allR ps k).length + m) cap) ((allR ps k).length + m) (flatR (allR ps k) ++ flatR (ptn ps k).rs) → wr.grownBy W1 u4.ownBlock → JS w ps (k + 1) (.slice (some ⟨g, 0, none⟩) ((allR ps k).length + m) cap) W1) := fun g cap W1 ho hg => SK.out.step hkl hm2 ho hg
        have hone := flatR_one (ptn ps k).rs
        clear SK ha2 hR hm2
        generalize (ptn ps k).cap = pc at r0
        generalize flatR (ptn ps k).rs = nw at hnews hlen S3 hone
        generalize (allR ps k).length = q0 at hown hle S3
        go_wp2_with (at_builtin; refine wpList_append_lies _ rfl (.tmp 13) (.tmp 14) 23 rfl w.heap.size 63 i0 _ 5 56 Tryd.underlying23 hi hz0 hz1 hz2 rfl (by decide) _ _ _ rfl hown ⟨b2, off2, none⟩ m pc nw rfl hlen hnews hone (by omega) (by unfold maxLen; omega) (by omega) hsz _ rfl ?_; intro g cap3 w3 hown3 hg3 _ _; refine Hid.out ?_)
        refine Lib.hid ?_
        have S4 : Aside (JS w ps (k + 1) (.slice (some ⟨g, 0, none⟩) (q0 + m) cap3) w3) := S3.out g cap3 w3 hown3 hg3
        clear hown3 hg3 S3 hown hnews
        go_wp2
        go_roundg (n - (k + 1))
        case measure => omega
        case rel => exact ⟨k + 1, by go_num, by omega, by omega, S4⟩
    · have hltz : ¬ (k : Int) < (n : Int) := by omega
      have hke : k = ps.length := by rw [HH.out.2.1]; omega
      have B1 : Aside (Below w.heap.size w wr) := SK.out.bel
      have hle := allR_le ps k
      obtain ⟨p1, c1, hv, hR⟩ := SK.out.rows fun r hr => by
        obtain ⟨p, hp, hr2⟩ := allR_mem hr
        exact rows_keys (HH.out.1.rows hp) r hr2
      subst hv
      have C1 := merge_any p1 none (allR ps k).length 0 c1 0 (allR ps k) [] wr (HH.out.2.2.1.keep B1.out) hR rfl (by omega) (.inl rfl) rfl (by omega) (fun r hr => by
        obtain ⟨p, hp, hr2⟩ := allR_mem hr
        exact HH.out.2.2.2 p hp r hr2) (fun r hr => by simp at hr)
      rw [List.map_nil, List.append_nil, allR_plain, List.take_of_length_le (by omega)] at C1
      obtain ⟨T, hTT⟩ : ∃ T, joinT (plains ps) = T := ⟨_, rfl⟩
      have HTT : Hid (joinT (plains ps) = T) := hTT
      rw [show tab (plains ps).flatten = T from hTT] at C1
      clear hTT
      generalize (allR ps k).length = q0 at C1 ⊢
      clear SK hR hle hke
      go_wp2_with fail
      refine C1.mono ?_
      rintro e w2 ⟨v2, rfl, hT, hb2⟩
      have B2 : Aside (Below w.heap.size w w2) := B1.out.trans (hb2.mono B1.out.size)
      have C2 := told_any v2 T 0 w2 hT
      clear C1 hT hb2 B1
      go_wp2_with fail
      refine C2.mono ?_
      rintro e w3 ⟨v3, rfl, hT3, hb3⟩
      have B3 : Aside (Below w.heap.size w w3) := B2.out.trans (hb3.mono B2.out.size)
      have HT : Aside (TabOut w3 v3 (toldT T)) := hT3
      clear C2 hT3 hb3 B2
      go_wp2
      go_ret2
      exact ⟨v3, by rw [HTT.out]; rfl, by rw [HTT.out]; exact HT.out, B3.out⟩

theorem joins_take {ps : List Pt} {k : Nat} (h : k < ps.length) : tab (joinT (plains (ps.take k)) ++ (ptn ps k).rs.map plain) = joinT (plains (ps.take (k + 1))) := by
  unfold joinT
  rw [tab_tab]
  congr 1
  unfold plains
  rw [List.take_succ_eq_append_getElem h, ptn_eq h, List.map_append, List.flatten_append]
  simp only [List.map_cons, List.map_nil, List.flatten_cons, List.flatten_nil, List.append_nil]
theorem joins_len (ps : List Pt) (k : Nat) : (joinT (plains (ps.take k))).length ≤ total ps := by
  have h1 : (joinT (plains (ps.take k))).length ≤ ((plains (ps.take k)).flatten).length := by
    have : ∀ (rows t : List PRow), (rows.foldl lay t).length ≤ t.length + rows.length := by
      intro rows
      induction rows with
      | nil => intro t; simp
      | cons r rows ih =>
        intro t
        have := ih (lay t r)
        have := lay_len t r
        simp only [List.foldl_cons, List.length_cons]
        omega
    simpa [joinT, tab] using this (plains (ps.take k)).flatten []
  have h2 := allR_le ps k
  rw [← allR_plain, List.length_map] at h1
  omega
theorem tab_keys {rows : List PRow} {x : PRow} (h : x ∈ tab rows) : ∃ y ∈ rows, y.1 = x.1 := by
  have key : ∀ (rows t : List PRow), x ∈ rows.foldl lay t → x ∈ t ∨ ∃ y ∈ rows, y.1 = x.1 := by
    intro rows
    induction rows with
    | nil => intro t h; exact .inl h
    | cons r rows ih =>
      intro t h
      rcases ih _ h with h | ⟨y, hy, e⟩
      · rcases mem_lay h with e | h
        · exact .inr ⟨r, by simp, e.symm⟩
        · exact .inl h
      · exact .inr ⟨y, by simp [hy], e⟩
  rcases key rows [] h with h | h
  · simp at h
  · exact h
theorem joins_keys {ps : List Pt} {m : Nat} (hk : ∀ p ∈ ps, ∀ r ∈ p.rs, r.k.length ≤ m) {k : Nat} {rs : List Rw} (e : rs.map plain = joinT (plains (ps.take k))) : ∀ r ∈ rs, r.k.length ≤ m := by
  intro r hr
  have h1 : plain r ∈ joinT (plains (ps.take k)) := by rw [← e]; exact List.mem_map_of_mem hr
  obtain ⟨y, hy, e2⟩ := tab_keys h1
  rw [← allR_plain] at hy
  obtain ⟨q, hq, rfl⟩ := List.mem_map.1 hy
  obtain ⟨p, hp, hr2⟩ := allR_mem hq
  have := hk p hp q hr2
  have e3 : q.k = r.k := e2
  rw [← e3]; exact this

set_option maxHeartbeats 8000000 in
theorem refJoin_any (a : Option Addr) (n cap : Nat) (ps : List Pt) (w : World) (hI : PartsIn w a ps) (hn : ps.length = n) (hm : n ≤ 10000) (ht : total ps ≤ 10000) (hk : ∀ p ∈ ps, ∀ r ∈ p.rs, r.k.length ≤ 1000000) :
    Calls Tryd.prog 17 #[.slice a n cap] w fun e w' => ∃ v, e = .returned (.tuple #[v, .int .i64 (toldE (joinT (plains ps)) 0)]) ∧ TabOut w' v (toldT (joinT (plains ps))) ∧ Below w.heap.size w w' := by
  have HH : Aside (PartsIn w a ps ∧ ps.length = n ∧ ∀ p ∈ ps, ∀ r ∈ p.rs, r.k.length ≤ 1000000) := ⟨hI, hn, hk⟩
  clear hI hn hk
  go_enter Tryd.func17, Tryd.ntmps17
  go_wp2_with fail
  go_loopg [4, 5] n (fun g1 v vi wr => ∃ (k : Nat), vi = .int .i64 k ∧ k ≤ n ∧ n - k ≤ g1 ∧ Aside (TabOut wr v (joinT (plains (ps.take k))) ∧ Below w.heap.size w wr))
  case atStart => exact ⟨0, rfl, Nat.zero_le _, Nat.le_refl _, by rw [List.take_zero]; exact TabOut.nil _, Below.refl _ _⟩
  case round =>
    obtain ⟨k, rfl, hk, hg1, SK⟩ := hrel
    obtain ⟨p1, c1, rs, rfl, hR1, he, hc1, hm1⟩ := SK.out.1
    have B1 : Aside (Below w.heap.size w wr) := SK.out.2
    have hl1 : rs.length ≤ total ps := by
      have := joins_len ps k
      rw [← he, List.length_map] at this
      exact this
    clear SK
    by_cases hlt : k < n
    · have hltz : (k : Int) < (n : Int) := by omega
      have hkl : k < ps.length := by rw [HH.out.2.1]; exact hlt
      obtain ⟨b, off, ha, hc⟩ := (HH.out.1.keep B1.out).get hkl
      subst ha
      obtain ⟨r0, hR⟩ := hc k hkl
      have hpl := part_le hkl
      have C1 := refMerge_any p1 (ptn ps k).a rs.length (ptn ps k).rs.length c1 (ptn ps k).cap rs (ptn ps k).rs wr hR1 rfl (by omega) hR rfl (by omega) (joins_keys HH.out.2.2 he) (HH.out.2.2 _ (ptn_mem hkl))
      rw [he, joins_take hkl] at C1
      clear hc hR hR1 he hpl
      generalize (ptn ps k).a = pa at r0 C1
      generalize (ptn ps k).cap = pc at r0 C1
      generalize (ptn ps k).rs.length = m at r0 C1
      generalize rs.length = m1 at C1 hc1 hl1 ⊢
      go_wp2_with fail
      refine C1.mono ?_
      rintro e w2 ⟨v2, rfl, hT, hb2⟩
      have S2 : Aside (TabOut w2 v2 (joinT (plains (ps.take (k + 1)))) ∧ Below w.heap.size w w2) := ⟨hT, B1.out.trans (hb2.mono B1.out.size)⟩
      clear C1 hT hb2 B1
      go_wp2
      go_roundg (n - (k + 1))
      case measure => omega
      case rel => exact ⟨k + 1, by go_num, by omega, by omega, S2⟩
    · have hltz : ¬ (k : Int) < (n : Int) := by omega
      rw [List.take_of_length_le (by rw [HH.out.2.1]; omega)] at he
      obtain ⟨T, hTT⟩ : ∃ T, joinT (plains ps) = T := ⟨_, rfl⟩
      rw [hTT] at he
      have HTT : Hid (joinT (plains ps) = T) := hTT
      have HT : Aside (TabOut wr (.slice p1 rs.length c1) T) := ⟨p1, c1, rs, rfl, hR1, he, hc1, hm1⟩
      have hlT : T.length = rs.length := by rw [← he]; simp
      clear hR1 he hTT hm1 hl1
      by_cases h5 : rs.length ≤ 500
      · have h5z : ¬ (500 : Int) < (rs.length : Int) := by omega
        have E2 : Hid (toldE T 0 = 0 ∧ toldT T = T) := told_few (by omega) 0
        clear hlT
        generalize rs.length = m at HT h5z hc1 ⊢
        go_wp2
        go_ret2
        exact ⟨_, by rw [HTT.out, E2.out.1]; rfl, by rw [HTT.out, E2.out.2]; exact HT.out, B1.out⟩
      · have h5z : (500 : Int) < (rs.length : Int) := by omega
        have E2 : Hid (toldE T 0 = 61 ∧ toldT T = []) := told_many (by omega) 0
        clear hlT
        generalize rs.length = m at HT h5z hc1 ⊢
        go_wp2
        go_ret2
        exact ⟨_, by rw [HTT.out, E2.out.1]; rfl, by rw [HTT.out, E2.out.2]; exact TabOut.nil _, B1.out⟩
end Go.Proofs.YtgimknplckkiaaaDoor.query
