/-
  The walk of TableOne: of whatever key and numbers the call answers true.
-/
import Derived.Test.YtfchpcmiipnbjaaDoorTableKnown
import Derived.Test.YtfchpcmiipnbjaaDoorTableFlatF
import Derived.Test.YtfchpcmiipnbjaaDoorCellAll
import Derived.Test.YtfchpcmiipnbjaaDoorDimsK
namespace Go.Proofs.YtfchpcmiipnbjaaDoor.table
open Go.ChangeShapes Go.WideShapes Go.ChangeAt Go.RowKit Go.Deep
open Go.Proofs.YtfchpcmiipnbjaaDoor.dims (nth Ints cell_lt cmpL own_below ret_bool Nums)
open Go.Proofs.YtfchpcmiipnbjaaDoor.cell (C4 mrg all one zero In64 all_snoc refAll_any)
set_option linter.unusedVariables false
set_option maxRecDepth 100000

/-- facts at one key -/
def oneF (a : Option Addr) (cap : Nat) (k : List Int) (xs : List Int) : List Ft := xs.map fun x => ⟨a, cap, k, x⟩
theorem oneF_at {a : Option Addr} {cap : Nat} {k xs : List Int} {i : Nat} (h : i < xs.length) : ftn (oneF a cap k xs) i = ⟨a, cap, k, nth xs i⟩ := by simp [ftn, oneF, nth, h]
theorem tab_one (k : List Int) : ∀ (xs : List Int) (c : C4), (xs.map fun x : Int => (k, cell.one x)).foldl lay [(k, c)] = [(k, cell.allOn c xs)]
  | [], c => rfl
  | x :: xs, c => by
    rw [List.map_cons, List.foldl_cons]
    have e : lay [(k, c)] (k, cell.one x) = [(k, mrg c (cell.one x))] := by simp [lay, cmpL_self]
    rw [e, tab_one k xs]; rfl
theorem tab_oneF (a : Option Addr) (cap : Nat) (k xs : List Int) : tab (rowsOf ((oneF a cap k xs).map pf)) = if xs = [] then [] else [(k, all xs)] := by
  have e : rowsOf ((oneF a cap k xs).map pf) = xs.map fun x : Int => (k, cell.one x) := by
    unfold rowsOf oneF pf
    rw [List.map_map, List.map_map]; rfl
  rw [e]
  cases xs with
  | nil => rfl
  | cons x xs =>
    rw [if_neg (by simp)]
    show (xs.map fun x : Int => (k, cell.one x)).foldl lay [(k, cell.one x)] = _
    rw [tab_one]
    have : cell.allOn (cell.one x) xs = all (x :: xs) := by
      show _ = cell.allOn (mrg zero (cell.one x)) xs
      rw [mrg_zero]
    rw [this]

theorem two_at (w : World) (v0 v1 : Value) (t : TypeId) : ∀ j u, [v0, v1][j]? = some u → (w.alloc (.cells #[v0, v1] t)).cell? ((⟨w.heap.size, 0, none⟩ : Addr).add j) = some u := by
  intro j u hj
  match j, hj with
  | 0, hj => simp at hj; subst hj; simp [Addr.add, go_sem]
  | 1, hj => simp at hj; subst hj; simp [Addr.add, go_sem]
  | j + 2, hj => simp at hj

theorem fiv_keep {W0 W w' : World} {B b1 p1 : Nat} {x0 x1 x2 x3 x4 : Value} (hb : Below W.heap.size W w')
    (h : Below B W0 W ∧ B ≤ W.heap.size ∧ W.cell? ⟨b1, p1, none⟩ = some x0 ∧ W.cell? ⟨b1, p1 + 1, none⟩ = some x1 ∧ W.cell? ⟨b1, p1 + 2, none⟩ = some x2 ∧ W.cell? ⟨b1, p1 + 3, none⟩ = some x3 ∧ W.cell? ⟨b1, p1 + 4, none⟩ = some x4) :
    Below B W0 w' ∧ B ≤ w'.heap.size ∧ w'.cell? ⟨b1, p1, none⟩ = some x0 ∧ w'.cell? ⟨b1, p1 + 1, none⟩ = some x1 ∧ w'.cell? ⟨b1, p1 + 2, none⟩ = some x2 ∧ w'.cell? ⟨b1, p1 + 3, none⟩ = some x3 ∧ w'.cell? ⟨b1, p1 + 4, none⟩ = some x4 := by
  obtain ⟨g0, g1, h0, h1, h2, h3, h4⟩ := h
  have k : ∀ {c o : Nat} {v : Value}, W.cell? ⟨c, o, none⟩ = some v → w'.cell? ⟨c, o, none⟩ = some v := fun {c o v} hv => (hb.cell (p := ⟨c, o, none⟩) (cell_lt hv)).trans hv
  exact ⟨g0.trans (hb.mono g1), Nat.le_trans g1 hb.size, k h0, k h1, k h2, k h3, k h4⟩

theorem i64_of_wf {n : Int} (h : (Lit.int .i64 n).wf = true) : In64 n := by
  simpa [Lit.wf, IntKind.min, IntKind.max, IntKind.signed, IntKind.bits, cell.In64] using h
/-- a key that came in -/
theorem key_in {w : World} {a : Option Addr} {n cap : Nat} {l : List Int} (h : Nums .i64 w a n cap l) : KeyOk w a n cap l :=
  ⟨h.mem, h.eln, h.lec, Nat.le_trans h.max maxLen_le2, fun v hv => by
    obtain ⟨i, hi, rfl⟩ := List.mem_iff_getElem.1 hv
    have := i64_of_wf (h.wf i hi)
    simpa [nth, hi] using this⟩

set_option maxHeartbeats 1000000 in
theorem one_walk (ak av : Option Addr) (nk ck nv cv : Nat) (l xs : List Int) (w : World) (hp : Pow w) (pk : Nums .i64 w ak nk ck l) (pv : Nums .i64 w av nv cv xs) :
    Calls Tryd.prog 10 #[.slice ak nk ck, .slice av nv cv] w fun e w' => e = .returned (.bool true) ∧ Below w.heap.size w w' := by
  obtain ⟨i0, hi, hz0, hz1, hz2⟩ := info_parts info_fact
  have hK := known_any w hp
  by_cases h1 : (20 : Int) < (nk : Int)
  · clear pk pv hp
    as_aux_lemma =>
      go_enter Tryd.func10, Tryd.ntmps10
      go_wp2_with (go_at_call 12; refine hK.mono ?_; rintro e w1 ⟨rfl, hb1⟩)
      go_ret
      exact ⟨rfl, hb1⟩
  by_cases h2 : (200 : Int) < (nv : Int)
  · clear pk pv hp
    as_aux_lemma =>
      go_enter Tryd.func10, Tryd.ntmps10
      go_wp2_with (go_at_call 12; refine hK.mono ?_; rintro e w1 ⟨rfl, hb1⟩)
      go_ret
      exact ⟨rfl, hb1⟩
  have HH : Aside (Pow w ∧ KeyOk w ak nk ck l ∧ Ints w av xs ∧ xs.length = nv) := ⟨hp, key_in pk, pv.mem, pv.eln⟩
  have HL : Hid (l.length = nk) := pk.eln
  clear pk pv hp
  go_enter Tryd.func10, Tryd.ntmps10
  go_wp2_with (go_at_call 12; refine hK.mono ?_; rintro e w1 ⟨rfl, hb1⟩; refine Hid.out ?_)
  refine Lib.hid ?_
  have B1 : Aside (Below w.heap.size w w1) := hb1
  clear hb1 hK
  go_wp2_with fail
  go_loopg [5, 6] nv (fun g1 v vi wr => ∃ (k : Nat), vi = .int .i64 k ∧ k ≤ nv ∧ nv - k ≤ g1 ∧ Aside (wr.ownsRow w.heap.size 53 2 v k (flatF ((oneF ak ck l xs).take k)) ∧ Below w.heap.size w wr))
  case atStart => exact ⟨0, rfl, Nat.zero_le _, Nat.le_refl _, World.ownsRow_nil _ _ _ _, B1.out⟩
  case round =>
    clear B1
    obtain ⟨k, rfl, hk, hg1, SK⟩ := hrel
    have hlen : (oneF ak ck l xs).length = xs.length := by simp [oneF]
    by_cases hlt : k < nv
    · have hltz : (k : Int) < (nv : Int) := by omega
      have hkl : k < xs.length := by rw [HH.out.2.2.2]; exact hlt
      obtain ⟨b, off, ha, hc⟩ := (HH.out.2.2.1.keep SK.out.2).get hkl
      subst ha
      have r0 := hc k hkl
      clear hc
      have HT : Hid (flatF ((oneF ak ck l xs).take (k + 1)) = flatF ((oneF ak ck l xs).take k) ++ [.slice ak nk ck, .int .i64 (nth xs k)]) := by
        show _ = _
        rw [flatF_take (by omega), oneF_at hkl]
        simp [factCells, HL.out]
      obtain ⟨x, hx⟩ : ∃ x, nth xs k = x := ⟨_, rfl⟩
      rw [hx] at r0 HT
      clear hx
      have hown := SK.out.1
      have hsz := SK.out.2.size
      have hC2 := two_at wr (.slice ak nk ck) (.int .i64 x) 53
      clear hlen
      go_wp2_with (at_builtin; refine wpList_append_lies _ rfl (.tmp 27) (.tmp 34) 31 rfl w.heap.size 53 i0 _ 2 32 Tryd.underlying31 hi hz0 hz1 hz2 rfl (by decide) _ k _ rfl (hown.alloc _) ⟨wr.heap.size, 0, none⟩ 1 1 [.slice ak nk ck, .int .i64 x] rfl rfl hC2 (by intro u hu; simp at hu; rcases hu with rfl | rfl <;> rfl) (by decide) (by unfold maxLen; omega) (by omega) (by simp; omega) _ rfl ?_; intro g3 cap3 w3 hown3 hg3 _ _; refine Hid.out ?_)
      refine Lib.hid ?_
      have S3 : Aside (w3.ownsRow w.heap.size 53 2 (.slice (some ⟨g3, 0, none⟩) (k + 1) cap3) (k + 1) (flatF ((oneF ak ck l xs).take (k + 1))) ∧ Below w.heap.size w w3) :=
        ⟨by rw [HT.out]; exact hown3, (SK.out.2.alloc hsz _).grown hg3 (by simp; omega) fun q hq => (hown.lt q hq).1⟩
      clear hown3 hg3 hown SK hC2 r0
      go_wp2
      go_roundg (nv - (k + 1))
      case measure => omega
      case rel => exact ⟨k + 1, by go_num, by omega, by omega, S3⟩
    · have hltz : ¬ (k : Int) < (nv : Int) := by omega
      have hkn : k = nv := by omega
      have hfl : (oneF ak ck l xs).length = k := by rw [hlen, HH.out.2.2.2]; omega
      have hown := SK.out.1
      rw [List.take_of_length_le (by omega)] at hown
      have hmem : ∀ f ∈ oneF ak ck l xs, f.a = ak ∧ f.cap = ck ∧ f.k = l := fun f hf => by
        obtain ⟨x, _, rfl⟩ := List.mem_map.1 hf; exact ⟨rfl, rfl, rfl⟩
      rw [← hfl] at hown
      obtain ⟨av2, cv2, hv, hF, hc⟩ := own_facts hown (fun f hf => by
        obtain ⟨e1, e2, e3⟩ := hmem f hf
        rw [e1, e2, e3, HL.out]; exact HH.out.2.1.keep SK.out.2)
      have hM := make_any av2 k cv2 (oneF ak ck l xs) wr (HH.out.1.keep SK.out.2) hF hfl (by omega) (fun f hf => by
        rw [(hmem f hf).2.2, HL.out]; omega)
      rw [tab_oneF] at hM
      rw [hfl] at hv
      subst hv
      have SB : Aside (Below w.heap.size w wr) := SK.out.2
      clear hown hF hmem hfl hlen hc SK hkn
      by_cases h0 : nv = 0
      · as_aux_lemma =>
          have hx0 : xs = [] := List.eq_nil_of_length_eq_zero (by rw [HH.out.2.2.2]; exact h0)
          rw [if_pos hx0] at hM
          have h0z : ((nv : Int) == 0) = true := by simp [h0]
          clear hx0 h0
          go_wp2_with (go_at_call 14; refine hM.mono ?_; rintro e w5 ⟨v, rfl, ⟨a5, c5, rs5, rfl, _, he5, _, _⟩, hb5⟩; have hl5 : rs5.length = 0 := (by simpa using congrArg List.length he5); rw [hl5])
          go_ret
          exact ⟨rfl, SB.out.trans (hb5.mono SB.out.size)⟩
      · have hx0 : ¬ xs = [] := fun e => h0 (by rw [← HH.out.2.2.2, e]; rfl)
        rw [if_neg hx0] at hM
        have h0z : ((nv : Int) == 0) = false := by
          have : ¬ (nv : Int) = 0 := by omega
          simpa using this
        clear hx0 h0
        go_wp2_with (go_at_call 14; refine hM.mono ?_; rintro e w5 ⟨v, rfl, ⟨a5, c5, rs5, rfl, hR5, he5, _, _⟩, hb5⟩; have hl5 : rs5.length = 1 := (by simpa using congrArg List.length he5); rw [hl5]; refine Hid.out ?_)
        refine Lib.hid ?_
        obtain ⟨b5, o5, rfl, hc5⟩ := hR5.get (k := 0) (by omega)
        obtain ⟨⟨r0, r1, r2, r3, r4⟩, -⟩ := hc5 0 (by omega)
        have hkc : (rwn rs5 0).k = l ∧ (rwn rs5 0).c = all xs := by
          rcases rs5 with _ | ⟨q, _ | ⟨q2, t⟩⟩
          · simp at hl5
          · simp only [List.map_cons, List.map_nil, plain, List.cons.injEq, Prod.mk.injEq, and_true] at he5
            exact he5
          · simp at hl5
        rw [hkc.1, HL.out] at r0
        rw [hkc.2] at r1 r2 r3 r4
        simp only [Nat.zero_mul, Nat.add_zero] at r0 r1 r2 r3 r4
        have B5 : Aside (Below w.heap.size w w5) := SB.out.trans (hb5.mono SB.out.size)
        have hA := fun W (hW : Below w5.heap.size w5 W) => refAll_any av nv cv xs W ((HH.out.2.2.1.keep B5.out).keep hW) HH.out.2.2.2 (by omega)
        unfold cell.val at hA
        generalize all xs = c at r1 r2 r3 r4 hA
        generalize (rwn rs5 0).a = t1 at r0
        generalize (rwn rs5 0).cap = t2 at r0
        clear hkc he5 hc5 hR5 hM hl5 hb5
        have hsz5 := B5.out.size
        go_wp2_with fail
        go_region_held3 (fun w' => Below w5.heap.size w5 w' ∧ w5.heap.size ≤ w'.heap.size ∧ w'.cell? ⟨b5, o5, none⟩ = some (.slice t1 nk t2) ∧ w'.cell? ⟨b5, o5 + 1, none⟩ = some (.int .i64 c.n) ∧ w'.cell? ⟨b5, o5 + 2, none⟩ = some (.int .i64 c.s) ∧ w'.cell? ⟨b5, o5 + 3, none⟩ = some (.int .i64 c.lo) ∧ w'.cell? ⟨b5, o5 + 4, none⟩ = some (.int .i64 c.hi))
          (first | with_reducible assumption | (exact ⟨(Below.refl _ _).drew, Nat.le_refl _, r0, r1, r2, r3, r4⟩) | (refine fiv_keep (W0 := w5) (B := w5.heap.size) (b1 := b5) (p1 := o5) (x0 := .slice t1 nk t2) (x1 := .int .i64 c.n) (x2 := .int .i64 c.s) (x3 := .int .i64 c.lo) (x4 := .int .i64 c.hi) hb6 ?_; with_reducible assumption))
          ((go_at_call 27; refine (hA _ ?_).mono ?_; (focus (apply And.left; assumption)); rintro e w6 ⟨rfl, hb6⟩))
        have B6 : Aside (Below w.heap.size w w6) := by
          have h : Below w5.heap.size w5 w6 := by apply And.left; assumption
          exact B5.out.trans (h.mono hsz5)
        go_wp2
        go_ret
        exact ⟨rfl, B6.out⟩
end Go.Proofs.YtfchpcmiipnbjaaDoor.table
