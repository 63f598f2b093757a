/-
  The contract of query.Run: the table of a query, or why there is none.
-/
import Derived.Test.YtgimknplckkiaaaDoorQueryCheck
import Derived.Test.YtgimknplckkiaaaDoorTableRoll
namespace Go.Proofs.YtgimknplckkiaaaDoor.query
open Go.ChangeShapes Go.WideShapes Go.ChangeAt Go.RowKit Go.Deep
open Go.Proofs.YtgimknplckkiaaaDoor.dims
open Go.Proofs.YtgimknplckkiaaaDoor.table
open Go.Proofs.YtgimknplckkiaaaDoor.dice (wtn bx cutR cut_any)
open Go.Proofs.YtgimknplckkiaaaDoor.cell (C4 In64)
set_option linter.unusedVariables false
set_option maxRecDepth 100000

theorem keepQ {W0 W w2 : World} {B : Nat} {x1 x2 x3 : Value} (hb : Below W.heap.size W w2) (h : Below W0.heap.size W0 W ∧ W.cell? ⟨B, 0, none⟩ = some x1 ∧ W.cell? ⟨B, 1, none⟩ = some x2 ∧ W.cell? ⟨B, 2, none⟩ = some x3) :
    Below W0.heap.size W0 w2 ∧ w2.cell? ⟨B, 0, none⟩ = some x1 ∧ w2.cell? ⟨B, 1, none⟩ = some x2 ∧ w2.cell? ⟨B, 2, none⟩ = some x3 := by
  obtain ⟨h0, h1, h2, h3⟩ := h
  have k : ∀ {c o : Nat} {v : Value}, W.cell? ⟨c, o, none⟩ = some v → w2.cell? ⟨c, o, none⟩ = some v := fun {c o v} hv => (hb.cell (p := ⟨c, o, none⟩) (cell_lt hv)).trans hv
  exact ⟨h0.trans (hb.mono h0.size), k h1, k h2, k h3⟩
/-- rows that are these -/
def Rows' (W : World) (p : Option Addr) (m : Nat) (t : List PRow) : Prop := ∃ cs : List Rw, table.RowsIn W p cs ∧ cs.length = m ∧ cs.map plain = t
theorem cut_rows (a a1 a2 : Option Addr) (n cap n1 n2 c1 c2 : Nat) (rs : List Rw) (lo up : List Int) (w : World) (hR : table.RowsIn w a rs) (hn : rs.length = n) (hn2 : n ≤ 100000) (hk : ∀ r ∈ rs, r.k.length ≤ 100000) (h1 : Ints w a1 lo) (e1 : lo.length = n1) (h2 : Ints w a2 up) (e2 : up.length = n2) :
    Calls Tryd.prog 27 #[.slice a n cap, .slice a1 n1 c1, .slice a2 n2 c2] w fun e w' => ∃ p m q, e = .returned (.slice p m q) ∧ Rows' w' p m (cutR (wtn lo up) rs) ∧ Below w.heap.size w w' := by
  refine (cut_any a a1 a2 n cap n1 n2 c1 c2 rs lo up w hR hn hn2 hk h1 e1 h2 e2).mono ?_
  rintro e w1 ⟨v, rfl, ⟨p, q, cs, hv, hR1, he, -⟩, hb⟩
  exact ⟨p, cs.length, q, by rw [hv], ⟨cs, hR1, rfl, he⟩, hb⟩
theorem rows_few {rs : List Rw} {n : Nat} (h : sndT rs n = true) (hn : n ≤ 4) : ∀ r ∈ rs, r.k.length ≤ 100000 := fun r hr => by
  have := (sndT_row h hr).1
  omega
theorem rows_len {rs cs : List Rw} {q : List Int → Bool} (e : cs.map plain = cutR q rs) : cs.length ≤ rs.length := by
  have h := congrArg List.length e
  rw [List.length_map] at h
  rw [h]
  unfold cutR
  rw [List.length_map]
  exact List.length_filter_le _ _

set_option maxHeartbeats 8000000 in
theorem run_any (a ar aL a1 a2 : Option Addr) (n cap nr cr nL cL n1 c1 n2 c2 : Nat) (ds : List Dm) (rs : List Rw) (L lo hi : List Int) (w : World) (hp : Pow w) (hI : DimsIn w a ds) (hn : ds.length = n) (hm : n ≤ 9223372036854775807) (hR : table.RowsIn w ar rs) (hr : rs.length = nr) (hr2 : nr ≤ 10000) (hL : Ints w aL L) (eL : L.length = nL) (h1 : Ints w a1 lo) (e1 : lo.length = n1) (h2 : Ints w a2 hi) (e2 : hi.length = n2) :
    Calls Tryd.prog 11 #[.slice a n cap, .slice ar nr cr, .agg #[.slice aL nL cL, .slice a1 n1 c1, .slice a2 n2 c2]] w fun e w' => ∃ v, e = .returned (.tuple #[v, .int .u16 (runE ds rs L lo hi)]) ∧ TabOut w' v (runR ds rs L lo hi) ∧ Below w.heap.size w w' := by
  have HH : Aside (DimsIn w a ds ∧ ds.length = n ∧ (Ints w aL L ∧ L.length = nL) ∧ (Ints w a1 lo ∧ lo.length = n1) ∧ Ints w a2 hi ∧ hi.length = n2) := ⟨hI, hn, ⟨hL, eL⟩, ⟨h1, e1⟩, h2, e2⟩
  have HR : Aside (Pow w ∧ table.RowsIn w ar rs ∧ rs.length = nr) := ⟨hp, hR, hr⟩
  have R1 : Aside (QB w w.heap.size (.slice aL nL cL) (.slice a1 n1 c1) (.slice a2 n2 c2) (w.alloc (.cells #[.slice aL nL cL, .slice a1 n1 c1, .slice a2 n2 c2] 26))) := QB.start w _ _ _ _
  clear hp hI hn hR hr hL eL h1 e1 h2 e2
  go_enter Tryd.func11, Tryd.ntmps11
  go_wp2_with fail
  generalize (w.alloc (.cells #[.slice aL nL cL, .slice a1 n1 c1, .slice a2 n2 c2] 26)) = w1 at R1 ⊢
  obtain ⟨E, hE⟩ : ∃ E, checkE ds L lo hi = E := ⟨_, rfl⟩
  have C1 := check_any a aL a1 a2 n cap nL cL n1 c1 n2 c2 ds L lo hi w1 (HH.out.1.keep R1.out.bel) HH.out.2.1 hm (HH.out.2.2.1.1.keep R1.out.bel) HH.out.2.2.1.2 (HH.out.2.2.2.1.1.keep R1.out.bel) HH.out.2.2.2.1.2 (HH.out.2.2.2.2.1.keep R1.out.bel) HH.out.2.2.2.2.2
  rw [hE] at C1
  refine C1.mono ?_
  rintro e w2 ⟨rfl, hb2⟩
  have R2 : Aside _ := R1.out.keep hb2
  clear C1 hb2 R1
  by_cases h0 : E = 0
  case neg =>
    have EE : Hid (runE ds rs L lo hi = E ∧ runR ds rs L lo hi = []) := by
      have := run_bad (rs := rs) (ds := ds) (L := L) (lo := lo) (hi := hi) (by rw [hE]; exact h0)
      rw [hE] at this; exact this
    have hx : (E != 0) = true := by rw [bne_iff_ne]; exact h0
    clear h0 hE
    go_wp2
    go_ret2
    exact ⟨_, by rw [EE.out.1]; rfl, by rw [EE.out.2]; exact TabOut.nil _, R2.out.bel⟩
  subst h0
  have HE : Hid (checkE ds L lo hi = 0) := hE
  clear hE
  have hn4 : n ≤ 4 := by have := (check_ok HE.out).1; unfold sndL at this; rw [HH.out.2.1] at this; simp at this; omega
  obtain ⟨s, hs⟩ : ∃ s, sndT rs n = s := ⟨_, rfl⟩
  have C1 := soundT_any ar nr cr rs n w2 (HR.out.2.1.keep R2.out.bel) HR.out.2.2 (by omega)
  rw [hs] at C1
  go_wp2_with fail
  refine C1.mono ?_
  rintro e w3 ⟨rfl, hb3⟩
  have R3 : Aside _ := R2.out.keep hb3
  clear C1 hb3 R2
  cases s with
  | false =>
    have EE : Hid (runE ds rs L lo hi = 1 ∧ runR ds rs L lo hi = []) := run_1 HE.out (by rw [HH.out.2.1]; exact hs)
    clear hs
    go_wp2
    go_ret2
    exact ⟨_, by rw [EE.out.1]; rfl, by rw [EE.out.2]; exact TabOut.nil _, R3.out.bel⟩
  | true =>
    have HT : Hid (sndT rs n = true) := hs
    clear hs
    have EE : Hid (runE ds rs L lo hi = toldE (runT ds (rs.map plain) L lo hi) 0 ∧ runR ds rs L lo hi = toldT (runT ds (rs.map plain) L lo hi)) := run_0 HE.out (by rw [HH.out.2.1]; exact HT.out)
    have hx1 : nL = n := by have := (lvq_at (check_ok HE.out).2.1).1; rw [HH.out.2.2.1.2, HH.out.2.1] at this; exact this
    subst hx1
    have hmk := run_make_row' (P := Tryd.prog) 24 3 (.int .i64 0) 8 Tryd.underlying24 info_int rfl .i64 .i64 nL (by omega) (by omega)
    have hbm : Below w3.heap.size w3 (w3.alloc (.cells (madeCells #[.int .i64 0] nL) 3)) := (Below.refl _ _).alloc (Nat.le_refl _) _
    have hzz : Ints (w3.alloc (.cells (madeCells #[.int .i64 0] nL) 3)) (some ⟨w3.heap.size, 0, none⟩) (zeros nL) := zeros_ints w3 nL
    go_wp2_with fail
    generalize (w3.alloc (.cells (madeCells #[.int .i64 0] nL) 3)) = w4 at hbm hzz ⊢
    obtain ⟨gz, hgz⟩ : ∃ g, w3.heap.size = g := ⟨_, rfl⟩
    have R4 : Aside _ := R3.out.keep hbm
    rw [hgz] at hzz ⊢
    have HZ : Aside (Ints w4 (some ⟨gz, 0, none⟩) (zeros nL)) := hzz
    clear hmk hbm hzz hgz R3
    have q1 := R4.out.c1
    have q2 := R4.out.c2
    have q3 := R4.out.c3
    obtain ⟨T, hTT⟩ : ∃ T, runT ds (rs.map plain) L lo hi = T := ⟨_, rfl⟩
    rw [hTT] at EE
    have hA : ∀ W, Below w4.heap.size w4 W → Calls Tryd.prog 27 #[.slice ar nr cr, .slice a1 n1 c1, .slice a2 n2 c2] W fun e w' => ∃ p m q, e = .returned (.slice p m q) ∧ Rows' w' p m (cutR (wtn lo hi) rs) ∧ Below W.heap.size W w' := fun W hW => by
      have hb := R4.out.bel.trans (hW.mono R4.out.bel.size)
      exact cut_rows ar a1 a2 nr cr n1 n2 c1 c2 rs lo hi W (HR.out.2.1.keep hb) HR.out.2.2 (by omega) (rows_few HT.out hn4) (HH.out.2.2.2.1.1.keep hb) HH.out.2.2.2.1.2 (HH.out.2.2.2.2.1.keep hb) HH.out.2.2.2.2.2
    have hB : ∀ W p m q, Below w4.heap.size w4 W → Rows' W p m (cutR (wtn lo hi) rs) → Calls Tryd.prog 26 #[.slice a nL cap, .slice p m q, .slice (some ⟨gz, 0, none⟩) nL nL, .slice aL nL cL] W fun e w' => ∃ v, e = .returned (.tuple #[v, .int .u16 0]) ∧ TabOut w' v T ∧ Below W.heap.size W w' := fun W p m q hW hK => by
      obtain ⟨cs, k1, k2, k3⟩ := hK
      have hb := R4.out.bel.trans (hW.mono R4.out.bel.size)
      have hl := rows_len k3
      have := roll_any a p (some ⟨gz, 0, none⟩) aL nL m nL nL cap q nL cL ds cs (zeros nL) L W (HR.out.1.keep hb) (HH.out.1.keep hb) HH.out.2.1 hm k1 k2 (by have := HR.out.2.2; omega) (HZ.out.keep hW) (zeros_len _) (HH.out.2.2.1.1.keep hb) HH.out.2.2.1.2
      have hrc := roll_cut (cs := cs) HE.out (by rw [HH.out.2.1]; exact HT.out) k3
      rw [HH.out.2.1, hTT] at hrc
      rw [hrc.1, hrc.2] at this
      exact this
    have hC : ∀ W v, TabOut W v T → Calls Tryd.prog 25 #[v, .int .u16 0] W fun e w' => ∃ v', e = .returned (.tuple #[v', .int .u16 (toldE T 0)]) ∧ TabOut w' v' (toldT T) ∧ Below W.heap.size W w' := fun W v hv => told_any v T 0 W hv
    generalize toldE T 0 = TE at hC EE
    generalize toldT T = TR at hC EE
    clear hTT
    go_wp2_with fail
    go_region_held3 (fun w' => Below w4.heap.size w4 w' ∧ w'.cell? ⟨w.heap.size, 0, none⟩ = some (.slice aL nL cL) ∧ w'.cell? ⟨w.heap.size, 1, none⟩ = some (.slice a1 n1 c1) ∧ w'.cell? ⟨w.heap.size, 2, none⟩ = some (.slice a2 n2 c2))
      (first | with_reducible assumption | (exact ⟨(Below.refl _ _).drew, q1, q2, q3⟩) | (refine keepQ (W0 := w4) (B := w.heap.size) (x1 := .slice aL nL cL) (x2 := .slice a1 n1 c1) (x3 := .slice a2 n2 c2) hb1 ?_; with_reducible assumption) | (refine keepQ (W0 := w4) (B := w.heap.size) (x1 := .slice aL nL cL) (x2 := .slice a1 n1 c1) (x3 := .slice a2 n2 c2) hb2 ?_; with_reducible assumption) | (refine keepQ (W0 := w4) (B := w.heap.size) (x1 := .slice aL nL cL) (x2 := .slice a1 n1 c1) (x3 := .slice a2 n2 c2) hb3 ?_; with_reducible assumption))
      (first | (go_at_call 27; refine (hA _ ?_).mono ?_; (focus (apply And.left; assumption)); rintro e wa ⟨p1, m1, q1', rfl, hK1, hb1⟩) | (go_at_call 26; refine (hB _ p1 m1 q1' ?_ hK1).mono ?_; (focus (apply And.left; assumption)); rintro e wb ⟨v2, rfl, hT2, hb2⟩) | (go_at_call 25; refine (hC _ v2 hT2).mono ?_; rintro e wc ⟨v3, rfl, hT3, hb3⟩))
    have B4 : Aside (Below w4.heap.size w4 wc) := by apply And.left; assumption
    have HT3 : Aside (TabOut wc v3 TR) := hT3
    clear hA hB hC hT2 hb1 hb2 hb3 hK1 hT3 q1 q2 q3
    go_wp2
    go_ret2
    exact ⟨v3, by rw [EE.out.1]; rfl, by rw [EE.out.2]; exact HT3.out, R4.out.bel.trans (B4.out.mono R4.out.bel.size)⟩
end Go.Proofs.YtgimknplckkiaaaDoor.query
