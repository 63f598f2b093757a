/-
  The walk of QueryChecks: of whatever dimensions, rows and queries the call answers true.
-/
import Derived.Test.YtgimknplckkiaaaDoorQueryRefRun
import Derived.Test.YtgimknplckkiaaaDoorQueryHeavy
import Derived.Test.YtgimknplckkiaaaDoorQueryKnown
import Derived.Test.YtgimknplckkiaaaDoorQueryOpen
namespace Go.Proofs.YtgimknplckkiaaaDoor.query
open Go.ChangeShapes Go.WideShapes Go.ChangeAt Go.RowKit Go.Deep
open Go.Proofs.YtgimknplckkiaaaDoor.dims
open Go.Proofs.YtgimknplckkiaaaDoor.table
open Go.Proofs.YtgimknplckkiaaaDoor.cell (C4 In64)
set_option linter.unusedVariables false
set_option maxRecDepth 100000

set_option maxHeartbeats 16000000 in
theorem checks_walk (a0 a1 aL a2 a3 : Option Addr) (n0 c0 n1 c1 nL cL n2 c2 n3 c3 : Nat) (ds : List Dm) (rs : List Rw) (L lo hi : List Int) (w : World) (hp : Pow w) (pD : Pairs .i64 .i64 w a0 ds) (pd : ds.length = n0 ∧ n0 ≤ c0 ∧ c0 ≤ maxLen) (h1 : table.RowsIn w a1 rs) (e1 : rs.length = n1 ∧ n1 ≤ c1 ∧ c1 ≤ maxLen) (b1 : ∀ f ∈ rs, f.k.length ≤ 17592186044416) (pL : Nums .i64 w aL nL cL L) (p2 : Nums .i64 w a2 n2 c2 lo) (p3 : Nums .i64 w a3 n3 c3 hi) :
    Calls Tryd.prog 3 #[.slice a0 n0 c0, .slice a1 n1 c1, .agg #[.slice aL nL cL, .slice a2 n2 c2, .slice a3 n3 c3]] w fun e w' => e = .returned (.bool true) ∧ Below w.heap.size w w' := by
  have hn0 : n0 ≤ 9223372036854775807 := Nat.le_trans pd.2.1 (Nat.le_trans pd.2.2 maxLen_le2)
  have hn1 : n1 ≤ 9223372036854775807 := Nat.le_trans e1.2.1 (Nat.le_trans e1.2.2 maxLen_le2)
  have R1 : Aside (QB w w.heap.size (.slice aL nL cL) (.slice a2 n2 c2) (.slice a3 n3 c3) (w.alloc (.cells #[.slice aL nL cL, .slice a2 n2 c2, .slice a3 n3 c3] 26))) := QB.start w _ _ _ _
  have HH : Aside (Pow w ∧ DimsIn w a0 ds ∧ ds.length = n0 ∧ table.RowsIn w a1 rs ∧ rs.length = n1 ∧ (Ints w aL L ∧ L.length = nL) ∧ (Ints w a2 lo ∧ lo.length = n2) ∧ Ints w a3 hi ∧ hi.length = n3) := ⟨hp, pD.dims, pd.1, h1, e1.1, ⟨pL.mem, pL.eln⟩, ⟨p2.mem, p2.eln⟩, p3.mem, p3.eln⟩
  have HB : Aside (∀ f ∈ rs, f.k.length ≤ 17592186044416) := b1
  clear hp pD pd h1 e1 b1 pL p2 p3
  go_enter Tryd.func3, Tryd.ntmps3
  go_wp2_with fail
  generalize (w.alloc (.cells #[.slice aL nL cL, .slice a2 n2 c2, .slice a3 n3 c3] 26)) = w1 at R1 ⊢
  refine (heavy_q a0 a1 aL a2 a3 n0 c0 n1 c1 nL cL n2 c2 n3 c3 ds rs w1 (HH.out.2.1.keep R1.out.bel) HH.out.2.2.1 hn0 (HH.out.2.2.2.1.keep R1.out.bel) HH.out.2.2.2.2.1 hn1 HB.out).mono ?_
  rintro e w2 ⟨hh, hb2⟩
  have R2 : Aside _ := R1.out.keep hb2
  clear hb2 R1
  rcases hh with rfl | ⟨rfl, h300, -⟩
  · have CK := known_q w2 (HH.out.1.keep R2.out.bel)
    go_wp2_with (go_at_call 10; refine CK.mono ?_; rintro e wx ⟨rfl, hbx⟩)
    go_ret
    exact ⟨rfl, R2.out.bel.trans (hbx.mono R2.out.bel.size)⟩
  have hr3 : n1 ≤ 300 := by have := HH.out.2.2.2.2.1; omega
  clear h300
  have CK := known_q w2 (HH.out.1.keep R2.out.bel)
  go_wp2_with (go_at_call 10; refine CK.mono ?_; rintro e w3 ⟨rfl, hbx⟩; refine Hid.out ?_)
  refine Lib.hid ?_
  have R3 : Aside _ := R2.out.keep hbx
  clear CK hbx R2
  have q1 := R3.out.c1
  have q2 := R3.out.c2
  have q3 := R3.out.c3
  go_wp2_with fail
  have HE : Aside (runE ds rs L lo hi = 0 ∨ runE ds rs L lo hi = 1 ∨ runE ds rs L lo hi = 30 ∨ runE ds rs L lo hi = 40 ∨ runE ds rs L lo hi = 60 ∨ runE ds rs L lo hi = 61) := run_in ds rs L lo hi
  refine (run_any a0 a1 aL a2 a3 n0 c0 n1 c1 nL cL n2 c2 n3 c3 ds rs L lo hi w3 (HH.out.1.keep R3.out.bel) (HH.out.2.1.keep R3.out.bel) HH.out.2.2.1 hn0 (HH.out.2.2.2.1.keep R3.out.bel) HH.out.2.2.2.2.1 (by omega) (HH.out.2.2.2.2.2.1.1.keep R3.out.bel) HH.out.2.2.2.2.2.1.2 (HH.out.2.2.2.2.2.2.1.1.keep R3.out.bel) HH.out.2.2.2.2.2.2.1.2 (HH.out.2.2.2.2.2.2.2.1.keep R3.out.bel) HH.out.2.2.2.2.2.2.2.2).mono ?_
  rintro e w4 ⟨v1, rfl, hT1, hb4⟩
  have R4 : Aside _ := R3.out.keep hb4
  have T4 : Aside (TabOut w4 v1 (runR ds rs L lo hi)) := hT1
  clear hb4 R3 hT1 q1 q2 q3
  have q1 := R4.out.c1
  have q2 := R4.out.c2
  have q3 := R4.out.c3
  go_wp2_with fail
  refine (refRun_any a0 a1 aL a2 a3 n0 c0 n1 c1 nL cL n2 c2 n3 c3 ds rs L lo hi w4 (HH.out.2.1.keep R4.out.bel) HH.out.2.2.1 hn0 (HH.out.2.2.2.1.keep R4.out.bel) HH.out.2.2.2.2.1 (by omega) (HH.out.2.2.2.2.2.1.1.keep R4.out.bel) HH.out.2.2.2.2.2.1.2 (HH.out.2.2.2.2.2.2.1.1.keep R4.out.bel) HH.out.2.2.2.2.2.2.1.2 (HH.out.2.2.2.2.2.2.2.1.keep R4.out.bel) HH.out.2.2.2.2.2.2.2.2).mono ?_
  rintro e w5 ⟨v2, rfl, hT2, hb5⟩
  have R5 : Aside _ := R4.out.keep hb5
  have T5 : Aside (TabOut w5 v1 (runR ds rs L lo hi) ∧ TabOut w5 v2 (runR ds rs L lo hi)) := ⟨T4.out.keep hb5, hT2⟩
  clear hb5 R4 T4 hT2 q1 q2 q3
  have q1 := R5.out.c1
  have q2 := R5.out.c2
  have q3 := R5.out.c3
  have hS : ∀ W, Below w5.heap.size w5 W → Calls Tryd.prog 13 #[v1, v2] W fun e w' => e = .returned (.bool true) ∧ Below W.heap.size W w' := fun W hW => same_tabs (T5.out.1.keep hW) (T5.out.2.keep hW)
  have hC : ∀ W, Below w5.heap.size w5 W → Calls Tryd.prog 14 #[.slice a0 n0 c0, .agg #[.slice aL nL cL, .slice a2 n2 c2, .slice a3 n3 c3]] W fun e w' => e = .returned (.int .u16 (checkE ds L lo hi)) ∧ Below W.heap.size W w' := fun W hW => by
    have hb := R5.out.bel.trans (hW.mono R5.out.bel.size)
    exact check_any a0 aL a2 a3 n0 c0 nL cL n2 c2 n3 c3 ds L lo hi W (HH.out.2.1.keep hb) HH.out.2.2.1 hn0 (HH.out.2.2.2.2.2.1.1.keep hb) HH.out.2.2.2.2.2.1.2 (HH.out.2.2.2.2.2.2.1.1.keep hb) HH.out.2.2.2.2.2.2.1.2 (HH.out.2.2.2.2.2.2.2.1.keep hb) HH.out.2.2.2.2.2.2.2.2
  have hD : ∀ W, Below w5.heap.size w5 W → Calls Tryd.prog 15 #[.slice a0 n0 c0, .agg #[.slice aL nL cL, .slice a2 n2 c2, .slice a3 n3 c3]] W fun e w' => e = .returned (.int .i64 (checkE ds L lo hi)) ∧ Below W.heap.size W w' := fun W hW => by
    have hb := R5.out.bel.trans (hW.mono R5.out.bel.size)
    exact refCheck_any a0 aL a2 a3 n0 c0 nL cL n2 c2 n3 c3 ds L lo hi W (HH.out.2.1.keep hb) HH.out.2.2.1 hn0 (HH.out.2.2.2.2.2.1.1.keep hb) HH.out.2.2.2.2.2.1.2 (HH.out.2.2.2.2.2.2.1.1.keep hb) HH.out.2.2.2.2.2.2.1.2 (HH.out.2.2.2.2.2.2.2.1.keep hb) HH.out.2.2.2.2.2.2.2.2
  obtain ⟨E, hE⟩ : ∃ E, runE ds rs L lo hi = E := ⟨_, rfl⟩
  have hE0 : 0 ≤ E ∧ E ≤ 100 := by have := HE.out; omega
  rw [hE]
  obtain ⟨G, hG⟩ : ∃ G, checkE ds L lo hi = G := ⟨_, rfl⟩
  have hG0 : 0 ≤ G ∧ G ≤ 100 := by have := check_in ds L lo hi; omega
  rw [hG] at hC hD
  obtain ⟨e0, e9⟩ := hE0
  obtain ⟨g0, g9⟩ := hG0
  have cvE : IntKind.i64.wrap E = E := by simp [IntKind.wrap, IntKind.signed, IntKind.bits]; omega
  have cvG : IntKind.i64.wrap G = G := by simp [IntKind.wrap, IntKind.signed, IntKind.bits]; omega
  have eqE : (E == E) = true := by simp
  have eqG : (G == G) = true := by simp
  clear hE hG HE
  go_wp2_with fail
  go_region_held3 (fun w' => Below w5.heap.size w5 w' ∧ w'.cell? ⟨w.heap.size, 0, none⟩ = some (.slice aL nL cL) ∧ w'.cell? ⟨w.heap.size, 1, none⟩ = some (.slice a2 n2 c2) ∧ w'.cell? ⟨w.heap.size, 2, none⟩ = some (.slice a3 n3 c3))
    (first | with_reducible assumption | (exact ⟨(Below.refl _ _).drew, q1, q2, q3⟩) | (refine keepQ (W0 := w5) (B := w.heap.size) (x1 := .slice aL nL cL) (x2 := .slice a2 n2 c2) (x3 := .slice a3 n3 c3) hb1 ?_; with_reducible assumption) | (refine keepQ (W0 := w5) (B := w.heap.size) (x1 := .slice aL nL cL) (x2 := .slice a2 n2 c2) (x3 := .slice a3 n3 c3) hb2 ?_; with_reducible assumption) | (refine keepQ (W0 := w5) (B := w.heap.size) (x1 := .slice aL nL cL) (x2 := .slice a2 n2 c2) (x3 := .slice a3 n3 c3) hb3 ?_; with_reducible assumption))
    (first | (go_at_call 13; refine (hS _ ?_).mono ?_; (focus (apply And.left; assumption)); rintro e wa ⟨rfl, hb1⟩) | (go_at_call 14; refine (hC _ ?_).mono ?_; (focus (apply And.left; assumption)); rintro e wb ⟨rfl, hb2⟩) | (go_at_call 15; refine (hD _ ?_).mono ?_; (focus (apply And.left; assumption)); rintro e wc ⟨rfl, hb3⟩))
  have B6 : Aside (Below w5.heap.size w5 wc) := by apply And.left; assumption
  clear hS hC hD hb1 hb2 hb3 q1 q2 q3
  go_wp2
  go_ret
  exact ⟨ret_bool (by simp), R5.out.bel.trans (B6.out.mono R5.out.bel.size)⟩
end Go.Proofs.YtgimknplckkiaaaDoor.query
