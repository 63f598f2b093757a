/-
  The walk of SpansParts: Parts and Nodes of any map are what the chapter says.
-/
import Derived.Test.YtfhihkogdnbghaaSpanSplitsWalk
import Derived.Test.YtfhihkogdnbghaaSpanRefParts
import Derived.Test.YtfhihkogdnbghaaSpanRefNodes
import Derived.Test.YtfhihkogdnbghaaSpanRefFacts
import Derived.Deep.RegionHeld3
namespace Go.Proofs.Ytfhihkogdnbghaa.spans
open Go.ChangeShapes Go.WideShapes Go.ChangeAt Go.RowKit Go.Deep
open Go.Proofs.Ytfhihkogdnbghaa.bytes (ret_bool hid nth addr_add cell_lt own_below own_mono)
open Go.Proofs.Ytfhihkogdnbghaa.code (factsB factB putI putI_len)
set_option linter.unusedVariables false
set_option maxRecDepth 100000
set_option linter.unusedSimpArgs false

/-- how many places facts have, each fact one more -/
def tw : List Ft → Nat
  | [] => 0
  | f :: r => f.k.length + 1 + tw r
theorem tw_filter (p : Ft → Bool) : ∀ fs, tw (fs.filter p) ≤ tw fs
  | [] => Nat.le_refl _
  | f :: r => by
    have ih := tw_filter p r
    by_cases h : p f = true
    · rw [List.filter_cons_of_pos h]; simp only [tw]; omega
    · rw [List.filter_cons_of_neg h]; simp only [tw]; omega
theorem factsB_tw (fs : List Ft) : (factsB (fs.map pf)).length ≤ 4 + 9 * tw fs := by
  unfold factsB
  rw [List.length_append, putI_len]
  have : ((fs.map pf).flatMap factB).length ≤ 9 * tw fs := by
    induction fs with
    | nil => exact Nat.le_refl _
    | cons f r ih =>
      rw [List.map_cons, List.flatMap_cons, List.length_append, factB_len]
      simp only [tw, pf]
      omega
  omega
theorem tw_len : ∀ fs : List Ft, fs.length ≤ tw fs
  | [] => Nat.le_refl _
  | f :: r => by have := tw_len r; simp only [tw, List.length_cons]; omega
/-- facts that a call told, wherever what comes behind leads -/
def Fk (W : World) (a : Option Addr) (q c : Nat) (ps : List (List Int × Int)) : Prop := ∃ gs : List Ft, q = gs.length ∧ gs.map pf = ps ∧ FactsIn W a gs
theorem Fk.keep {W W' : World} {a : Option Addr} {q c : Nat} {ps : List (List Int × Int)} (h : Fk W a q c ps) (hb : Below W.heap.size W W') : Fk W' a q c ps := by
  obtain ⟨gs, h1, h2, h3⟩ := h
  exact ⟨gs, h1, h2, h3.keep hb⟩
theorem sameFk {W : World} {a b : Option Addr} {q q2 c c2 : Nat} {fs : List Ft} (h1 : Fk W a q c (fs.map pf)) (h2 : Fk W b q2 c2 (fs.map pf)) (ht : tw fs ≤ 10000000) :
    Calls Try.prog 22 #[.slice a q c, .slice b q2 c2] W fun e w' => e = .returned (.bool true) ∧ Below W.heap.size W w' := by
  obtain ⟨gs, g1, g2, g3⟩ := h1
  obtain ⟨hs, k1, k2, k3⟩ := h2
  have hl := factsB_tw fs
  have ht2 := tw_len fs
  have e1 : gs.length = fs.length := by rw [← List.length_map (f := pf), g2, List.length_map]
  have e2 : hs.length = fs.length := by rw [← List.length_map (f := pf), k2, List.length_map]
  refine (sameFacts_any W a b gs hs q q2 c c2 g3 g1.symm (by omega) (by rw [g2]; omega) k3 k1.symm (by omega) (by rw [k2]; omega)).mono fun e w' ⟨m1, m2⟩ => ⟨?_, m2⟩
  rw [m1, g2, k2]; simp
theorem nodesR_any (ep : Int) (a : Option Addr) (n c : Nat) (l : List Sp) (frm till : Int) (w : World) (h : Sps w a n c l) :
    Calls Try.prog 26 #[mapV ep a n c, .int .i64 frm, .int .i64 till] w fun e w' => ∃ a2 q c2, e = .returned (.slice a2 q c2) ∧ Aside (q = (nodesOf l frm till).length ∧ Ints w' a2 (nodesOf l frm till) ∧ Below w.heap.size w w') ∧ q ≤ 6 :=
  (refNodes_any ep a n c l frm till w h).mono fun e w' ⟨v, he, ho, hb⟩ => by
    obtain ⟨a2, c2, rfl, hI, hc⟩ := ints_out ho
    exact ⟨a2, _, c2, he, ⟨rfl, hI, hb⟩, nodes_len l frm till⟩
/-- numbers that a call told -/
structure In (W : World) (a : Option Addr) (q : Nat) (L : List Int) : Prop where
  mem : Ints W a L
  len : L.length = q
  big : q ≤ 9223372036854775807
theorem In.keep {W W' : World} {a : Option Addr} {q : Nat} {L : List Int} (h : In W a q L) (hb : Below W.heap.size W W') : In W' a q L := ⟨h.mem.keep hb, h.len, h.big⟩
/-- four cells that stay -/
theorem four_stay {V W : World} {b1 b2 : Nat} {x0 x1 z0 z1 : Value} (h0 : V.cell? ⟨b1, 0, none⟩ = some x0) (h1 : V.cell? ⟨b1, 1, none⟩ = some x1) (h2 : V.cell? ⟨b2, 0, none⟩ = some z0) (h3 : V.cell? ⟨b2, 1, none⟩ = some z1) (hb : Below V.heap.size V W) :
    Below V.heap.size V W ∧ V.heap.size ≤ W.heap.size ∧ W.cell? ⟨b1, 0, none⟩ = some x0 ∧ W.cell? ⟨b1, 1, none⟩ = some x1 ∧ W.cell? ⟨b2, 0, none⟩ = some z0 ∧ W.cell? ⟨b2, 1, none⟩ = some z1 :=
  ⟨hb, hb.size, (hb.cell (p := ⟨b1, 0, none⟩) (cell_lt h0)).trans h0, (hb.cell (p := ⟨b1, 1, none⟩) (cell_lt h1)).trans h1, (hb.cell (p := ⟨b2, 0, none⟩) (cell_lt h2)).trans h2, (hb.cell (p := ⟨b2, 1, none⟩) (cell_lt h3)).trans h3⟩

set_option maxRecDepth 100000 in
set_option maxHeartbeats 4000000 in
theorem partsLaw_walk (ep : Int) (a : Option Addr) (n c : Nat) (l : List Sp) (ca : Option Addr) (cn cc : Nat) (cs : List Ct) (fa : Option Addr) (fn fc : Nat) (fs : List Ft) (node frm till : Int) (w : World) (h : Sps w a n c l) (hnM : n ≤ maxLen) (hC : CutsIn w ca cs) (hcn : cs.length = cn) (hcn9 : cn ≤ 9223372036854775807) (hF : FactsIn w fa fs) (hfn : fs.length = fn) (hfn9 : fn ≤ 9223372036854775807) (ht : tw fs ≤ 10000000) :
    Calls Try.prog 6 #[mapV ep a n c, .slice ca cn cc, .slice fa fn fc, .int .i64 node, .int .i64 frm, .int .i64 till] w fun e w' => e = .returned (.bool true) ∧ Below w.heap.size w w' := by
  obtain ⟨W0, hW0⟩ : ∃ W0, w.alloc (.cells (mapC ep a n c) 29) = W0 := ⟨_, rfl⟩
  have hb0 : Below w.heap.size w W0 := by rw [← hW0]; exact (Below.refl _ w).alloc (Nat.le_refl _) _
  have M0 : MB W0 w.heap.size ep a n c l := by rw [← hW0]; exact MB.new h
  have p0 := M0.c0
  have p1 := M0.c1
  have H0 := asd (And.intro M0 hb0)
  have HW : Hid (w.alloc (.cells #[.int .u32 ep, .slice a n c] 29) = W0) := hW0
  have hK := fun W => known_any W
  have HC := asd (show ∀ W, Below w.heap.size w W → Calls Try.prog 11 #[.int .i64 100, .int .i64 3, .slice ca cn cc] W (OfOut W (ofM 100 3 (cs.take 30))) from fun W hb => of_any ca cn cc cs 100 3 W (hC.keep hb) hcn hcn9 (by omega) (by omega))
  generalize ofM 100 3 (cs.take 30) = M at HC
  have HF := asd (show FactsIn w fa fs ∧ fs.length = fn ∧ tw fs ≤ 10000000 ∧ n ≤ maxLen from ⟨hF, hfn, ht, hnM⟩)
  clear h hb0 M0 hW0 hC hcn hF hfn ht hnM
  unfold mapV
  by_cases hn : 60 < n
  · have hnz : (60 : Int) < (n : Int) := by omega
    go_enter Try.func6, Try.ntmps6
    go_wp2_with fail
    rw [HW.out]
    go_wp2_with (go_at_call 13; refine (hK _).mono ?_; rintro e w1 ⟨rfl, hb1⟩)
    go_ret
    exact ⟨rfl, H0.out.2.trans (hb1.mono H0.out.2.size)⟩
  have hnz : ¬ (60 : Int) < (n : Int) := by omega
  by_cases h100 : 100 < fn
  · have h100z : (100 : Int) < (fn : Int) := by omega
    go_enter Try.func6, Try.ntmps6
    go_wp2_with fail
    rw [HW.out]
    go_wp2_with (go_at_call 13; refine (hK _).mono ?_; rintro e w1 ⟨rfl, hb1⟩)
    go_ret
    exact ⟨rfl, H0.out.2.trans (hb1.mono H0.out.2.size)⟩
  have h100z : ¬ (100 : Int) < (fn : Int) := by omega
  go_enter Try.func6, Try.ntmps6
  go_wp2_with fail
  rw [HW.out]
  go_upto_region 3 with (go_at_call 13; refine (hK _).mono ?_; rintro e v0 ⟨rfl, hb1⟩)
  have S0 := asd (And.intro (H0.out.1.keep hb1) (H0.out.2.trans (hb1.mono H0.out.2.size)))
  clear hb1 H0 hK p0 p1 HW hn
  obtain ⟨mp, mL⟩ := M
  go_upto_region 4 with (go_at_call 11; (with_reducible refine Calls.mono (HC.out _ S0.out.2) ?_); rintro e v1 ⟨am, nm, cm, rfl, hs1, h40, hb1⟩; unfold mapV)
  obtain ⟨V, hV⟩ : ∃ V, v1.alloc (.cells (mapC mp am nm cm) 29) = V := ⟨_, rfl⟩
  have ka : Below v1.heap.size v1 V := by rw [← hV]; exact (Below.refl _ _).alloc (Nat.le_refl _) _
  have m1 : MB V v1.heap.size mp am nm cm mL := by rw [← hV]; exact MB.new hs1
  have kb := hb1.trans (ka.mono hb1.size)
  have HV : Hid (v1.alloc (.cells #[.int .u32 mp, .slice am nm cm] 29) = V) := hV
  rw [HV.out]
  obtain ⟨xb, hxb⟩ : ∃ xb, v1.heap.size = xb := ⟨_, rfl⟩
  rw [hxb] at m1
  try rw [hxb]
  have S := asd (show MB V w.heap.size ep a n c l ∧ MB V xb mp am nm cm mL ∧ Below w.heap.size w V from ⟨S0.out.1.keep kb, m1, S0.out.2.trans (kb.mono S0.out.2.size)⟩)
  have HF1 := asd (show FactsIn V fa fs from HF.out.1.keep S.out.2.2)
  clear hs1 hb1 ka m1 kb hV HV hxb S0 HC
  obtain ⟨mb, hmb⟩ : ∃ mb, w.heap.size = mb := ⟨_, rfl⟩
  have HMb : Hid (w.heap.size = mb) := hmb
  rw [hmb] at S
  try rw [hmb]
  clear hmb
  -- the parts of both maps
  have C1 := asd (show ∀ W, Below V.heap.size V W → Calls Try.prog 23 #[.agg #[.int .u32 ep, .slice a n c], .slice fa fn fc, .int .i64 node] W fun e w' => ∃ a2 q2 c2, e = .returned (.slice a2 q2 c2) ∧ Aside (Fk w' a2 q2 c2 ((partsOf l fs node).map pf) ∧ Below V.heap.size V w' ∧ Below W.heap.size W w') from fun W hb => (parts_any ep a n c l fa fn fc fs node W (S.out.1.sp.keep hb) (HF1.out.keep hb) HF.out.2.1 (by omega)).mono fun e w' ⟨a2, q2, c2, gs, g1, g2, g3, g4, g5, g6⟩ => ⟨a2, q2, c2, g1, ⟨gs, g2, g3, g4⟩, hb.trans (g6.mono hb.size), g6⟩)
  have C2 := asd (show ∀ W, Below V.heap.size V W → Calls Try.prog 24 #[.agg #[.int .u32 ep, .slice a n c], .slice fa fn fc, .int .i64 node] W fun e w' => ∃ a2 q2 c2, e = .returned (.slice a2 q2 c2) ∧ Aside (Fk w' a2 q2 c2 ((partsOf l fs node).map pf) ∧ Below V.heap.size V w' ∧ Below W.heap.size W w') from fun W hb => (refParts_any ep a n c l fa fn fc fs node W (S.out.1.sp.keep hb) (HF1.out.keep hb) HF.out.2.1 (by omega)).mono fun e w' ⟨a2, q2, c2, gs, g1, g2, g3, g4, g5, g6⟩ => ⟨a2, q2, c2, g1, ⟨gs, g2, g3, g4⟩, hb.trans (g6.mono hb.size), g6⟩)
  have C3 := asd (show ∀ W, Below V.heap.size V W → Calls Try.prog 23 #[.agg #[.int .u32 mp, .slice am nm cm], .slice fa fn fc, .int .i64 node] W fun e w' => ∃ a2 q2 c2, e = .returned (.slice a2 q2 c2) ∧ Aside (Fk w' a2 q2 c2 ((partsOf mL fs node).map pf) ∧ Below V.heap.size V w' ∧ Below W.heap.size W w') from fun W hb => (parts_any mp am nm cm mL fa fn fc fs node W (S.out.2.1.sp.keep hb) (HF1.out.keep hb) HF.out.2.1 (by omega)).mono fun e w' ⟨a2, q2, c2, gs, g1, g2, g3, g4, g5, g6⟩ => ⟨a2, q2, c2, g1, ⟨gs, g2, g3, g4⟩, hb.trans (g6.mono hb.size), g6⟩)
  have C4 := asd (show ∀ W, Below V.heap.size V W → Calls Try.prog 24 #[.agg #[.int .u32 mp, .slice am nm cm], .slice fa fn fc, .int .i64 node] W fun e w' => ∃ a2 q2 c2, e = .returned (.slice a2 q2 c2) ∧ Aside (Fk w' a2 q2 c2 ((partsOf mL fs node).map pf) ∧ Below V.heap.size V w' ∧ Below W.heap.size W w') from fun W hb => (refParts_any mp am nm cm mL fa fn fc fs node W (S.out.2.1.sp.keep hb) (HF1.out.keep hb) HF.out.2.1 (by omega)).mono fun e w' ⟨a2, q2, c2, gs, g1, g2, g3, g4, g5, g6⟩ => ⟨a2, q2, c2, g1, ⟨gs, g2, g3, g4⟩, hb.trans (g6.mono hb.size), g6⟩)
  have C5 := asd (show ∀ (L : List Sp) W a2 q2 c2 a3 q3 c3, Below V.heap.size V W → Fk W a2 q2 c2 ((partsOf L fs node).map pf) → Fk W a3 q3 c3 ((partsOf L fs node).map pf) → Calls Try.prog 22 #[.slice a2 q2 c2, .slice a3 q3 c3] W fun e w' => e = .returned (.bool true) ∧ Aside (Below V.heap.size V w') from fun L W a2 q2 c2 a3 q3 c3 hb h1 h2 => (sameFk h1 h2 (Nat.le_trans (tw_filter _ _) HF.out.2.2.1)).mono fun e w' ⟨g1, g2⟩ => ⟨g1, hb.trans (g2.mono hb.size)⟩)
  have p0 := S.out.1.c0
  have p1 := S.out.1.c1
  have p2 := S.out.2.1.c0
  have p3 := S.out.2.1.c1
  have KS : Aside (∀ {W}, Below V.heap.size V W → Below V.heap.size V W ∧ V.heap.size ≤ W.heap.size ∧ W.cell? ⟨mb, 0, none⟩ = some (.int .u32 ep) ∧ W.cell? ⟨mb, 1, none⟩ = some (.slice a n c) ∧ W.cell? ⟨xb, 0, none⟩ = some (.int .u32 mp) ∧ W.cell? ⟨xb, 1, none⟩ = some (.slice am nm cm)) := fun hb => four_stay p0 p1 p2 p3 hb
  go_cut [14] from 31 to 50 (fun v14 wx => v14 = .bool true ∧ Aside (Below V.heap.size V wx))
  case first =>
    go_region_held3 (fun w' => Below V.heap.size V w' ∧ V.heap.size ≤ w'.heap.size ∧ w'.cell? ⟨mb, 0, none⟩ = some (.int .u32 ep) ∧ w'.cell? ⟨mb, 1, none⟩ = some (.slice a n c) ∧ w'.cell? ⟨xb, 0, none⟩ = some (.int .u32 mp) ∧ w'.cell? ⟨xb, 1, none⟩ = some (.slice am nm cm))
      (first | with_reducible assumption | (refine KS.out ?_; first | with_reducible exact Below.refl _ _ | (with_reducible exact hS2.out) | (with_reducible exact hS1.out) | (with_reducible exact hD.out.2.1) | (with_reducible exact hE.out.2.1) | (with_reducible exact hA.out.2.1) | (with_reducible exact hB.out.2.1) | (with_reducible exact (Below.refl _ _).drew)))
      ((first
        | (go_at_call 23; (with_reducible refine Calls.mono (C1.out _ ?_) ?_); (focus (apply And.left; assumption)); rintro e wA ⟨aA, qA, cA, rfl, hA⟩)
        | (go_at_call 24; (with_reducible refine Calls.mono (C2.out _ ?_) ?_); (focus (apply And.left; assumption)); rintro e wB ⟨aB, qB, cB, rfl, hB⟩)
        | (go_at_call 22; (with_reducible refine Calls.mono (C5.out l _ aA qA cA aB qB cB hB.out.2.1 (hA.out.1.keep hB.out.2.2) hB.out.1) ?_); rintro e wS1 ⟨rfl, hS1⟩)
        | (go_at_call 22; (with_reducible refine Calls.mono (C5.out l _ aA qA cA aB qB cB hA.out.2.1 hA.out.1 (hB.out.1.keep hA.out.2.2)) ?_); rintro e wS1 ⟨rfl, hS1⟩)
        | (go_at_call 23; (with_reducible refine Calls.mono (C3.out _ ?_) ?_); (focus (apply And.left; assumption)); rintro e wD ⟨aD, qD, cD, rfl, hD⟩)
        | (go_at_call 24; (with_reducible refine Calls.mono (C4.out _ ?_) ?_); (focus (apply And.left; assumption)); rintro e wE ⟨aE, qE, cE, rfl, hE⟩)
        | (go_at_call 22; (with_reducible refine Calls.mono (C5.out mL _ aD qD cD aE qE cE hE.out.2.1 (hD.out.1.keep hE.out.2.2) hE.out.1) ?_); rintro e wS2 ⟨rfl, hS2⟩)
        | (go_at_call 22; (with_reducible refine Calls.mono (C5.out mL _ aD qD cD aE qE cE hD.out.2.1 hD.out.1 (hE.out.1.keep hD.out.2.2)) ?_); rintro e wS2 ⟨rfl, hS2⟩)))
    go_wp2_with fail
    go_meet
    exact ⟨rfl, hS2.out⟩
  case rest =>
    obtain ⟨rfl, HR⟩ := hcut
    obtain ⟨V2, hV2⟩ : ∃ V2, wc = V2 := ⟨_, rfl⟩
    rw [hV2] at HR ⊢
    have S2 := asd (show MB V2 mb ep a n c l ∧ MB V2 xb mp am nm cm mL ∧ Below w.heap.size w V2 from ⟨S.out.1.keep HR.out, S.out.2.1.keep HR.out, by rw [HMb.out]; exact S.out.2.2.trans (HR.out.mono (by rw [← HMb.out]; exact S.out.2.2.size))⟩)
    clear hV2 KS C1 C2 C3 C4 C5 p0 p1 p2 p3 S HF1
    by_cases u1 : frm < -100
    · go_wp2
      go_ret
      exact ⟨rfl, S2.out.2.2⟩
    by_cases u2 : 10100 < frm
    · go_wp2
      go_ret
      exact ⟨rfl, S2.out.2.2⟩
    by_cases u3 : till < -100
    · go_wp2
      go_ret
      exact ⟨rfl, S2.out.2.2⟩
    by_cases u4 : 10100 < till
    · go_wp2
      go_ret
      exact ⟨rfl, S2.out.2.2⟩
    obtain ⟨f2, hf2⟩ : ∃ x, frm.tmod 200 = x := ⟨_, rfl⟩
    have bf2 := Int.tmod_lt_of_pos frm (show (0 : Int) < 200 by omega)
    have df2 := Int.lt_tmod_of_pos frm (show (0 : Int) < 200 by omega)
    rw [hf2] at bf2 df2
    have wf2 : IntKind.i64.wrap (frm.tmod 200) = f2 := by rw [IntKind.wrap_i64, hf2]; omega
    have zf2 : IntKind.i64.wrap f2 = f2 := by rw [IntKind.wrap_i64]; omega
    obtain ⟨t2, ht2⟩ : ∃ x, till.tmod 200 = x := ⟨_, rfl⟩
    have bt2 := Int.tmod_lt_of_pos till (show (0 : Int) < 200 by omega)
    have dt2 := Int.lt_tmod_of_pos till (show (0 : Int) < 200 by omega)
    rw [ht2] at bt2 dt2
    have wt2 : IntKind.i64.wrap (till.tmod 200) = t2 := by rw [IntKind.wrap_i64, ht2]; omega
    have zt2 : IntKind.i64.wrap t2 = t2 := by rw [IntKind.wrap_i64]; omega
    obtain ⟨f5, hf5⟩ : ∃ x, frm.tmod 50 = x := ⟨_, rfl⟩
    have bf5 := Int.tmod_lt_of_pos frm (show (0 : Int) < 50 by omega)
    have df5 := Int.lt_tmod_of_pos frm (show (0 : Int) < 50 by omega)
    rw [hf5] at bf5 df5
    have wf5 : IntKind.i64.wrap (frm.tmod 50) = f5 := by rw [IntKind.wrap_i64, hf5]; omega
    have zf5 : IntKind.i64.wrap f5 = f5 := by rw [IntKind.wrap_i64]; omega
    obtain ⟨t5, ht5⟩ : ∃ x, till.tmod 50 = x := ⟨_, rfl⟩
    have bt5 := Int.tmod_lt_of_pos till (show (0 : Int) < 50 by omega)
    have dt5 := Int.lt_tmod_of_pos till (show (0 : Int) < 50 by omega)
    rw [ht5] at bt5 dt5
    have wt5 : IntKind.i64.wrap (till.tmod 50) = t5 := by rw [IntKind.wrap_i64, ht5]; omega
    have zt5 : IntKind.i64.wrap t5 = t5 := by rw [IntKind.wrap_i64]; omega
    have D1 := asd (show ∀ W, Below V2.heap.size V2 W → Calls Try.prog 12 #[.agg #[.int .u32 mp, .slice am nm cm], .int .i64 f2, .int .i64 t2] W fun e w' => ∃ a2 q2 c2, e = .returned (.slice a2 q2 c2) ∧ Aside (In w' a2 q2 (nodesOf mL f2 t2) ∧ Below V2.heap.size V2 w' ∧ Below W.heap.size W w') from fun W hb => (nodesS_any mp am nm cm mL f2 t2 W (S2.out.2.1.sp.keep hb) (by unfold maxLen; omega)).mono fun e w' ⟨a2, q2, c2, g1, g2, g3⟩ => ⟨a2, q2, c2, g1, ⟨g2.out.2.1, g2.out.1.symm, by omega⟩, hb.trans (g2.out.2.2.mono hb.size), g2.out.2.2⟩)
    have D2 := asd (show ∀ W, Below V2.heap.size V2 W → Calls Try.prog 26 #[.agg #[.int .u32 mp, .slice am nm cm], .int .i64 f2, .int .i64 t2] W fun e w' => ∃ a2 q2 c2, e = .returned (.slice a2 q2 c2) ∧ Aside (In w' a2 q2 (nodesOf mL f2 t2) ∧ Below V2.heap.size V2 w' ∧ Below W.heap.size W w') from fun W hb => (nodesR_any mp am nm cm mL f2 t2 W (S2.out.2.1.sp.keep hb)).mono fun e w' ⟨a2, q2, c2, g1, g2, g3⟩ => ⟨a2, q2, c2, g1, ⟨g2.out.2.1, g2.out.1.symm, by omega⟩, hb.trans (g2.out.2.2.mono hb.size), g2.out.2.2⟩)
    have D3 := asd (show ∀ W, Below V2.heap.size V2 W → Calls Try.prog 12 #[.agg #[.int .u32 ep, .slice a n c], .int .i64 f5, .int .i64 t5] W fun e w' => ∃ a2 q2 c2, e = .returned (.slice a2 q2 c2) ∧ Aside (In w' a2 q2 (nodesOf l f5 t5) ∧ Below V2.heap.size V2 w' ∧ Below W.heap.size W w') from fun W hb => (nodesS_any ep a n c l f5 t5 W (S2.out.1.sp.keep hb) HF.out.2.2.2).mono fun e w' ⟨a2, q2, c2, g1, g2, g3⟩ => ⟨a2, q2, c2, g1, ⟨g2.out.2.1, g2.out.1.symm, by omega⟩, hb.trans (g2.out.2.2.mono hb.size), g2.out.2.2⟩)
    have D4 := asd (show ∀ W, Below V2.heap.size V2 W → Calls Try.prog 26 #[.agg #[.int .u32 ep, .slice a n c], .int .i64 f5, .int .i64 t5] W fun e w' => ∃ a2 q2 c2, e = .returned (.slice a2 q2 c2) ∧ Aside (In w' a2 q2 (nodesOf l f5 t5) ∧ Below V2.heap.size V2 w' ∧ Below W.heap.size W w') from fun W hb => (nodesR_any ep a n c l f5 t5 W (S2.out.1.sp.keep hb)).mono fun e w' ⟨a2, q2, c2, g1, g2, g3⟩ => ⟨a2, q2, c2, g1, ⟨g2.out.2.1, g2.out.1.symm, by omega⟩, hb.trans (g2.out.2.2.mono hb.size), g2.out.2.2⟩)
    have D5 := asd (show ∀ (L : List Int) W a2 q2 c2 a3 q3 c3, Below V2.heap.size V2 W → In W a2 q2 L → In W a3 q3 L → Calls Try.prog 25 #[.slice a2 q2 c2, .slice a3 q3 c3] W fun e w' => e = .returned (.bool true) ∧ Aside (Below V2.heap.size V2 w') from fun L W a2 q2 c2 a3 q3 c3 hb h1 h2 => (sameInts_any W a2 a3 L L q2 q3 c2 c3 h1.mem h1.len h2.mem h2.len h1.big h2.big).mono fun e w' ⟨g1, g2⟩ => ⟨by rw [g1]; simp, hb.trans (g2.mono hb.size)⟩)
    have p0 := S2.out.1.c0
    have p1 := S2.out.1.c1
    have p2 := S2.out.2.1.c0
    have p3 := S2.out.2.1.c1
    have KS : Aside (∀ {W}, Below V2.heap.size V2 W → Below V2.heap.size V2 W ∧ V2.heap.size ≤ W.heap.size ∧ W.cell? ⟨mb, 0, none⟩ = some (.int .u32 ep) ∧ W.cell? ⟨mb, 1, none⟩ = some (.slice a n c) ∧ W.cell? ⟨xb, 0, none⟩ = some (.int .u32 mp) ∧ W.cell? ⟨xb, 1, none⟩ = some (.slice am nm cm)) := fun hb => four_stay p0 p1 p2 p3 hb
    go_upto_region 7 with fail
    go_region_held3 (fun w' => Below V2.heap.size V2 w' ∧ V2.heap.size ≤ w'.heap.size ∧ w'.cell? ⟨mb, 0, none⟩ = some (.int .u32 ep) ∧ w'.cell? ⟨mb, 1, none⟩ = some (.slice a n c) ∧ w'.cell? ⟨xb, 0, none⟩ = some (.int .u32 mp) ∧ w'.cell? ⟨xb, 1, none⟩ = some (.slice am nm cm))
      (first | with_reducible assumption | (refine KS.out ?_; first | with_reducible exact Below.refl _ _ | (with_reducible exact hS2.out) | (with_reducible exact hS1.out) | (with_reducible exact hD.out.2.1) | (with_reducible exact hE.out.2.1) | (with_reducible exact hA.out.2.1) | (with_reducible exact hB.out.2.1) | (with_reducible exact (Below.refl _ _).drew)))
      ((first
        | (go_at_call 12; (with_reducible refine Calls.mono (D1.out _ ?_) ?_); (focus (apply And.left; assumption)); rintro e wA ⟨aA, qA, cA, rfl, hA⟩)
        | (go_at_call 26; (with_reducible refine Calls.mono (D2.out _ ?_) ?_); (focus (apply And.left; assumption)); rintro e wB ⟨aB, qB, cB, rfl, hB⟩)
        | (go_at_call 25; (with_reducible refine Calls.mono (D5.out _ _ aA qA cA aB qB cB hB.out.2.1 (hA.out.1.keep hB.out.2.2) hB.out.1) ?_); rintro e wS1 ⟨rfl, hS1⟩)
        | (go_at_call 25; (with_reducible refine Calls.mono (D5.out _ _ aA qA cA aB qB cB hA.out.2.1 hA.out.1 (hB.out.1.keep hA.out.2.2)) ?_); rintro e wS1 ⟨rfl, hS1⟩)
        | (go_at_call 12; (with_reducible refine Calls.mono (D3.out _ ?_) ?_); (focus (apply And.left; assumption)); rintro e wD ⟨aD, qD, cD, rfl, hD⟩)
        | (go_at_call 26; (with_reducible refine Calls.mono (D4.out _ ?_) ?_); (focus (apply And.left; assumption)); rintro e wE ⟨aE, qE, cE, rfl, hE⟩)
        | (go_at_call 25; (with_reducible refine Calls.mono (D5.out _ _ aD qD cD aE qE cE hE.out.2.1 (hD.out.1.keep hE.out.2.2) hE.out.1) ?_); rintro e wS2 ⟨rfl, hS2⟩)
        | (go_at_call 25; (with_reducible refine Calls.mono (D5.out _ _ aD qD cD aE qE cE hD.out.2.1 hD.out.1 (hE.out.1.keep hD.out.2.2)) ?_); rintro e wS2 ⟨rfl, hS2⟩)))
    all_goals
      go_wp2
      go_ret
      exact ⟨rfl, S2.out.2.2.trans (hS2.out.mono S2.out.2.2.size)⟩
end Go.Proofs.Ytfhihkogdnbghaa.spans
