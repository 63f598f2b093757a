/-
  The contract of the chapter's Same: of two tables that are alike it says so.
-/
import Derived.Test.YtfchpcmiipnbjaaDoorTableSame
namespace Go.Proofs.YtfchpcmiipnbjaaDoor.table
open Go.ChangeShapes Go.WideShapes Go.ChangeAt Go.RowKit Go.Deep
open Go.Proofs.YtfchpcmiipnbjaaDoor.dims (nth Ints cell_lt cmpL vals vals_len vals_get vals_one vals_app own_below own_mono own_out RowOut info_int ret_bool ret_int cmp_any refCmp_any)
open Go.Proofs.YtfchpcmiipnbjaaDoor.cell (C4 mrg all one zero In64)
set_option linter.unusedVariables false
set_option maxRecDepth 100000

theorem plain_at {rs qs : List Rw} (h : rs.map plain = qs.map plain) {k : Nat} (hk : k < rs.length) : (rwn rs k).k = (rwn qs k).k ∧ (rwn rs k).c = (rwn qs k).c := by
  have hl : rs.length = qs.length := by simpa using congrArg List.length h
  have e : (rs.map plain)[k]? = (qs.map plain)[k]? := by rw [h]
  rw [List.getElem?_map, List.getElem?_map, List.getElem?_eq_getElem hk, List.getElem?_eq_getElem (by omega)] at e
  simp only [Option.map_some, Option.some.injEq] at e
  rw [rwn_eq hk, rwn_eq (by omega)]
  exact ⟨congrArg Prod.fst e, congrArg Prod.snd e⟩

theorem ten_keep {W0 W w' : World} {B b1 p1 b2 p2 : Nat} {x0 x1 x2 x3 x4 y0 y1 y2 y3 y4 : Value} (hb : Below W.heap.size W w')
    (h : Below B W0 W ∧ B ≤ W.heap.size ∧ W.cell? ⟨b1, p1, none⟩ = some x0 ∧ W.cell? ⟨b1, p1 + 1, none⟩ = some x1 ∧ W.cell? ⟨b1, p1 + 2, none⟩ = some x2 ∧ W.cell? ⟨b1, p1 + 3, none⟩ = some x3 ∧ W.cell? ⟨b1, p1 + 4, none⟩ = some x4 ∧ W.cell? ⟨b2, p2, none⟩ = some y0 ∧ W.cell? ⟨b2, p2 + 1, none⟩ = some y1 ∧ W.cell? ⟨b2, p2 + 2, none⟩ = some y2 ∧ W.cell? ⟨b2, p2 + 3, none⟩ = some y3 ∧ W.cell? ⟨b2, p2 + 4, none⟩ = some y4) :
    Below B W0 w' ∧ B ≤ w'.heap.size ∧ w'.cell? ⟨b1, p1, none⟩ = some x0 ∧ w'.cell? ⟨b1, p1 + 1, none⟩ = some x1 ∧ w'.cell? ⟨b1, p1 + 2, none⟩ = some x2 ∧ w'.cell? ⟨b1, p1 + 3, none⟩ = some x3 ∧ w'.cell? ⟨b1, p1 + 4, none⟩ = some x4 ∧ w'.cell? ⟨b2, p2, none⟩ = some y0 ∧ w'.cell? ⟨b2, p2 + 1, none⟩ = some y1 ∧ w'.cell? ⟨b2, p2 + 2, none⟩ = some y2 ∧ w'.cell? ⟨b2, p2 + 3, none⟩ = some y3 ∧ w'.cell? ⟨b2, p2 + 4, none⟩ = some y4 := by
  obtain ⟨g0, g1, h0, h1, h2, h3, h4, h5, h6, h7, h8, h9⟩ := h
  have k : ∀ {c o : Nat} {v : Value}, W.cell? ⟨c, o, none⟩ = some v → w'.cell? ⟨c, o, none⟩ = some v := fun {c o v} hv => (hb.cell (p := ⟨c, o, none⟩) (cell_lt hv)).trans hv
  exact ⟨g0.trans (hb.mono g1), Nat.le_trans g1 hb.size, k h0, k h1, k h2, k h3, k h4, k h5, k h6, k h7, k h8, k h9⟩

set_option maxHeartbeats 4000000 in
theorem refSame_any (a1 a2 : Option Addr) (n c1 c2 : Nat) (rs qs : List Rw) (w : World) (h1 : RowsIn w a1 rs) (h2 : RowsIn w a2 qs) (e : rs.map plain = qs.map plain) (hn : rs.length = n) (hm : n ≤ 9223372036854775807) :
    Calls Tryd.prog 18 #[.slice a1 n c1, .slice a2 n c2] w fun e w' => e = .returned (.bool true) ∧ Below w.heap.size w w' := by
  have hl : rs.length = qs.length := by simpa using congrArg List.length e
  have H : Aside (RowsIn w a1 rs ∧ RowsIn w a2 qs ∧ rs.map plain = qs.map plain ∧ rs.length = n ∧ qs.length = n) := ⟨h1, h2, e, hn, by omega⟩
  clear h1 h2 e hn hl
  go_enter Tryd.func18, Tryd.ntmps18
  go_wp2_with fail
  go_loopg [5] n (fun g1 vi wr => ∃ (k : Nat), vi = .int .i64 k ∧ k ≤ n ∧ n - k ≤ g1 ∧ Aside (Below w.heap.size w wr))
  case atStart => exact ⟨0, rfl, Nat.zero_le _, Nat.le_refl _, Below.refl _ _⟩
  case round =>
    obtain ⟨k, rfl, hk, hg1, SK⟩ := hrel
    by_cases hlt : k < n
    · have hltz : (k : Int) < (n : Int) := by omega
      have hk1 : k < rs.length := by rw [H.out.2.2.2.1]; exact hlt
      have hk2 : k < qs.length := by rw [H.out.2.2.2.2]; exact hlt
      obtain ⟨b1, o1, ha1, hc1⟩ := (H.out.1.keep SK.out).get hk1
      subst ha1
      obtain ⟨⟨r0, r1, r2, r3, r4⟩, K1⟩ := hc1 k hk1
      obtain ⟨b2, o2, ha2, hc2⟩ := (H.out.2.1.keep SK.out).get hk2
      subst ha2
      obtain ⟨⟨q0, q1, q2, q3, q4⟩, K2⟩ := hc2 k hk2
      clear hc1 hc2
      obtain ⟨e1, e2⟩ := plain_at H.out.2.2.1 hk1
      rw [← e2] at q1 q2 q3 q4
      have hz : cmpL (rwn rs k).k (rwn qs k).k = 0 := by rw [e1]; exact cmpL_self _
      have m1 := Nat.le_trans K1.lec K1.max
      have m2 := Nat.le_trans K2.lec K2.max
      have hC := fun W (j1 : Ints W (rwn rs k).a (rwn rs k).k) (j2 : Ints W (rwn qs k).a (rwn qs k).k) => refCmp_any (rwn rs k).a (rwn qs k).a (rwn rs k).k.length (rwn qs k).k.length (rwn rs k).cap (rwn qs k).cap (rwn rs k).k (rwn qs k).k W j1 j2 rfl rfl m1 m2
      rw [hz] at hC
      have J1 : Aside (Ints wr (rwn rs k).a (rwn rs k).k) := K1.mem
      have J2 : Aside (Ints wr (rwn qs k).a (rwn qs k).k) := K2.mem
      clear e1 e2 K1 K2 hz m1 m2
      generalize (rwn rs k).c = c at r1 r2 r3 r4 q1 q2 q3 q4
      generalize (rwn rs k).k.length = t1 at r0 hC
      generalize (rwn rs k).cap = t2 at r0 hC
      generalize (rwn rs k).a = t3 at r0 hC J1
      generalize (rwn rs k).k = t4 at hC J1
      generalize (rwn qs k).k.length = s1 at q0 hC
      generalize (rwn qs k).cap = s2 at q0 hC
      generalize (rwn qs k).a = s3 at q0 hC J2
      generalize (rwn qs k).k = s4 at hC J2
      have hsz := SK.out.size
      go_wp2_with fail
      go_region_held3 (fun w' => Below wr.heap.size wr w' ∧ wr.heap.size ≤ w'.heap.size ∧ w'.cell? ⟨b1, o1 + k * 5, none⟩ = some (.slice t3 t1 t2) ∧ w'.cell? ⟨b1, o1 + k * 5 + 1, none⟩ = some (.int .i64 c.n) ∧ w'.cell? ⟨b1, o1 + k * 5 + 2, none⟩ = some (.int .i64 c.s) ∧ w'.cell? ⟨b1, o1 + k * 5 + 3, none⟩ = some (.int .i64 c.lo) ∧ w'.cell? ⟨b1, o1 + k * 5 + 4, none⟩ = some (.int .i64 c.hi) ∧ w'.cell? ⟨b2, o2 + k * 5, none⟩ = some (.slice s3 s1 s2) ∧ w'.cell? ⟨b2, o2 + k * 5 + 1, none⟩ = some (.int .i64 c.n) ∧ w'.cell? ⟨b2, o2 + k * 5 + 2, none⟩ = some (.int .i64 c.s) ∧ w'.cell? ⟨b2, o2 + k * 5 + 3, none⟩ = some (.int .i64 c.lo) ∧ w'.cell? ⟨b2, o2 + k * 5 + 4, none⟩ = some (.int .i64 c.hi))
        (first | assumption | (exact ⟨(Below.refl _ _).drew, Nat.le_refl _, r0, r1, r2, r3, r4, q0, q1, q2, q3, q4⟩) | (exact ⟨Below.refl _ _, Nat.le_refl _, r0, r1, r2, r3, r4, q0, q1, q2, q3, q4⟩) | (refine ten_keep (W0 := wr) (B := wr.heap.size) (b1 := b1) (p1 := o1 + k * 5) (b2 := b2) (p2 := o2 + k * 5) (x0 := .slice t3 t1 t2) (x1 := .int .i64 c.n) (x2 := .int .i64 c.s) (x3 := .int .i64 c.lo) (x4 := .int .i64 c.hi) (y0 := .slice s3 s1 s2) (y1 := .int .i64 c.n) (y2 := .int .i64 c.s) (y3 := .int .i64 c.lo) (y4 := .int .i64 c.hi) hb2 ?_; assumption))
        ((go_at_call 26; refine (hC _ (J1.out.keep (by apply And.left; assumption)) (J2.out.keep (by apply And.left; assumption))).mono ?_; rintro e w2 ⟨rfl, hb2⟩))
      have S2 : Aside (Below w.heap.size w w2) := by
        have h : Below wr.heap.size wr w2 := by apply And.left; assumption
        exact SK.out.trans (h.mono hsz)
      go_wp2
      go_roundg (n - (k + 1))
      case measure => omega
      case rel => exact ⟨k + 1, by go_num, by omega, by omega, S2⟩
    · have hltz : ¬ (k : Int) < (n : Int) := by omega
      go_wp2
      go_ret
      exact ⟨rfl, SK.out⟩
end Go.Proofs.YtfchpcmiipnbjaaDoor.table
