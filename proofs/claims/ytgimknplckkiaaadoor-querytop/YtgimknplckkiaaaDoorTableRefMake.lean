/-
  The contract of the chapter's Make: facts, one by one.
-/
import Derived.Test.YtgimknplckkiaaaDoorTableRefLay
namespace Go.Proofs.YtgimknplckkiaaaDoor.table
open Go.ChangeShapes Go.WideShapes Go.ChangeAt Go.RowKit Go.Deep
open Go.Proofs.YtgimknplckkiaaaDoor.dims (nth Ints cell_lt cmpL own_below)
open Go.Proofs.YtgimknplckkiaaaDoor.cell (C4 mrg all one zero In64 refOf_any)
set_option linter.unusedVariables false
set_option maxRecDepth 100000

theorem lay_len : ∀ (t : List PRow) (r : PRow), (lay t r).length ≤ t.length + 1
  | [], r => by simp [lay]
  | x :: t, r => by
    have := lay_len t r
    simp only [lay]
    split
    · simp; omega
    · split <;> simp
theorem tab_snoc (F : List PFact) (f : PFact) : tab (rowsOf (F ++ [f])) = lay (tab (rowsOf F)) (f.1, one f.2) := by
  simp [tab, rowsOf]
theorem take_pf {fs : List Ft} {k : Nat} (h : k < fs.length) : (fs.take (k + 1)).map pf = (fs.take k).map pf ++ [pf (ftn fs k)] := by
  rw [List.take_succ_eq_append_getElem h, List.map_append, ftn_eq h]; rfl

/-- a table so far, of at most so many rows -/
structure TS (w : World) (t : List PRow) (m : Nat) (a : Option Addr) (n cap : Nat) (W : World) : Prop where
  rows : ∃ rs, RowsIn W a rs ∧ rs.map plain = t ∧ rs.length = n
  lec : n ≤ cap
  max : cap ≤ 9223372036854775807
  few : n ≤ m
  bel : Below w.heap.size w W
theorem TS.start (w : World) : TS w [] 0 none 0 0 w := ⟨⟨[], .inl rfl, rfl, rfl⟩, Nat.le_refl _, by omega, Nat.le_refl _, Below.refl _ _⟩
theorem TS.keep {w W W1 : World} {t : List PRow} {m : Nat} {a : Option Addr} {n cap : Nat} (h : TS w t m a n cap W) (hb : Below W.heap.size W W1) : TS w t m a n cap W1 := by
  obtain ⟨rs, h1, h2, h3⟩ := h.rows
  exact ⟨⟨rs, h1.keep hb, h2, h3⟩, h.lec, h.max, h.few, h.bel.trans (hb.mono h.bel.size)⟩
/-- one row more -/
theorem TS.lay_any {w W : World} {t : List PRow} {m : Nat} {a : Option Addr} {n cap : Nat} (h : TS w t m a n cap W) (hm : m ≤ 100000) (r : Rw) (hk : KeyOk W r.a r.k.length r.cap r.k) (hl : r.k.length ≤ 1000000) :
    Calls Tryd.prog 39 #[.slice a n cap, .agg #[.slice r.a r.k.length r.cap, .int .i64 r.c.n, .int .i64 r.c.s, .int .i64 r.c.lo, .int .i64 r.c.hi]] W fun e w' => ∃ a' n' cap', e = .returned (.slice a' n' cap') ∧ TS w (lay t (plain r)) (m + 1) a' n' cap' w' ∧ Below W.heap.size W w' := by
  obtain ⟨rs, h1, h2, h3⟩ := h.rows
  have hf := h.few
  refine (refLay_any a n cap rs r W h1 h3 (by omega) h.lec hk hl).mono ?_
  rintro e w' ⟨v, rfl, ⟨a', cap', rs', rfl, hR, he, hc, hx⟩, hb⟩
  rw [h2] at he
  refine ⟨a', rs'.length, cap', rfl, ⟨⟨rs', hR, he, rfl⟩, hc, hx, ?_, h.bel.trans (hb.mono h.bel.size)⟩, hb⟩
  have e1 : rs'.length = (lay t (plain r)).length := by rw [← he]; simp
  have e2 := lay_len t (plain r)
  have e3 : t.length = n := by rw [← h2, List.length_map, h3]
  omega
theorem TS.out {w W : World} {t : List PRow} {m : Nat} {a : Option Addr} {n cap : Nat} (h : TS w t m a n cap W) : TabOut W (.slice a n cap) t := by
  obtain ⟨rs, h1, h2, h3⟩ := h.rows
  exact ⟨a, cap, rs, by rw [h3], h1, h2, by rw [h3]; exact h.lec, h.max⟩

theorem pairc_keep {W0 W w' : World} {b p B : Nat} {x y : Value} (hb : Below W.heap.size W w') (h : Below B W0 W ∧ B ≤ W.heap.size ∧ W.cell? ⟨b, p, none⟩ = some x ∧ W.cell? ⟨b, p + 1, none⟩ = some y) : Below B W0 w' ∧ B ≤ w'.heap.size ∧ w'.cell? ⟨b, p, none⟩ = some x ∧ w'.cell? ⟨b, p + 1, none⟩ = some y := by
  obtain ⟨h0, h1, h2, h3⟩ := h
  have k : ∀ {c o : Nat} {v : Value}, W.cell? ⟨c, o, none⟩ = some v → w'.cell? ⟨c, o, none⟩ = some v := fun {c o v} hv => (hb.cell (p := ⟨c, o, none⟩) (cell_lt hv)).trans hv
  exact ⟨h0.trans (hb.mono h1), Nat.le_trans h1 hb.size, k h2, k h3⟩

set_option maxHeartbeats 4000000 in
theorem refMake_any (a : Option Addr) (n cap : Nat) (fs : List Ft) (w : World) (hF : FactsIn w a fs) (hn : fs.length = n) (hn2 : n ≤ 10000) (hk : ∀ f ∈ fs, f.k.length ≤ 1000000) :
    Calls Tryd.prog 19 #[.slice a n cap] w fun e w' => ∃ v, e = .returned v ∧ TabOut w' v (tab (rowsOf (fs.map pf))) ∧ Below w.heap.size w w' := by
  have HH : Aside (FactsIn w a fs ∧ fs.length = n ∧ ∀ f ∈ fs, f.k.length ≤ 1000000) := ⟨hF, hn, hk⟩
  have S1 : Aside (TS w (tab (rowsOf ((fs.take 0).map pf))) 0 none 0 0 w) := TS.start w
  clear hF hn hk
  go_enter Tryd.func19, Tryd.ntmps19
  go_wp2_with fail
  go_loopg [3, 4] n (fun g1 v vi wr => ∃ (k m : Nat) (a1 : Option Addr) (c1 : Nat), v = .slice a1 m c1 ∧ vi = .int .i64 k ∧ k ≤ n ∧ n - k ≤ g1 ∧ Aside (TS w (tab (rowsOf ((fs.take k).map pf))) k a1 m c1 wr))
  case atStart => exact ⟨0, 0, none, 0, rfl, rfl, Nat.zero_le _, Nat.le_refl _, S1⟩
  case round =>
    clear S1
    obtain ⟨k, m, a1, c1, rfl, rfl, hk, hg1, SK⟩ := hrel
    by_cases hlt : k < n
    · have hltz : (k : Int) < (n : Int) := by omega
      have hkl : k < fs.length := by rw [HH.out.2.1]; exact hlt
      obtain ⟨b, off, ha, hc⟩ := (HH.out.1.keep SK.out.bel).get hkl
      subst ha
      obtain ⟨r0, r1, K1⟩ := hc k hkl
      clear hc
      have hL : ∀ W, Below wr.heap.size wr W → Calls Tryd.prog 39 #[.slice a1 m c1, .agg #[.slice (ftn fs k).a (ftn fs k).k.length (ftn fs k).cap, .int .i64 1, .int .i64 (ftn fs k).v, .int .i64 (ftn fs k).v, .int .i64 (ftn fs k).v]] W fun e w' => ∃ a' n' cap', e = .returned (.slice a' n' cap') ∧ TS w (tab (rowsOf ((fs.take (k + 1)).map pf))) (k + 1) a' n' cap' w' ∧ Below W.heap.size W w' := fun W hW => by
        have := (SK.out.keep hW).lay_any (by omega) (factRow (ftn fs k)) (K1.keep hW) (HH.out.2.2 _ (ftn_mem hkl))
        rw [take_pf hkl, tab_snoc]
        exact this
      generalize (ftn fs k).k.length = t1 at r0 hL
      generalize (ftn fs k).a = t2 at r0 hL
      generalize (ftn fs k).cap = t3 at r0 hL
      generalize (ftn fs k).v = x at r1 hL
      clear K1 SK
      go_wp2_with fail
      go_region_held3 (fun w' => Below wr.heap.size wr w' ∧ wr.heap.size ≤ w'.heap.size ∧ w'.cell? ⟨b, off + k * 2, none⟩ = some (.slice t2 t1 t3) ∧ w'.cell? ⟨b, off + k * 2 + 1, none⟩ = some (.int .i64 x))
        (first | with_reducible assumption | (exact ⟨(Below.refl _ _).drew, Nat.le_refl _, r0, r1⟩) | (refine pairc_keep (W0 := wr) (B := wr.heap.size) (b := b) (p := off + k * 2) (x := .slice t2 t1 t3) (y := .int .i64 x) hb2 ?_; with_reducible assumption) | (refine pairc_keep (W0 := wr) (W := wr) (B := wr.heap.size) (b := b) (p := off + k * 2) (x := .slice t2 t1 t3) (y := .int .i64 x) (by (repeat (first | with_reducible exact Below.refl _ _ | (with_reducible refine Below.drew ?_) | (with_reducible refine Below.alloc ?_ (by first | omega | (simp; done) | (simp; omega)) _) | (with_reducible refine Below.setCell ?_ (by first | exact Nat.le_refl _ | omega | (simp; done) | (simp; omega)) _)))) ⟨Below.refl _ _, Nat.le_refl _, r0, r1⟩))
        (first | (go_at_call 40; refine (refOf_any _ _).mono ?_; rintro e w1 ⟨rfl, rfl⟩) | (go_at_call 39; refine (hL _ ?_).mono ?_; (focus ((repeat (first | with_reducible exact Below.refl _ _ | (with_reducible refine Below.drew ?_) | (with_reducible refine Below.alloc ?_ (by first | omega | (simp; done) | (simp; omega)) _) | (with_reducible refine Below.setCell ?_ (by first | exact Nat.le_refl _ | omega | (simp; done) | (simp; omega)) _))))); rintro e w2 ⟨a', n', cap', rfl, hT2, hb2⟩))
      have S2 : Aside (TS w (tab (rowsOf ((fs.take (k + 1)).map pf))) (k + 1) a' n' cap' w2) := hT2
      clear hT2 hb2 hL
      go_wp2
      go_roundg (n - (k + 1))
      case measure => omega
      case rel => exact ⟨k + 1, n', a', cap', rfl, by go_num, by omega, by omega, S2⟩
    · have hltz : ¬ (k : Int) < (n : Int) := by omega
      have S3 := SK.out
      rw [List.take_of_length_le (by rw [HH.out.2.1]; omega)] at S3
      have S4 : Aside _ := S3
      clear S3 SK
      go_wp2
      go_ret
      exact ⟨_, rfl, S4.out.out, S4.out.bel⟩
end Go.Proofs.YtgimknplckkiaaaDoor.table
