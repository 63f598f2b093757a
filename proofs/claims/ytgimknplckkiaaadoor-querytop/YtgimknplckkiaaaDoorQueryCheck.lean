/-
  The contracts of query.leveled, query.told and query.Check: whether a query may be asked.
-/
import Derived.Test.YtgimknplckkiaaaDoorQueryMath
import Derived.Test.YtgimknplckkiaaaDoorTableLeveled
namespace Go.Proofs.YtgimknplckkiaaaDoor.query
open Go.ChangeShapes Go.WideShapes Go.ChangeAt Go.RowKit Go.Deep
open Go.Proofs.YtgimknplckkiaaaDoor.dims
open Go.Proofs.YtgimknplckkiaaaDoor.table
open Go.Proofs.YtgimknplckkiaaaDoor.dice (wtn bx cutR box_any)
open Go.Proofs.YtgimknplckkiaaaDoor.cell (C4 In64)
set_option linter.unusedVariables false
set_option maxRecDepth 100000

set_option maxHeartbeats 2000000 in
theorem closure_lev (sz : Int) (a : Option Addr) (n cap : Nat) (x : Int) (z : Bool) (w : World) (hn : n ≤ 4) (hz : (decide (0 ≤ x) && decide (x < (n : Int) + 2)) = z) :
    Calls Tryd.prog 61 #[.agg #[.int .i64 sz, .slice a n cap], .int .i64 x] w fun e w' => e = .returned (.bool z) ∧ Below w.heap.size w w' := by
  have hB : ∀ o, Below w.heap.size w (w.alloc o) := fun o => (Below.refl _ _).alloc (Nat.le_refl _) _
  have hC := fun W => levels_any sz a n cap W (by omega)
  by_cases h0 : 0 ≤ x
  · have HZ : Hid (decide (x < (n : Int) + 2) = z) := by show _ = _; rw [← hz, decide_eq_true h0, Bool.true_and]
    clear hz
    go_enter Tryd.func61, Tryd.ntmps61
    go_wp2_with (go_at_call 62; refine (hC _).mono ?_; rintro e w' ⟨rfl, rfl⟩)
    go_ret
    refine ⟨ret_bool HZ.out, ?_⟩
    exact ((Below.refl _ _).alloc (Nat.le_refl _) _).alloc (by simp) _
  · have HZ : Hid (z = false) := by show _ = _; rw [← hz, decide_eq_false h0]; rfl
    clear hz
    go_enter Tryd.func61, Tryd.ntmps61
    go_wp2
    go_ret
    exact ⟨ret_bool HZ.out.symm, hB _⟩

set_option maxHeartbeats 4000000 in
theorem equal_any (a al : Option Addr) (n cap nl cl : Nat) (ds : List Dm) (L : List Int) (w : World) (hI : DimsIn w a ds) (hn : ds.length = n) (hL : Ints w al L) (hl : L.length = nl) (hn4 : n ≤ 4) (h4 : ∀ i, i < n → (dn ds i).l.length ≤ 4) :
    Calls Tryd.prog 60 #[.slice a n cap, .slice al nl cl, .func (.func 61) #[] #[]] w fun e w' => e = .returned (.bool (lvq ds L)) ∧ Below w.heap.size w w' := by
  by_cases hf : nl = n
  case neg =>
    have E : Hid (lvq ds L = false) := lvq_len (by rw [hl, hn]; exact hf)
    have hx : ((n : Int) != (nl : Int)) = true := by rw [bne_iff_ne]; omega
    clear hI hn hL hl h4 hf
    go_enter Tryd.func60, Tryd.ntmps60
    go_wp2
    go_ret
    exact ⟨ret_bool E.out.symm, Below.refl _ _⟩
  subst hf
  have HH : Aside (DimsIn w a ds ∧ ds.length = nl ∧ Ints w al L ∧ L.length = nl ∧ ∀ i, i < nl → (dn ds i).l.length ≤ 4) := ⟨hI, hn, hL, hl, h4⟩
  clear hI hn hL hl h4
  go_enter Tryd.func60, Tryd.ntmps60
  go_wp2_with fail
  go_loopg [7, 8, 9, 17] nl (fun g1 x7 x8 x9 vi wr => ∃ (k : Nat), vi = .int .i64 k ∧ k ≤ nl ∧ nl - k ≤ g1 ∧ Aside (Below w.heap.size w wr ∧ ∀ i, i < k → lqAt ds L i = true))
  case atStart => exact ⟨0, rfl, Nat.zero_le _, Nat.le_refl _, Below.refl _ _, fun i hi => by omega⟩
  case round =>
    obtain ⟨k, rfl, hk, hg1, SK⟩ := hrel
    by_cases hlt : k < nl
    · have hltz : (k : Int) < (nl : Int) := by omega
      have hkl : k < ds.length := by rw [HH.out.2.1]; exact hlt
      obtain ⟨b, off, ha, hc⟩ := (HH.out.1.keep SK.out.1).get hkl
      obtain ⟨b1, o1, ha1, hc1⟩ := (HH.out.2.2.1.keep SK.out.1).get (k := k) (by rw [HH.out.2.2.2.1]; exact hlt)
      subst ha
      subst ha1
      obtain ⟨r0, r1, -, -⟩ := hc k hkl
      have p1 := hc1 k (by rw [HH.out.2.2.2.1]; exact hlt)
      clear hc hc1
      have l1 := cell_lt p1
      obtain ⟨s, hs⟩ : ∃ s, lqAt ds L k = s := ⟨_, rfl⟩
      have hC := fun W => closure_lev (dn ds k).sz (dn ds k).a (dn ds k).l.length (dn ds k).cap (nth L k) s W (HH.out.2.2.2.2 k hlt) hs
      have HOK : Aside (s = true → ∀ i, i < k + 1 → lqAt ds L i = true) := fun h i hi => by
        by_cases e : i = k
        · subst e; rw [hs]; exact h
        · exact SK.out.2 i (by omega)
      have HNO : Aside (s = false → lvq ds L = false) := fun h => lvq_not hkl (by rw [hs]; exact h)
      have SB : Aside (Below w.heap.size w wr) := SK.out.1
      have hB : ∀ o, Below wr.heap.size wr (wr.alloc o) := fun o => (Below.refl _ _).alloc (Nat.le_refl _) _
      clear hs SK
      generalize nth L k = x at p1 hC
      generalize (dn ds k).sz = t1 at r0 hC
      generalize (dn ds k).a = t2 at r1 hC
      generalize (dn ds k).l.length = t3 at r1 hC
      generalize (dn ds k).cap = t4 at r1 hC
      go_wp2_with fail
      refine (hC _).mono ?_
      rintro e w1 ⟨rfl, hb1⟩
      have B1 : Aside (Below w.heap.size w w1) := by
        have hsz := SB.out.size
        refine (SB.out.trans (Below.trans (?_ : Below wr.heap.size wr _) (hb1.mono (by simp)) |>.mono hsz))
        (repeat (first | with_reducible exact Below.refl _ _ | (with_reducible refine Below.drew ?_) | (with_reducible refine Below.alloc ?_ (by first | omega | (simp; done) | (simp; omega)) _) | (with_reducible refine Below.setCell ?_ (by first | exact Nat.le_refl _ | omega | (simp; done) | (simp; omega)) _)))
      clear hb1 hC hB SB
      cases s with
      | true =>
        have S2 : Aside (∀ i, i < k + 1 → lqAt ds L i = true) := HOK.out rfl
        clear HOK HNO
        go_wp2
        go_roundg (nl - (k + 1))
        case measure => omega
        case rel => exact ⟨k + 1, by go_num, by omega, by omega, B1.out, S2.out⟩
      | false =>
        have E : Hid (lvq ds L = false) := HNO.out rfl
        clear HOK HNO
        go_wp2
        go_ret
        exact ⟨ret_bool E.out.symm, B1.out⟩
    · have hltz : ¬ (k : Int) < (nl : Int) := by omega
      have E : Hid (lvq ds L = true) := lvq_of (by rw [HH.out.2.2.2.1, HH.out.2.1]) fun i hi => SK.out.2 i (by have := HH.out.2.1; omega)
      go_wp2
      go_ret
      exact ⟨ret_bool E.out.symm, SK.out.1⟩

theorem leveled_q (a al : Option Addr) (n cap nl cl : Nat) (ds : List Dm) (L : List Int) (w : World) (hI : DimsIn w a ds) (hn : ds.length = n) (hL : Ints w al L) (hl : L.length = nl) (hn4 : n ≤ 4) (h4 : ∀ i, i < n → (dn ds i).l.length ≤ 4) :
    Calls Tryd.prog 33 #[.slice a n cap, .slice al nl cl] w fun e w' => e = .returned (.bool (lvq ds L)) ∧ Below w.heap.size w w' := by
  have hC := equal_any a al n cap nl cl ds L w hI hn hL hl hn4 h4
  clear hI hn hL hl h4
  go_enter Tryd.func33, Tryd.ntmps33
  go_wp2_with fail
  refine hC.mono ?_
  rintro e w1 ⟨rfl, hb1⟩
  have B1 : Aside _ := hb1
  clear hb1 hC
  go_wp2
  go_ret
  exact ⟨rfl, B1.out⟩

/-- the box of a query -/
structure QB (w : World) (B : Nat) (x1 x2 x3 : Value) (W : World) : Prop where
  bel : Below w.heap.size w W
  c1 : W.cell? ⟨B, 0, none⟩ = some x1
  c2 : W.cell? ⟨B, 1, none⟩ = some x2
  c3 : W.cell? ⟨B, 2, none⟩ = some x3
theorem QB.keep {w W W1 : World} {B : Nat} {x1 x2 x3 : Value} (h : QB w B x1 x2 x3 W) (hb : Below W.heap.size W W1) : QB w B x1 x2 x3 W1 := by
  have k : ∀ {c o : Nat} {v : Value}, W.cell? ⟨c, o, none⟩ = some v → W1.cell? ⟨c, o, none⟩ = some v := fun {c o v} hv => (hb.cell (p := ⟨c, o, none⟩) (cell_lt hv)).trans hv
  exact ⟨h.bel.trans (hb.mono h.bel.size), k h.c1, k h.c2, k h.c3⟩
theorem QB.start (w : World) (x1 x2 x3 : Value) (t : TypeId) : QB w w.heap.size x1 x2 x3 (w.alloc (.cells #[x1, x2, x3] t)) := by
  refine ⟨(Below.refl _ _).alloc (Nat.le_refl _) _, ?_, ?_, ?_⟩
  · simp [go_sem]
  · simp [go_sem]
  · simp [go_sem]

set_option maxHeartbeats 8000000 in
theorem check_any (a aL a1 a2 : Option Addr) (n cap nL cL n1 c1 n2 c2 : Nat) (ds : List Dm) (L lo hi : List Int) (w : World) (hI : DimsIn w a ds) (hn : ds.length = n) (hm : n ≤ 9223372036854775807) (hL : Ints w aL L) (eL : L.length = nL) (h1 : Ints w a1 lo) (e1 : lo.length = n1) (h2 : Ints w a2 hi) (e2 : hi.length = n2) :
    Calls Tryd.prog 14 #[.slice a n cap, .agg #[.slice aL nL cL, .slice a1 n1 c1, .slice a2 n2 c2]] w fun e w' => e = .returned (.int .u16 (checkE ds L lo hi)) ∧ Below w.heap.size w w' := by
  have HH : Aside (DimsIn w a ds ∧ ds.length = n ∧ (Ints w aL L ∧ L.length = nL) ∧ (Ints w a1 lo ∧ lo.length = n1) ∧ Ints w a2 hi ∧ hi.length = n2) := ⟨hI, hn, ⟨hL, eL⟩, ⟨h1, e1⟩, h2, e2⟩
  have R1 : Aside (QB w w.heap.size (.slice aL nL cL) (.slice a1 n1 c1) (.slice a2 n2 c2) (w.alloc (.cells #[.slice aL nL cL, .slice a1 n1 c1, .slice a2 n2 c2] 26))) := QB.start w _ _ _ _
  clear hI hn hL eL h1 e1 h2 e2
  go_enter Tryd.func14, Tryd.ntmps14
  go_wp2_with fail
  generalize (w.alloc (.cells #[.slice aL nL cL, .slice a1 n1 c1, .slice a2 n2 c2] 26)) = w1 at R1 ⊢
  obtain ⟨s, hs⟩ : ∃ s, sndL ds = s := ⟨_, rfl⟩
  have C1 := soundL_any a n cap ds w1 (HH.out.1.keep R1.out.bel) HH.out.2.1 hm
  rw [hs] at C1
  refine C1.mono ?_
  rintro e w2 ⟨rfl, hb2⟩
  have R2 : Aside _ := R1.out.keep hb2
  clear C1 hb2 R1
  cases s with
  | false =>
    have E : Hid (checkE ds L lo hi = 30) := check_30 hs
    clear hs
    go_wp2
    go_ret
    exact ⟨by rw [E.out]; rfl, R2.out.bel⟩
  | true =>
    have HS : Hid (sndL ds = true) := hs
    clear hs
    have hn4 : n ≤ 4 := by have := HS.out; unfold sndL at this; rw [HH.out.2.1] at this; simp at this; omega
    obtain ⟨s, hs⟩ : ∃ s, lvq ds L = s := ⟨_, rfl⟩
    have C1 := leveled_q a aL n cap nL cL ds L w2 (HH.out.1.keep R2.out.bel) HH.out.2.1 (HH.out.2.2.1.1.keep R2.out.bel) HH.out.2.2.1.2 hn4 (fun i hi => (sndL_all HS.out i (by rw [HH.out.2.1]; exact hi)).2.2.1)
    rw [hs] at C1
    have q1 := R2.out.c1
    go_wp2_with fail
    refine C1.mono ?_
    rintro e w3 ⟨rfl, hb3⟩
    have R3 : Aside _ := R2.out.keep hb3
    clear C1 hb3 R2 q1
    cases s with
    | false =>
      have E : Hid (checkE ds L lo hi = 40) := check_40 HS.out hs
      clear hs
      go_wp2
      go_ret
      exact ⟨by rw [E.out]; rfl, R3.out.bel⟩
    | true =>
      have HL : Hid (lvq ds L = true) := hs
      clear hs
      obtain ⟨s, hs⟩ : ∃ s, bx ds lo hi = s := ⟨_, rfl⟩
      have C1 := box_any a a1 a2 n cap n1 n2 c1 c2 ds lo hi w3 (HH.out.1.keep R3.out.bel) HH.out.2.1 (HH.out.2.2.2.1.1.keep R3.out.bel) HH.out.2.2.2.1.2 (HH.out.2.2.2.2.1.keep R3.out.bel) HH.out.2.2.2.2.2 hm
      rw [hs] at C1
      have q1 := R3.out.c2
      have q2 := R3.out.c3
      go_wp2_with fail
      refine C1.mono ?_
      rintro e w4 ⟨rfl, hb4⟩
      have B4 : Aside (Below w.heap.size w w4) := (R3.out.keep hb4).bel
      clear C1 hb4 R3 q1 q2
      cases s with
      | false =>
        have E : Hid (checkE ds L lo hi = 60) := check_60 HS.out HL.out hs
        clear hs
        go_wp2
        go_ret
        exact ⟨by rw [E.out]; rfl, B4.out⟩
      | true =>
        have E : Hid (checkE ds L lo hi = 0) := check_0 HS.out HL.out hs
        clear hs
        go_wp2
        go_ret
        exact ⟨by rw [E.out]; rfl, B4.out⟩

/-- a table that is told, unless it has too many rows -/
theorem told_any (v : Value) (t : List PRow) (E : Int) (w : World) (hT : TabOut w v t) :
    Calls Tryd.prog 25 #[v, .int .u16 E] w fun e w' => ∃ v', e = .returned (.tuple #[v', .int .u16 (toldE t E)]) ∧ TabOut w' v' (toldT t) ∧ Below w.heap.size w w' := by
  obtain ⟨a, cap, rs, rfl, hR, he, hc, hm⟩ := hT
  have HT : Aside (TabOut w (.slice a rs.length cap) t) := ⟨a, cap, rs, rfl, hR, he, hc, hm⟩
  have hl : t.length = rs.length := by rw [← he]; simp
  clear hR he hc hm
  by_cases h5 : rs.length ≤ 500
  · have E2 : Hid (toldE t E = E ∧ toldT t = t) := told_few (by omega) E
    have h5z : ¬ (500 : Int) < (rs.length : Int) := by omega
    clear hl
    generalize rs.length = m at HT h5z ⊢
    go_enter Tryd.func25, Tryd.ntmps25
    go_wp2
    go_ret2
    exact ⟨_, by rw [E2.out.1]; rfl, by rw [E2.out.2]; exact HT.out, Below.refl _ _⟩
  · have E2 : Hid (toldE t E = 61 ∧ toldT t = []) := told_many (by omega) E
    have h5z : (500 : Int) < (rs.length : Int) := by omega
    clear hl
    generalize rs.length = m at HT h5z ⊢
    go_enter Tryd.func25, Tryd.ntmps25
    go_wp2
    go_ret2
    exact ⟨_, by rw [E2.out.1]; rfl, by rw [E2.out.2]; exact TabOut.nil _, Below.refl _ _⟩
end Go.Proofs.YtgimknplckkiaaaDoor.query
