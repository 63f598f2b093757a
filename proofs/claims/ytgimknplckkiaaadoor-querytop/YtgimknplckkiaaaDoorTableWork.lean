/-
  What the statements' walks carry: dimensions and facts that choices make, tables of them, made, merged, rolled and asked.
-/
import Derived.Test.YtgimknplckkiaaaDoorTableRefRoll
import Derived.Test.YtgimknplckkiaaaDoorTableCK
import Derived.Test.YtgimknplckkiaaaDoorTableConcat
namespace Go.Proofs.YtgimknplckkiaaaDoor.table
open Go.ChangeShapes Go.WideShapes Go.ChangeAt Go.RowKit Go.Deep
open Go.Proofs.YtgimknplckkiaaaDoor.dims
open Go.Proofs.YtgimknplckkiaaaDoor.dice (Kr kn)
open Go.Proofs.YtgimknplckkiaaaDoor.cell (C4 mrg all one zero In64)
set_option linter.unusedVariables false
set_option maxRecDepth 100000

/-- dimensions that may be -/
structure Dims (ds : List Dm) (n : Nat) : Prop where
  len : ds.length = n
  siz : ∀ i, i < n → 1 ≤ (dn ds i).sz ∧ (dn ds i).sz ≤ 10000
  snd : sndL ds = true
  one : 1 ≤ n
  few : n ≤ 4
def OfOut (w : World) (v : Value) (W : World) : Prop := ∃ ds g n cap, v = .slice (some ⟨g, 0, none⟩) n cap ∧ DimsIn W (some ⟨g, 0, none⟩) ds ∧ Dims ds n ∧ Below w.heap.size w W
theorem of_made (a : Option Addr) (n cap : Nat) (cs : List Dm) (w : World) (hI : Pairs .u16 .u8 w a cs) (hn : cs.length = n) (hm : n ≤ 9223372036854775807) :
    Calls Tryd.prog 18 #[.slice a n cap] w fun e w' => ∃ v, e = .returned v ∧ OfOut w v w' := by
  refine (of_any a n cap cs w hI hn hm).mono ?_
  rintro e w1 ⟨v, rfl, h⟩
  obtain ⟨ds, g, cap, hv, hd, -, hs, h1, h4, hb⟩ := h.out
  exact ⟨v, rfl, ds, g, _, cap, hv, hd, ⟨rfl, fun i hi => let h := sndL_all hs i hi; ⟨h.1, h.2.1⟩, hs, h1, h4⟩, hb⟩

/-- facts at an address, which are these -/
def FactL (W : World) (p : Option Addr) (m : Nat) (F : List PFact) : Prop := ∃ fs : List Ft, FactsIn W p fs ∧ fs.map pf = F ∧ fs.length = m
theorem FactL.keep {W W1 : World} {p : Option Addr} {m : Nat} {F : List PFact} (h : FactL W p m F) (hb : Below W.heap.size W W1) : FactL W1 p m F := by
  obtain ⟨fs, h1, h2, h3⟩ := h
  exact ⟨fs, h1.keep hb, h2, h3⟩
def FactsOut (w : World) (m : Nat) (F : List PFact) (v : Value) (W : World) : Prop := (∃ p q, v = .slice p m q ∧ FactL W p m F ∧ m ≤ q) ∧ Below w.heap.size w W
theorem facts_made (a ak av : Option Addr) (n cap nk ck nv cv : Nat) (ds : List Dm) (ks : List Kr) (vs : List Int) (w : World) (hI : DimsIn w a ds) (hd : Dims ds n) (hK : dice.KeysIn .u16 w ak ks) (hk : ks.length = nk) (hk2 : nk ≤ 200) (hV : Nums .i64 w av nv cv vs) :
    Calls Tryd.prog 20 #[.slice a n cap, .slice ak nk ck, .slice av nv cv] w fun e w' => ∃ v, e = .returned v ∧ FactsOut w nk (factL ds ks vs nk) v w' := by
  refine (facts_any a ak av n cap nk ck nv cv ds ks vs w hI hd.len hd.few hd.siz hK hk hV).mono ?_
  rintro e w1 ⟨v, rfl, os, ho, hF⟩
  rw [show min nk 200 = nk by omega] at ho
  obtain ⟨p, q, hv, hf, hq⟩ := hF.out
  have hl : os.length = nk := by have := congrArg List.length ho; simpa [factL_len] using this
  rw [hl] at hv hq
  exact ⟨v, rfl, ⟨p, q, hv, ⟨os, hf, ho, hl⟩, hq⟩, hF.bel⟩

/-- a table at an address -/
def TabL (W : World) (p : Option Addr) (m q : Nat) (t : List PRow) : Prop := ∃ rs : List Rw, RowsIn W p rs ∧ rs.map plain = t ∧ rs.length = m ∧ m ≤ q ∧ q ≤ 9223372036854775807
theorem TabL.keep {W W1 : World} {p : Option Addr} {m q : Nat} {t : List PRow} (h : TabL W p m q t) (hb : Below W.heap.size W W1) : TabL W1 p m q t := by
  obtain ⟨rs, h1, h2⟩ := h
  exact ⟨rs, h1.keep hb, h2⟩
theorem TabL.out {W : World} {p : Option Addr} {m q : Nat} {t : List PRow} (h : TabL W p m q t) : TabOut W (.slice p m q) t := by
  obtain ⟨rs, h1, h2, h3, h4, h5⟩ := h
  exact ⟨p, q, rs, by rw [h3], h1, h2, by omega, h5⟩
theorem TabOut.tabL {W : World} {v : Value} {t : List PRow} (h : TabOut W v t) : ∃ p m q, v = .slice p m q ∧ TabL W p m q t ∧ m = t.length := by
  obtain ⟨a, cap, rs, hv, h1, h2, h3, h4⟩ := h
  exact ⟨a, rs.length, cap, hv, ⟨rs, h1, h2, rfl, h3, h4⟩, by rw [← h2]; simp⟩
theorem tab_le (rows : List PRow) : (tab rows).length ≤ rows.length := by
  have : ∀ (rows t : List PRow), (rows.foldl lay t).length ≤ t.length + rows.length := by
    intro rows
    induction rows with
    | nil => intro t; simp
    | cons r rows ih =>
      intro t
      have := ih (lay t r)
      have := lay_len t r
      simp only [List.foldl_cons, List.length_cons]
      omega
  simpa [tab] using this rows []
def TOut (w : World) (B : Nat) (t : List PRow) (v : Value) (W : World) : Prop := (∃ p m q, v = .slice p m q ∧ TabL W p m q t ∧ m ≤ B) ∧ Below w.heap.size w W

theorem refMake_made (p : Option Addr) (m q n : Nat) (F : List PFact) (w : World) (hF : FactL w p m F) (hm : m ≤ 1000) (hn : n ≤ 4) (hk : ∀ f ∈ F, Mem n f.1) :
    Calls Tryd.prog 19 #[.slice p m q] w fun e w' => ∃ v, e = .returned v ∧ TOut w m (tab (rowsOf F)) v w' := by
  obtain ⟨fs, h1, h2, h3⟩ := hF
  refine (refMake_any p m q fs w h1 h3 (by omega) (fun f hf => ?_)).mono ?_
  · have := (hk (pf f) (by rw [← h2]; exact List.mem_map.2 ⟨f, hf, rfl⟩)).1
    show f.k.length ≤ 1000000
    have e : (pf f).1 = f.k := rfl
    rw [e] at this
    omega
  rintro e w1 ⟨v, rfl, hT, hb⟩
  rw [h2] at hT
  obtain ⟨p', m', q', hv, hL, hl⟩ := hT.tabL
  refine ⟨v, rfl, ⟨p', m', q', hv, hL, ?_⟩, hb⟩
  have := tab_le (rowsOf F)
  have e : (rowsOf F).length = m := by unfold rowsOf; rw [List.length_map, ← h2, List.length_map, h3]
  omega

theorem MT.keys {n : Nat} {rs : List Rw} {t : List PRow} {F : List PFact} (h : MT n t F) (e : rs.map plain = t) (hn : n ≤ 4) : ∀ r ∈ rs, r.k.length ≤ 1000000 := fun r hr => by
  have := (h.m.okP h.f (fun f hf => (h.k f hf).pos) (plain r) (by rw [← e]; exact List.mem_map.2 ⟨r, hr, rfl⟩)).1
  have e2 : (plain r).1 = r.k := rfl
  rw [e2] at this
  omega

theorem merge_made (p1 p2 : Option Addr) (m1 q1 m2 q2 n : Nat) (t1 t2 : List PRow) (F1 F2 : List PFact) (w : World) (hp : Pow w) (h1 : TabL w p1 m1 q1 t1) (h2 : TabL w p2 m2 q2 t2) (k1 : MT n t1 F1) (k2 : MT n t2 F2) (hm1 : m1 ≤ 1000) (hm2 : m2 ≤ 1000) (hn : n ≤ 4) :
    Calls Tryd.prog 38 #[.slice p1 m1 q1, .slice p2 m2 q2] w fun e w' => ∃ v, e = .returned v ∧ TOut w (m1 + m2) (tab (t1 ++ t2)) v w' := by
  obtain ⟨rs, a1, a2, a3, a4, a5⟩ := h1
  obtain ⟨qs, b1, b2, b3, b4, b5⟩ := h2
  refine (merge_any p1 p2 m1 m2 q1 q2 rs qs w hp a1 a3 (by omega) b1 b3 (by omega) (k1.keys a2 hn) (k2.keys b2 hn)).mono ?_
  rintro e w1 ⟨v, rfl, hT, hb⟩
  rw [a2, b2] at hT
  obtain ⟨p', m', q', hv, hL, hl⟩ := hT.tabL
  refine ⟨v, rfl, ⟨p', m', q', hv, hL, ?_⟩, hb⟩
  have := tab_le (t1 ++ t2)
  have e1 : t1.length = m1 := by rw [← a2, List.length_map, a3]
  have e2 : t2.length = m2 := by rw [← b2, List.length_map, b3]
  rw [List.length_append] at this
  omega

def ROut (w : World) (k : IntKind) (B : Nat) (t : List PRow) (x : Value) (W : World) : Prop := (∃ p m q, x = .tuple #[.slice p m q, .int k 0] ∧ TabL W p m q t ∧ m ≤ B) ∧ Below w.heap.size w W
theorem roll_made (a p a1 a2 : Option Addr) (n cap m q c1 c2 : Nat) (ds : List Dm) (t : List PRow) (F : List PFact) (f u : List Int) (w : World) (hp : Pow w) (hI : DimsIn w a ds) (hd : Dims ds n) (hT : TabL w p m q t) (hM : MT n t F) (hm : m ≤ 1000) (h1 : Ints w a1 f) (h2 : Ints w a2 u) (hl : Lev ds n f u) :
    Calls Tryd.prog 26 #[.slice a n cap, .slice p m q, .slice a1 n c1, .slice a2 n c2] w fun e w' => ∃ x, e = .returned x ∧ ROut w .u16 m (tab (remap (atL ds f u) t)) x w' := by
  obtain ⟨rs, b1, b2, b3, b4, b5⟩ := hT
  have hn4 := hd.few
  refine (roll_any a p a1 a2 n m n n cap q c1 c2 ds rs f u w hp hI hd.len (by omega) b1 b3 (by omega) h1 hl.lf h2 hl.lt).mono ?_
  rintro e w1 ⟨v, rfl, hT, hb⟩
  obtain ⟨e0, t', e1, e2, -⟩ := hM.rolled b2 hl hd.len hd.snd
  rw [e1, e2] at hT
  obtain ⟨p', m', q', hv, hL, hml⟩ := hT.tabL
  refine ⟨_, rfl, ⟨p', m', q', by rw [e0, hv], hL, ?_⟩, hb⟩
  have := tab_le (remap (atL ds f u) t)
  have e3 : (remap (atL ds f u) t).length = m := by unfold remap; rw [List.length_map, ← b2, List.length_map, b3]
  omega
theorem refRoll_made (a p a1 a2 : Option Addr) (n cap m q c1 c2 : Nat) (ds : List Dm) (t : List PRow) (F : List PFact) (f u : List Int) (w : World) (hI : DimsIn w a ds) (hd : Dims ds n) (hT : TabL w p m q t) (hM : MT n t F) (hm : m ≤ 1000) (h1 : Ints w a1 f) (h2 : Ints w a2 u) (hl : Lev ds n f u) :
    Calls Tryd.prog 29 #[.slice a n cap, .slice p m q, .slice a1 n c1, .slice a2 n c2] w fun e w' => ∃ x, e = .returned x ∧ ROut w .i64 m (tab (remap (atL ds f u) t)) x w' := by
  obtain ⟨rs, b1, b2, b3, b4, b5⟩ := hT
  have hn4 := hd.few
  refine (refRoll_any a p a1 a2 n m n n cap q c1 c2 ds rs f u w hI hd.len (by omega) b1 b3 (by omega) h1 hl.lf h2 hl.lt).mono ?_
  rintro e w1 ⟨v, rfl, hT, hb⟩
  obtain ⟨e0, t', e1, e2, -⟩ := hM.rolled b2 hl hd.len hd.snd
  rw [e1, e2] at hT
  obtain ⟨p', m', q', hv, hL, hml⟩ := hT.tabL
  refine ⟨_, rfl, ⟨p', m', q', by rw [e0, hv], hL, ?_⟩, hb⟩
  have := tab_le (remap (atL ds f u) t)
  have e3 : (remap (atL ds f u) t).length = m := by unfold remap; rw [List.length_map, ← b2, List.length_map, b3]
  omega

theorem sound_made (p : Option Addr) (m q n : Nat) (t : List PRow) (F : List PFact) (w : World) (hT : TabL w p m q t) (hM : MT n t F) :
    Calls Tryd.prog 24 #[.slice p m q, .int .i64 n] w fun e w' => e = .returned (.bool true) ∧ Below w.heap.size w w' := by
  obtain ⟨rs, b1, b2, b3, b4, b5⟩ := hT
  have := soundT_any p m q rs n w b1 b3 (by omega)
  rw [hM.snd b2] at this
  exact this
theorem refSound_made (p : Option Addr) (m q n : Nat) (t : List PRow) (F : List PFact) (w : World) (hT : TabL w p m q t) (hM : MT n t F) :
    Calls Tryd.prog 28 #[.slice p m q, .int .i64 n] w fun e w' => e = .returned (.bool true) ∧ Below w.heap.size w w' := by
  obtain ⟨rs, b1, b2, b3, b4, b5⟩ := hT
  have := refSoundT_any p m q rs n w b1 b3 (by omega)
  rw [hM.snd b2] at this
  exact this
theorem same_made (p1 p2 : Option Addr) (m1 q1 m2 q2 : Nat) (t1 t2 : List PRow) (w : World) (h1 : TabL w p1 m1 q1 t1) (h2 : TabL w p2 m2 q2 t2) (e : t1 = t2) :
    Calls Tryd.prog 13 #[.slice p1 m1 q1, .slice p2 m2 q2] w fun e w' => e = .returned (.bool true) ∧ Below w.heap.size w w' := by
  subst e
  exact same_tabs h1.out h2.out

/-- levels that choices make -/
def LevOut (w : World) (n : Nat) (L : List Int) (v : Value) (W : World) : Prop := (∃ p q, v = .slice p n q ∧ Ints W p L) ∧ Below w.heap.size w W
theorem lev0_made (a ac : Option Addr) (n cap nc cc : Nat) (ds : List Dm) (ch : List Int) (w : World) (hI : DimsIn w a ds) (hd : Dims ds n) (hC : Nums .u8 w ac nc cc ch) :
    Calls Tryd.prog 43 #[.slice a n cap, .slice ac nc cc, .slice none 0 0] w fun e w' => ∃ v, e = .returned v ∧ LevOut w n (levL ds ch []) v w' := by
  refine (lev_any a ac none n cap nc cc 0 0 ds ch [] w hI hd.len hd.few hC (.inl rfl) rfl ?_).mono ?_
  · intro i hi
    have e : nth [] i = 0 := nth_out (by simp)
    have := (sndL_all hd.snd i (by rw [hd.len]; exact hi)).2.2.1
    omega
  rintro e w1 ⟨v, rfl, h⟩
  obtain ⟨p, q, e1, hI1, -⟩ := h.out
  rw [levL_len, hd.len] at e1
  exact ⟨v, rfl, ⟨p, q, e1, hI1⟩, h.2⟩
theorem lev_made (a ac al : Option Addr) (n cap nc cc cl : Nat) (ds : List Dm) (ch f lo : List Int) (w : World) (hI : DimsIn w a ds) (hd : Dims ds n) (hC : Nums .u8 w ac nc cc ch) (hL : Ints w al lo) (hl : Lev ds n f lo) :
    Calls Tryd.prog 43 #[.slice a n cap, .slice ac nc cc, .slice al n cl] w fun e w' => ∃ v, e = .returned v ∧ LevOut w n (levL ds ch lo) v w' := by
  refine (lev_any a ac al n cap nc cc n cl ds ch lo w hI hd.len hd.few hC hL hl.lt ?_).mono ?_
  · intro i hi
    have := hl.at_ i hi
    have := (sndL_all hd.snd i (by rw [hd.len]; exact hi)).2.2.1
    omega
  rintro e w1 ⟨v, rfl, h⟩
  obtain ⟨p, q, e1, hI1, -⟩ := h.out
  rw [levL_len, hd.len] at e1
  exact ⟨v, rfl, ⟨p, q, e1, hI1⟩, h.2⟩
end Go.Proofs.YtgimknplckkiaaaDoor.table
