/-
  The contract of the statements' own 'Of': sound dimensions, as choices say.
-/
import Derived.Test.YthbjfbkjbggkbaaDimsOpen
import Derived.Test.YthbjfbkjbggkbaaDimsRows
namespace Go.Proofs.Ythbjfbkjbggkbaa.dims
open Go.ChangeShapes Go.WideShapes Go.ChangeAt Go.RowKit Go.Deep
set_option linter.unusedVariables false
set_option maxRecDepth 100000

/-- divisors, as factors say -/
def divs : Int → List Int → List Int
  | _, [] => []
  | p, v :: l => (p * (2 + v % 4)) :: divs (p * (2 + v % 4)) l

theorem divs_len : ∀ (l : List Int) (p : Int), (divs p l).length = l.length
  | [], _ => rfl
  | v :: l, p => by simp [divs, divs_len l]

theorem divs_nth : ∀ (l : List Int) (p : Int) (i : Nat), i < l.length → nth (divs p l) i = (match i with | 0 => p | j + 1 => nth (divs p l) j) * (2 + nth l i % 4)
  | [], _, i, h => by simp at h
  | v :: l, p, 0, _ => by simp [divs, nth]
  | v :: l, p, i + 1, h => by
    have ih := divs_nth l (p * (2 + v % 4)) i (by simpa using h)
    have e1 : nth (divs p (v :: l)) (i + 1) = nth (divs (p * (2 + v % 4)) l) i := by simp [divs, nth]
    have e2 : nth (v :: l) (i + 1) = nth l i := by simp [nth]
    rw [e1, e2, ih]
    cases i with
    | zero => simp [divs, nth]
    | succ j => simp [divs, nth]

theorem divs_step (l : List Int) (i : Nat) (h : i < l.length) : nth (divs 1 l) i = prev (divs 1 l) i * (2 + nth l i % 4) := by
  rw [divs_nth l 1 i h]
  cases i <;> rfl

def pow5 : Nat → Int
  | 0 => 1
  | i + 1 => pow5 i * 5

theorem divs_bound (l : List Int) : ∀ i, i ≤ l.length → 1 ≤ prev (divs 1 l) i ∧ prev (divs 1 l) i ≤ pow5 i
  | 0, _ => by simp [prev, pow5]
  | i + 1, h => by
    have ih := divs_bound l i (by omega)
    have e : prev (divs 1 l) (i + 1) = prev (divs 1 l) i * (2 + nth l i % 4) := divs_step l i (by omega)
    rw [e]
    generalize prev (divs 1 l) i = p at ih
    have hm : 0 ≤ nth l i % 4 ∧ nth l i % 4 < 4 := ⟨Int.emod_nonneg _ (by omega), Int.emod_lt_of_pos _ (by omega)⟩
    generalize nth l i % 4 = m at hm
    have e5 : pow5 (i + 1) = pow5 i * 5 := rfl
    rw [e5]
    have hq : p * (2 + m) ≤ p * 5 := Int.mul_le_mul_of_nonneg_left (by omega) (by omega)
    have hq2 : p * 1 ≤ p * (2 + m) := Int.mul_le_mul_of_nonneg_left (by omega) (by omega)
    omega

theorem divs_sound {l : List Int} (h4 : l.length ≤ 4) : ∀ i, i < (divs 1 l).length → StepOk (divs 1 l) i := by
  intro i hi
  rw [divs_len] at hi
  have hb := divs_bound l i (by omega)
  have e := divs_step l i hi
  have hb2 := divs_bound l (i + 1) (by omega)
  have e2 : prev (divs 1 l) (i + 1) = nth (divs 1 l) i := rfl
  rw [e2] at hb2
  have h5 : pow5 (i + 1) ≤ 625 := by
    have : i = 0 ∨ i = 1 ∨ i = 2 ∨ i = 3 := by omega
    rcases this with rfl | rfl | rfl | rfl <;> decide
  refine ⟨?_, by omega, ?_⟩
  · rw [e]
    generalize prev (divs 1 l) i = p at hb
    have hm : 0 ≤ nth l i % 4 := Int.emod_nonneg _ (by omega)
    have hq : p * 2 ≤ p * (2 + nth l i % 4) := Int.mul_le_mul_of_nonneg_left (by omega) (by omega)
    omega
  · rw [e, Int.mul_emod_right]

/-- the dimension of a choice -/
def ofC (c : Dm) : Int × List Int := (1 + c.sz % 200, divs 1 (c.l.take 4))
def ofL (cs : List Dm) : List (Int × List Int) := if cs.length = 0 then [(100, [10])] else (cs.take 4).map ofC
def pr (d : Dm) : Int × List Int := (d.sz, d.l)

theorem ofC_sound (c : Dm) : SoundD (ofC c).1 (ofC c).2 := by
  have hm : 0 ≤ c.sz % 200 ∧ c.sz % 200 < 200 := ⟨Int.emod_nonneg _ (by omega), Int.emod_lt_of_pos _ (by omega)⟩
  refine ⟨?_, ?_, ?_, ?_⟩
  · show 1 ≤ 1 + c.sz % 200; omega
  · show 1 + c.sz % 200 ≤ 10000; omega
  · show (divs 1 (c.l.take 4)).length ≤ 4
    rw [divs_len]; simp; omega
  · exact divs_sound (by simp; omega)

theorem ofL_sound (cs : List Dm) : ∀ p ∈ ofL cs, SoundD p.1 p.2 := by
  intro p hp
  unfold ofL at hp
  split at hp
  · simp only [List.mem_singleton] at hp
    subst hp
    exact (sndB_iff _ _).1 (by kernel_rfl)
  · obtain ⟨c, _, rfl⟩ := List.mem_map.1 hp
    exact ofC_sound c
theorem ofL_len (cs : List Dm) : 1 ≤ (ofL cs).length ∧ (ofL cs).length ≤ 4 := by
  unfold ofL
  split
  · simp
  · simp; omega

theorem of_sndL {ds cs : List Dm} (h : ds.map pr = ofL cs) : sndL ds = true := by
  have hl : ds.length = (ofL cs).length := by rw [← h]; simp
  have hb := ofL_len cs
  have ha : ds.all sndD = true := by
    rw [List.all_eq_true]
    intro d hd
    have : pr d ∈ ofL cs := by rw [← h]; exact List.mem_map_of_mem hd
    exact sndB_true (ofL_sound cs _ this)
  unfold sndL
  rw [ha]
  simp; omega

theorem Nums.keep {k : IntKind} {W W' : World} {a : Option Addr} {len cap : Nat} {l : List Int} (h : Nums k W a len cap l) (hb : Below W.heap.size W W') : Nums k W' a len cap l := ⟨h.mem.keep hb, h.eln, h.lec, h.max, h.wf⟩
theorem Pairs.keep {k1 k2 : IntKind} {w w1 : World} {a : Option Addr} {ds : List Dm} (h : Pairs k1 k2 w a ds) (hb : Below w.heap.size w w1) : Pairs k1 k2 w1 a ds := by
  rcases h with h | ⟨b, off, ha, hc⟩
  · exact .inl h
  · refine .inr ⟨b, off, ha, fun i hi => ?_⟩
    obtain ⟨h1, h2, h3, h4⟩ := hc i hi
    exact ⟨(hb.cell (p := ⟨b, off + i * 2, none⟩) (cell_lt h1)).trans h1, (hb.cell (p := ⟨b, off + i * 2 + 1, none⟩) (cell_lt h2)).trans h2, h3.keep hb, h4⟩
theorem Pairs.get {k1 k2 : IntKind} {w : World} {a : Option Addr} {ds : List Dm} (h : Pairs k1 k2 w a ds) {k : Nat} (hk : k < ds.length) : ∃ b off, a = some ⟨b, off, none⟩ ∧ ∀ i, i < ds.length → w.cell? ⟨b, off + i * 2, none⟩ = some (.int k1 (dn ds i).sz) ∧ w.cell? ⟨b, off + i * 2 + 1, none⟩ = some (.slice (dn ds i).a (dn ds i).l.length (dn ds i).cap) ∧ Nums k2 w (dn ds i).a (dn ds i).l.length (dn ds i).cap (dn ds i).l ∧ (Lit.int k1 (dn ds i).sz).wf = true := by
  rcases h with rfl | h
  · simp at hk
  · exact h

/-- dimensions, cell by cell -/
def dimCells (d : Dm) : List Value := [.int .i64 d.sz, .slice d.a d.l.length d.cap]
def flatD (ds : List Dm) : List Value := ds.flatMap dimCells
theorem flatD_len (ds : List Dm) : (flatD ds).length = ds.length * 2 := by
  induction ds with
  | nil => rfl
  | cons c l ih => unfold flatD at *; simp only [List.flatMap_cons, List.length_append, List.length_cons, ih]; simp [dimCells]; omega
theorem flatD_snoc (l : List Dm) (c : Dm) : flatD (l ++ [c]) = flatD l ++ dimCells c := by simp [flatD]
theorem flatD_get (ds : List Dm) : ∀ i j, i < ds.length → j < 2 → (flatD ds)[i * 2 + j]? = (dimCells (dn ds i))[j]? := by
  induction ds with
  | nil => intro i j h; simp at h
  | cons c l ih =>
    intro i j hi hj
    have e : flatD (c :: l) = dimCells c ++ flatD l := by simp [flatD]
    rw [e]
    cases i with
    | zero => rw [List.getElem?_append_left (by simp [dimCells]; omega)]; simp [dn]
    | succ k =>
      rw [List.getElem?_append_right (by simp [dimCells]; omega)]
      have e2 : (k + 1) * 2 + j - (dimCells c).length = k * 2 + j := by simp [dimCells]; omega
      rw [e2, ih k j (by simpa using hi) hj]
      simp [dn]

/-- the outer loop's world: these dimensions are made -/
structure OF (w : World) (ds : List Dm) (v : Value) (W : World) : Prop where
  own : W.ownsRow w.heap.size 29 2 v ds.length (flatD ds)
  div : ∀ i, i < ds.length → W.ownsRow w.heap.size 3 1 (.slice (dn ds i).a (dn ds i).l.length (dn ds i).cap) (dn ds i).l.length (vals (dn ds i).l)
  bel : Below w.heap.size w W

theorem OF.start (w : World) : OF w [] (.slice none 0 0) w := ⟨World.ownsRow_nil _ _ _ _, fun i hi => by simp at hi, Below.refl _ _⟩
theorem OF.keep {w W W' : World} {ds : List Dm} {v : Value} (h : OF w ds v W) (hb : Below W.heap.size W W') : OF w ds v W' := ⟨own_below h.own hb, fun i hi => own_below (h.div i hi) hb, h.bel.trans (hb.mono h.bel.size)⟩

theorem dn_snoc_lt {ds : List Dm} {d : Dm} {i : Nat} (h : i < ds.length) : dn (ds ++ [d]) i = dn ds i := by simp [dn, List.getElem?_append_left h]
theorem dn_snoc_eq {ds : List Dm} {d : Dm} : dn (ds ++ [d]) ds.length = d := by simp [dn]

/-- one more dimension, laid behind the others -/
theorem OF.push {w W W' : World} {ds : List Dm} {v v' : Value} {d : Dm} (h : OF w ds v W) (hd : W.ownsRow w.heap.size 3 1 (.slice d.a d.l.length d.cap) d.l.length (vals d.l))
    (ho : W'.ownsRow w.heap.size 29 2 v' (ds.length + 1) (flatD ds ++ dimCells d)) (hg : W.grownBy W' v.ownBlock) : OF w (ds ++ [d]) v' W' := by
  refine ⟨by rw [flatD_snoc]; simpa using ho, fun i hi => ?_, h.bel.grown hg h.bel.size fun q hq => (h.own.lt q hq).1⟩
  simp only [List.length_append, List.length_singleton] at hi
  by_cases e : i = ds.length
  · subst e
    rw [dn_snoc_eq]
    exact hd.kept hg (own_apart hd h.own (by decide))
  · rw [dn_snoc_lt (by omega)]
    exact (h.div i (by omega)).kept hg (own_apart (h.div i (by omega)) h.own (by decide))

theorem OF.out {w W : World} {ds : List Dm} {v : Value} (h : OF w ds v W) (h0 : 0 < ds.length) : ∃ g cap, v = .slice (some ⟨g, 0, none⟩) ds.length cap ∧ ds.length ≤ cap ∧ DimsIn W (some ⟨g, 0, none⟩) ds := by
  rcases h.own.2 with ⟨_, h1⟩ | ⟨g, cap, cur, hv, _, _, hc, _⟩
  · omega
  · refine ⟨g, cap, hv, hc, .inr ⟨g, 0, rfl, fun i hi => ?_⟩⟩
    have ho := h.own
    rw [hv] at ho
    have c0 := World.ownsRow.cellAt ho (i * 2) (by omega)
    have c1 := World.ownsRow.cellAt ho (i * 2 + 1) (by omega)
    rw [show i * 2 = i * 2 + 0 by omega, flatD_get ds i 0 hi (by omega)] at c0
    rw [flatD_get ds i 1 hi (by omega)] at c1
    have hdv := h.div i hi
    have hro := (own_out hdv).1
    obtain ⟨a2, cap2, e2, hI2, _⟩ := hro
    simp only [Value.slice.injEq] at e2
    obtain ⟨rfl, _, rfl⟩ := e2
    refine ⟨by simpa [dimCells] using c0, by simpa [dimCells] using c1, hI2, ?_⟩
    rcases hdv.2 with ⟨h3, h4⟩ | ⟨g3, cap3, cur3, hv3, _, _, hc3, hm3, _⟩
    · omega
    · exact Nat.le_trans hc3 (Nat.le_trans hm3 maxLen_le)

/-- the inner loop's world: the box of a dimension, and its divisors so far -/
structure DL (W1 : World) (s : Int) (l : List Int) (a : Option Addr) (j cap : Nat) (W : World) : Prop where
  bel : Below W1.heap.size W1 W
  siz : W1.heap.size < W.heap.size
  c0 : W.cell? ⟨W1.heap.size, 0, none⟩ = some (.int .i64 s)
  c1 : W.cell? ⟨W1.heap.size, 1, none⟩ = some (.slice a j cap)
  fr : W.frozen? ⟨W1.heap.size, 1, none⟩ = false
  own : W.ownsRow (W1.heap.size + 1) 3 1 (.slice a j cap) j (vals l)

theorem DL.start (W1 : World) (s : Int) : DL W1 s [] none 0 0 (W1.alloc (.cells #[.int .i64 s, .slice none 0 0] 29)) :=
  ⟨(Below.refl _ _).alloc (Nat.le_refl _) _, by simp, by simp [go_sem], by simp [go_sem], by simp [go_sem], World.ownsRow_nil _ _ _ _⟩

theorem DL.push {W1 W W' : World} {s x : Int} {l : List Int} {a : Option Addr} {j cap g cap' : Nat} (h : DL W1 s l a j cap W)
    (ho : W'.ownsRow (W1.heap.size + 1) 3 1 (.slice (some ⟨g, 0, none⟩) (j + 1) cap') (j + 1) (vals l ++ [.int .i64 x]))
    (hg : (W.alloc (.cells #[.int .i64 x] 3)).grownBy W' (Value.slice a j cap).ownBlock) :
    W'.cell? ⟨W1.heap.size, 1, none⟩ = some (.slice a j cap) ∧ W'.frozen? ⟨W1.heap.size, 1, none⟩ = false ∧ DL W1 s (l ++ [x]) (some ⟨g, 0, none⟩) (j + 1) cap' (W'.setCell ⟨W1.heap.size, 1, none⟩ (.slice (some ⟨g, 0, none⟩) (j + 1) cap')) := by
  have hz := h.siz
  have hbA : Below (W1.heap.size + 1) W (W.alloc (.cells #[.int .i64 x] 3)) := (Below.refl _ _).alloc (by omega) _
  have hbG : Below (W1.heap.size + 1) W W' := hbA.grown hg (by simp; omega) fun q hq => (h.own.lt q hq).1
  have e1 : W'.cell? ⟨W1.heap.size, 1, none⟩ = some (.slice a j cap) := (hbG.cell (p := ⟨W1.heap.size, 1, none⟩) (by show W1.heap.size < W1.heap.size + 1; omega)).trans h.c1
  have e0 : W'.cell? ⟨W1.heap.size, 0, none⟩ = some (.int .i64 s) := (hbG.cell (p := ⟨W1.heap.size, 0, none⟩) (by show W1.heap.size < W1.heap.size + 1; omega)).trans h.c0
  have ef : W'.frozen? ⟨W1.heap.size, 1, none⟩ = false := (hbG.frozen (p := ⟨W1.heap.size, 1, none⟩) (by show W1.heap.size < W1.heap.size + 1; omega)).trans h.fr
  refine ⟨e1, ef, ?_, ?_, ?_, ?_, ?_, ?_⟩
  · exact (h.bel.trans (hbG.mono (by omega))).setCell (Nat.le_refl _) _
  · have := hbG.size; simp; omega
  · rw [World.cell?_setCell_other _ _ _ _ (by intro e; simp only [Addr.mk.injEq] at e; omega)]; exact e0
  · exact World.cell?_setCell_same _ _ _ e1
  · rw [World.frozen?_setCell]; exact ef
  · rw [vals_app]
    exact ownsRow_setCell_below ho (by show W1.heap.size < W1.heap.size + 1; omega) _
end Go.Proofs.Ythbjfbkjbggkbaa.dims
