/-
  Lists of numbers of whatever kind that can be read in memory.
  What the row's reading tells of lists of numbers, of dimensions and of choices that came in.
  The contract of the statements' own 'Of': sound dimensions, as choices say.
  The walk of the statements' own 'Of'.
  The contracts of the statements' own 'Key' and 'Levels': members and levels, as choices say.
  What the row's reading tells of lists of lists of small numbers that came in.
-/
import Derived.Test.YtgimknplckkiaaaDoorDimsJ
import Derived.Deep.Slices
import Derived.Deep.Fields
import Derived.Lib.SmallJoins
import Derived.ChangeOld
namespace Go.Proofs.YtgimknplckkiaaaDoor.dims
open Go.ChangeShapes Go.WideShapes Go.ChangeAt Go.RowKit Go.Deep
set_option linter.unusedVariables false
set_option maxRecDepth 100000

/-- small numbers that can be read at an address -/
def Smalls (k : IntKind) (w : World) (a : Option Addr) (l : List Int) : Prop :=
  l = [] ∨ ∃ b off, a = some ⟨b, off, none⟩ ∧ ∀ i, i < l.length → w.cell? ⟨b, off + i, none⟩ = some (.int k (nth l i))

theorem Smalls.ints {w : World} {a : Option Addr} {l : List Int} (h : Smalls .i64 w a l) : Ints w a l := h

theorem Smalls.keep {k : IntKind} {w w1 : World} {a : Option Addr} {l : List Int} (h : Smalls k w a l) (hb : Below w.heap.size w w1) : Smalls k w1 a l := by
  rcases h with h | ⟨b, off, ha, hc⟩
  · exact .inl h
  · exact .inr ⟨b, off, ha, fun i hi => (hb.cell (p := ⟨b, off + i, none⟩) (cell_lt (hc i hi))).trans (hc i hi)⟩

theorem Smalls.get {k : IntKind} {w : World} {a : Option Addr} {l : List Int} (h : Smalls k w a l) {j : Nat} (hj : j < l.length) : ∃ b off, a = some ⟨b, off, none⟩ ∧ ∀ i, i < l.length → w.cell? ⟨b, off + i, none⟩ = some (.int k (nth l i)) := by
  rcases h with rfl | h
  · simp at hj
  · exact h

theorem maxLen_le : maxLen ≤ 9223372036854775807 := by decide
end Go.Proofs.YtgimknplckkiaaaDoor.dims

namespace Go.Proofs.YtgimknplckkiaaaDoor.dims
open Go.ChangeShapes Go.WideShapes Go.ChangeAt Go.RowKit Go.Deep Go.Joins
set_option linter.unusedVariables false
set_option maxRecDepth 100000

/-- a slice of numbers that came in -/
structure Nums (k : IntKind) (W : World) (a : Option Addr) (len cap : Nat) (l : List Int) : Prop where
  mem : Smalls k W a l
  eln : l.length = len
  lec : len ≤ cap
  max : cap ≤ maxLen
  wf : ∀ i, i < l.length → (Lit.int k (nth l i)).wf = true

theorem nums_open {H : Type} {enc : TypeId × Value → H} {W : World} {base : Nat} {spare : Nat → Bool} {held : Bool} {fuel : Nat} {t e : TypeId} {k : IntKind} {a : Option Addr} {len cap : Nat} {x : DataW H × List MemPlace}
    (ht : Tryd.prog.underlying t = some (.slice e)) (he : Tryd.prog.underlying e = some (.int k)) (hc : Tryd.prog.cellsOf e = 1)
    (h : DataW.trod enc Tryd.prog W base spare held fuel t [.slice a len cap] = some x) : ∃ l, Nums k W a len cap l := by
  rcases open_ints ht he hc h with ⟨hcs, _⟩ | ⟨y, l, c, zs, hcs, _, hl, hm, hz, _, hcell, hwz⟩
  · simp at hcs
    obtain ⟨rfl, rfl, rfl⟩ := hcs
    exact ⟨[], ⟨.inl rfl, rfl, Nat.le_refl _, Nat.zero_le _, fun i hi => by simp at hi⟩⟩
  · simp at hcs
    obtain ⟨rfl, rfl, rfl⟩ := hcs
    have hzl : len ≤ zs.length := by rw [hz]; split <;> omega
    have hlen : (zs.take len).length = len := by simp; omega
    refine ⟨zs.take len, ⟨?_, hlen, hl, hm, fun i hi => hwz _ (by
      have hi2 : i < zs.length := by omega
      have hi3 : i < len := by omega
      have e : nth (zs.take len) i = zs[i] := by simp [nth, hi2, hi3]
      rw [e]; exact List.getElem_mem _)⟩⟩
    by_cases h0 : len = 0
    · subst h0; exact .inl (by simp)
    · obtain ⟨b, off, spot⟩ := y
      have hc := hcell 0 (by omega)
      have hspot : spot = none := by simpa [Addr.add] using World.cell?_spot hc
      subst hspot
      refine .inr ⟨b, off, rfl, fun i hi => ?_⟩
      have hi2 : i < len := by omega
      have := hcell i (by omega)
      rw [show (⟨b, off, none⟩ : Addr).add i = ⟨b, off + i, none⟩ by by_cases e : i = 0 <;> simp [Addr.add, e]] at this
      rw [this]
      simp [nth, hi2]

/-- structs of a number and a slice of numbers, at an address -/
def Pairs (k1 k2 : IntKind) (W : World) (a : Option Addr) (ds : List Dm) : Prop :=
  ds = [] ∨ ∃ b off, a = some ⟨b, off, none⟩ ∧ ∀ i, i < ds.length → W.cell? ⟨b, off + i * 2, none⟩ = some (.int k1 (dn ds i).sz) ∧ W.cell? ⟨b, off + i * 2 + 1, none⟩ = some (.slice (dn ds i).a (dn ds i).l.length (dn ds i).cap) ∧ Nums k2 W (dn ds i).a (dn ds i).l.length (dn ds i).cap (dn ds i).l ∧ (Lit.int k1 (dn ds i).sz).wf = true

theorem addr_add (b off i : Nat) : (⟨b, off, none⟩ : Addr).add i = ⟨b, off + i, none⟩ := by by_cases e : i = 0 <;> simp [Addr.add, e]

/-- one such struct, by its two cells -/
theorem pair_open {H : Type} {enc : TypeId × Value → H} {W : World} {base : Nat} {spare : Nat → Bool} {held : Bool} {n : Nat} {t0 t1 g : TypeId} {k1 k2 : IntKind} {c0 c1 : Value} {y0 y1 : DataW H × List MemPlace}
    (ht0 : Tryd.prog.underlying t0 = some (.int k1)) (ht1 : Tryd.prog.underlying t1 = some (.slice g)) (hg : Tryd.prog.underlying g = some (.int k2)) (hc : Tryd.prog.cellsOf g = 1)
    (h0 : DataW.trod enc Tryd.prog W base spare held n t0 [c0] = some y0) (h1 : DataW.trod enc Tryd.prog W base spare held n t1 [c1] = some y1) :
    ∃ d : Dm, c0 = .int k1 d.sz ∧ c1 = .slice d.a d.l.length d.cap ∧ Nums k2 W d.a d.l.length d.cap d.l ∧ (Lit.int k1 d.sz).wf = true := by
  obtain ⟨v, e0, _, hw⟩ := DataW.trod_int ht0 h0
  simp only [List.cons.injEq, and_true] at e0
  subst e0
  have hsl : ∃ a len cap, c1 = .slice a len cap := by
    rcases open_ints ht1 hg hc h1 with ⟨hcs, _⟩ | ⟨y, l, c, zs, hcs, _⟩
    · simp only [List.cons.injEq, and_true] at hcs; exact ⟨_, _, _, hcs⟩
    · simp only [List.cons.injEq, and_true] at hcs; exact ⟨_, _, _, hcs⟩
  obtain ⟨a, len, cap, rfl⟩ := hsl
  obtain ⟨l, hl⟩ := nums_open ht1 hg hc h1
  obtain rfl := hl.eln
  exact ⟨⟨v, a, cap, l⟩, rfl, rfl, hl, hw⟩

set_option maxRecDepth 100000 in
theorem pairs_open {H : Type} {enc : TypeId × Value → H} {W : World} {base : Nat} {spare : Nat → Bool} {held : Bool} {fuel : Nat} {t e g : TypeId} {f0 f1 : Field} {k1 k2 : IntKind} {a : Option Addr} {len cap : Nat} {x : DataW H × List MemPlace}
    (ht : Tryd.prog.underlying t = some (.slice e)) (hs : Tryd.prog.underlying e = some (.struct #[f0, f1])) (o0 : f0.offset = 0) (o1 : f1.offset = 1) (n0 : Tryd.prog.cellsOf f0.type = 1) (n1 : Tryd.prog.cellsOf f1.type = 1) (n2 : Tryd.prog.cellsOf e = 2)
    (ht0 : Tryd.prog.underlying f0.type = some (.int k1)) (ht1 : Tryd.prog.underlying f1.type = some (.slice g)) (hg : Tryd.prog.underlying g = some (.int k2)) (hc : Tryd.prog.cellsOf g = 1)
    (h : DataW.trod enc Tryd.prog W base spare held fuel t [.slice a len cap] = some x) : ∃ ds, Pairs k1 k2 W a ds ∧ ds.length = len ∧ len ≤ cap ∧ cap ≤ maxLen := by
  rcases open_slice ht h with ⟨h0, _⟩ | ⟨a', len', cap', m, n, D, Pl, hcs, hb, hl, hm, hmm, _, hx⟩
  · simp at h0
    obtain ⟨rfl, rfl, rfl⟩ := h0
    exact ⟨[], .inl rfl, rfl, Nat.le_refl _, Nat.zero_le _⟩
  · simp at hcs
    obtain ⟨rfl, rfl, rfl⟩ := hcs
    by_cases hz : len = 0
    · subst hz; exact ⟨[], .inl rfl, rfl, hl, hm⟩
    · have hlm : len ≤ m := by rw [hmm]; split <;> omega
      have each : ∀ i, i < len → ∃ d : Dm, W.cell? (a'.add (i * 2)) = some (.int k1 d.sz) ∧ W.cell? ((a'.add (i * 2)).add 1) = some (.slice d.a d.l.length d.cap) ∧ Nums k2 W d.a d.l.length d.cap d.l ∧ (Lit.int k1 d.sz).wf = true := by
        intro i hi
        obtain ⟨cs', h1, h2⟩ := hx i (by omega)
        rw [n2] at h1
        obtain ⟨_, hlen, hget⟩ := World.cells?_some h1
        obtain ⟨y0, y1, n', _, _, g0, g1⟩ := trod_struct2 hs h2
        match cs', hlen with
        | [c0, c1], _ =>
          rw [o0, n0] at g0
          rw [o1, n1] at g1
          obtain ⟨d, e0, e1, hd, hw⟩ := pair_open ht0 ht1 hg hc (by simpa using g0) (by simpa using g1)
          refine ⟨d, ?_, ?_, hd, hw⟩
          · rw [← e0]
            have := hget 0 (by omega)
            simpa [Addr.add] using this
          · rw [← e1]; exact hget 1 (by omega)
      obtain ⟨d0, hc0, _⟩ := each 0 (by omega)
      obtain ⟨b, off, spot⟩ := a'
      have hspot : spot = none := by
        have := World.cell?_spot hc0
        simpa [Addr.add] using this
      subst hspot
      obtain ⟨f, hf⟩ : ∃ f : Nat → Dm, ∀ i, i < len → W.cell? ((⟨b, off, none⟩ : Addr).add (i * 2)) = some (.int k1 (f i).sz) ∧ W.cell? (((⟨b, off, none⟩ : Addr).add (i * 2)).add 1) = some (.slice (f i).a (f i).l.length (f i).cap) ∧ Nums k2 W (f i).a (f i).l.length (f i).cap (f i).l ∧ (Lit.int k1 (f i).sz).wf = true := by
        refine ⟨fun i => if h : i < len then Classical.choose (each i h) else ⟨0, none, 0, []⟩, fun i hi => ?_⟩
        simp only [hi, dif_pos]
        exact Classical.choose_spec (each i hi)
      refine ⟨(List.range len).map f, .inr ⟨b, off, rfl, fun i hi => ?_⟩, by simp, hl, hm⟩
      simp only [List.length_map, List.length_range] at hi
      have hn : dn ((List.range len).map f) i = f i := by simp [dn, hi]
      have := hf i hi
      rw [addr_add, addr_add] at this
      rw [hn]; exact this

theorem dims_open {H : Type} {enc : TypeId × Value → H} {W : World} {base : Nat} {spare : Nat → Bool} {held : Bool} {fuel : Nat} {a : Option Addr} {len cap : Nat} {x : DataW H × List MemPlace}
    (h : DataW.trod enc Tryd.prog W base spare held fuel 22 [.slice a len cap] = some x) : ∃ ds, Pairs .i64 .i64 W a ds ∧ ds.length = len ∧ len ≤ cap ∧ cap ≤ maxLen :=
  pairs_open Tryd.underlying22 Tryd.underlying57 rfl rfl (by kernel_rfl) (by kernel_rfl) (by kernel_rfl) Tryd.underlying3 Tryd.underlying24 Tryd.underlying3 (by kernel_rfl) h
theorem cuts_open {H : Type} {enc : TypeId × Value → H} {W : World} {base : Nat} {spare : Nat → Bool} {held : Bool} {fuel : Nat} {a : Option Addr} {len cap : Nat} {x : DataW H × List MemPlace}
    (h : DataW.trod enc Tryd.prog W base spare held fuel 42 [.slice a len cap] = some x) : ∃ ds, Pairs .u16 .u8 W a ds ∧ ds.length = len ∧ len ≤ cap ∧ cap ≤ maxLen :=
  pairs_open Tryd.underlying42 Tryd.underlying77 rfl rfl (by kernel_rfl) (by kernel_rfl) (by kernel_rfl) Tryd.underlying29 Tryd.underlying45 Tryd.underlying5 (by kernel_rfl) h

theorem Nums.ints {W : World} {a : Option Addr} {len cap : Nat} {l : List Int} (h : Nums .i64 W a len cap l) : Ints W a l := h.mem

theorem Pairs.dims {W : World} {a : Option Addr} {ds : List Dm} (h : Pairs .i64 .i64 W a ds) : DimsIn W a ds := by
  rcases h with h | ⟨b, off, ha, hc⟩
  · exact .inl h
  · refine .inr ⟨b, off, ha, fun i hi => ?_⟩
    obtain ⟨h1, h2, h3, _⟩ := hc i hi
    exact ⟨h1, h2, h3.ints, Nat.le_trans h3.lec (Nat.le_trans h3.max maxLen_le)⟩
end Go.Proofs.YtgimknplckkiaaaDoor.dims

namespace Go.Proofs.YtgimknplckkiaaaDoor.dims
open Go.ChangeShapes Go.WideShapes Go.ChangeAt Go.RowKit Go.Deep
set_option linter.unusedVariables false
set_option maxRecDepth 100000

/-- divisors, as factors say -/
def divs : Int → List Int → List Int
  | _, [] => []
  | p, v :: l => (p * (2 + v % 4)) :: divs (p * (2 + v % 4)) l

theorem divs_len : ∀ (l : List Int) (p : Int), (divs p l).length = l.length
  | [], _ => rfl
  | v :: l, p => by simp [divs, divs_len l]

theorem divs_nth : ∀ (l : List Int) (p : Int) (i : Nat), i < l.length → nth (divs p l) i = (match i with | 0 => p | j + 1 => nth (divs p l) j) * (2 + nth l i % 4)
  | [], _, i, h => by simp at h
  | v :: l, p, 0, _ => by simp [divs, nth]
  | v :: l, p, i + 1, h => by
    have ih := divs_nth l (p * (2 + v % 4)) i (by simpa using h)
    have e1 : nth (divs p (v :: l)) (i + 1) = nth (divs (p * (2 + v % 4)) l) i := by simp [divs, nth]
    have e2 : nth (v :: l) (i + 1) = nth l i := by simp [nth]
    rw [e1, e2, ih]
    cases i with
    | zero => simp [divs, nth]
    | succ j => simp [divs, nth]

theorem divs_step (l : List Int) (i : Nat) (h : i < l.length) : nth (divs 1 l) i = prev (divs 1 l) i * (2 + nth l i % 4) := by
  rw [divs_nth l 1 i h]
  cases i <;> rfl

def pow5 : Nat → Int
  | 0 => 1
  | i + 1 => pow5 i * 5

theorem divs_bound (l : List Int) : ∀ i, i ≤ l.length → 1 ≤ prev (divs 1 l) i ∧ prev (divs 1 l) i ≤ pow5 i
  | 0, _ => by simp [prev, pow5]
  | i + 1, h => by
    have ih := divs_bound l i (by omega)
    have e : prev (divs 1 l) (i + 1) = prev (divs 1 l) i * (2 + nth l i % 4) := divs_step l i (by omega)
    rw [e]
    generalize prev (divs 1 l) i = p at ih
    have hm : 0 ≤ nth l i % 4 ∧ nth l i % 4 < 4 := ⟨Int.emod_nonneg _ (by omega), Int.emod_lt_of_pos _ (by omega)⟩
    generalize nth l i % 4 = m at hm
    have e5 : pow5 (i + 1) = pow5 i * 5 := rfl
    rw [e5]
    have hq : p * (2 + m) ≤ p * 5 := Int.mul_le_mul_of_nonneg_left (by omega) (by omega)
    have hq2 : p * 1 ≤ p * (2 + m) := Int.mul_le_mul_of_nonneg_left (by omega) (by omega)
    omega

theorem divs_sound {l : List Int} (h4 : l.length ≤ 4) : ∀ i, i < (divs 1 l).length → StepOk (divs 1 l) i := by
  intro i hi
  rw [divs_len] at hi
  have hb := divs_bound l i (by omega)
  have e := divs_step l i hi
  have hb2 := divs_bound l (i + 1) (by omega)
  have e2 : prev (divs 1 l) (i + 1) = nth (divs 1 l) i := rfl
  rw [e2] at hb2
  have h5 : pow5 (i + 1) ≤ 625 := by
    have : i = 0 ∨ i = 1 ∨ i = 2 ∨ i = 3 := by omega
    rcases this with rfl | rfl | rfl | rfl <;> decide
  refine ⟨?_, by omega, ?_⟩
  · rw [e]
    generalize prev (divs 1 l) i = p at hb
    have hm : 0 ≤ nth l i % 4 := Int.emod_nonneg _ (by omega)
    have hq : p * 2 ≤ p * (2 + nth l i % 4) := Int.mul_le_mul_of_nonneg_left (by omega) (by omega)
    omega
  · rw [e, Int.mul_emod_right]

/-- the dimension of a choice -/
def ofC (c : Dm) : Int × List Int := (1 + c.sz % 200, divs 1 (c.l.take 4))
def ofL (cs : List Dm) : List (Int × List Int) := if cs.length = 0 then [(100, [10])] else (cs.take 4).map ofC
def pr (d : Dm) : Int × List Int := (d.sz, d.l)

theorem ofC_sound (c : Dm) : SoundD (ofC c).1 (ofC c).2 := by
  have hm : 0 ≤ c.sz % 200 ∧ c.sz % 200 < 200 := ⟨Int.emod_nonneg _ (by omega), Int.emod_lt_of_pos _ (by omega)⟩
  refine ⟨?_, ?_, ?_, ?_⟩
  · show 1 ≤ 1 + c.sz % 200; omega
  · show 1 + c.sz % 200 ≤ 10000; omega
  · show (divs 1 (c.l.take 4)).length ≤ 4
    rw [divs_len]; simp; omega
  · exact divs_sound (by simp; omega)

theorem ofL_sound (cs : List Dm) : ∀ p ∈ ofL cs, SoundD p.1 p.2 := by
  intro p hp
  unfold ofL at hp
  split at hp
  · simp only [List.mem_singleton] at hp
    subst hp
    exact (sndB_iff _ _).1 (by kernel_rfl)
  · obtain ⟨c, _, rfl⟩ := List.mem_map.1 hp
    exact ofC_sound c
theorem ofL_len (cs : List Dm) : 1 ≤ (ofL cs).length ∧ (ofL cs).length ≤ 4 := by
  unfold ofL
  split
  · simp
  · simp; omega

theorem of_sndL {ds cs : List Dm} (h : ds.map pr = ofL cs) : sndL ds = true := by
  have hl : ds.length = (ofL cs).length := by rw [← h]; simp
  have hb := ofL_len cs
  have ha : ds.all sndD = true := by
    rw [List.all_eq_true]
    intro d hd
    have : pr d ∈ ofL cs := by rw [← h]; exact List.mem_map_of_mem hd
    exact sndB_true (ofL_sound cs _ this)
  unfold sndL
  rw [ha]
  simp; omega

theorem Nums.keep {k : IntKind} {W W' : World} {a : Option Addr} {len cap : Nat} {l : List Int} (h : Nums k W a len cap l) (hb : Below W.heap.size W W') : Nums k W' a len cap l := ⟨h.mem.keep hb, h.eln, h.lec, h.max, h.wf⟩
theorem Pairs.keep {k1 k2 : IntKind} {w w1 : World} {a : Option Addr} {ds : List Dm} (h : Pairs k1 k2 w a ds) (hb : Below w.heap.size w w1) : Pairs k1 k2 w1 a ds := by
  rcases h with h | ⟨b, off, ha, hc⟩
  · exact .inl h
  · refine .inr ⟨b, off, ha, fun i hi => ?_⟩
    obtain ⟨h1, h2, h3, h4⟩ := hc i hi
    exact ⟨(hb.cell (p := ⟨b, off + i * 2, none⟩) (cell_lt h1)).trans h1, (hb.cell (p := ⟨b, off + i * 2 + 1, none⟩) (cell_lt h2)).trans h2, h3.keep hb, h4⟩
theorem Pairs.get {k1 k2 : IntKind} {w : World} {a : Option Addr} {ds : List Dm} (h : Pairs k1 k2 w a ds) {k : Nat} (hk : k < ds.length) : ∃ b off, a = some ⟨b, off, none⟩ ∧ ∀ i, i < ds.length → w.cell? ⟨b, off + i * 2, none⟩ = some (.int k1 (dn ds i).sz) ∧ w.cell? ⟨b, off + i * 2 + 1, none⟩ = some (.slice (dn ds i).a (dn ds i).l.length (dn ds i).cap) ∧ Nums k2 w (dn ds i).a (dn ds i).l.length (dn ds i).cap (dn ds i).l ∧ (Lit.int k1 (dn ds i).sz).wf = true := by
  rcases h with rfl | h
  · simp at hk
  · exact h

/-- dimensions, cell by cell -/
def dimCells (d : Dm) : List Value := [.int .i64 d.sz, .slice d.a d.l.length d.cap]
def flatD (ds : List Dm) : List Value := ds.flatMap dimCells
theorem flatD_len (ds : List Dm) : (flatD ds).length = ds.length * 2 := by
  induction ds with
  | nil => rfl
  | cons c l ih => unfold flatD at *; simp only [List.flatMap_cons, List.length_append, List.length_cons, ih]; simp [dimCells]; omega
theorem flatD_snoc (l : List Dm) (c : Dm) : flatD (l ++ [c]) = flatD l ++ dimCells c := by simp [flatD]
theorem flatD_get (ds : List Dm) : ∀ i j, i < ds.length → j < 2 → (flatD ds)[i * 2 + j]? = (dimCells (dn ds i))[j]? := by
  induction ds with
  | nil => intro i j h; simp at h
  | cons c l ih =>
    intro i j hi hj
    have e : flatD (c :: l) = dimCells c ++ flatD l := by simp [flatD]
    rw [e]
    cases i with
    | zero => rw [List.getElem?_append_left (by simp [dimCells]; omega)]; simp [dn]
    | succ k =>
      rw [List.getElem?_append_right (by simp [dimCells]; omega)]
      have e2 : (k + 1) * 2 + j - (dimCells c).length = k * 2 + j := by simp [dimCells]; omega
      rw [e2, ih k j (by simpa using hi) hj]
      simp [dn]

/-- the outer loop's world: these dimensions are made -/
structure OF (w : World) (ds : List Dm) (v : Value) (W : World) : Prop where
  own : W.ownsRow w.heap.size 57 2 v ds.length (flatD ds)
  div : ∀ i, i < ds.length → W.ownsRow w.heap.size 3 1 (.slice (dn ds i).a (dn ds i).l.length (dn ds i).cap) (dn ds i).l.length (vals (dn ds i).l)
  bel : Below w.heap.size w W

theorem OF.start (w : World) : OF w [] (.slice none 0 0) w := ⟨World.ownsRow_nil _ _ _ _, fun i hi => by simp at hi, Below.refl _ _⟩
theorem OF.keep {w W W' : World} {ds : List Dm} {v : Value} (h : OF w ds v W) (hb : Below W.heap.size W W') : OF w ds v W' := ⟨own_below h.own hb, fun i hi => own_below (h.div i hi) hb, h.bel.trans (hb.mono h.bel.size)⟩

theorem dn_snoc_lt {ds : List Dm} {d : Dm} {i : Nat} (h : i < ds.length) : dn (ds ++ [d]) i = dn ds i := by simp [dn, List.getElem?_append_left h]
theorem dn_snoc_eq {ds : List Dm} {d : Dm} : dn (ds ++ [d]) ds.length = d := by simp [dn]

/-- one more dimension, laid behind the others -/
theorem OF.push {w W W' : World} {ds : List Dm} {v v' : Value} {d : Dm} (h : OF w ds v W) (hd : W.ownsRow w.heap.size 3 1 (.slice d.a d.l.length d.cap) d.l.length (vals d.l))
    (ho : W'.ownsRow w.heap.size 57 2 v' (ds.length + 1) (flatD ds ++ dimCells d)) (hg : W.grownBy W' v.ownBlock) : OF w (ds ++ [d]) v' W' := by
  refine ⟨by rw [flatD_snoc]; simpa using ho, fun i hi => ?_, h.bel.grown hg h.bel.size fun q hq => (h.own.lt q hq).1⟩
  simp only [List.length_append, List.length_singleton] at hi
  by_cases e : i = ds.length
  · subst e
    rw [dn_snoc_eq]
    exact hd.kept hg (own_apart hd h.own (by decide))
  · rw [dn_snoc_lt (by omega)]
    exact (h.div i (by omega)).kept hg (own_apart (h.div i (by omega)) h.own (by decide))

theorem OF.out {w W : World} {ds : List Dm} {v : Value} (h : OF w ds v W) (h0 : 0 < ds.length) : ∃ g cap, v = .slice (some ⟨g, 0, none⟩) ds.length cap ∧ ds.length ≤ cap ∧ DimsIn W (some ⟨g, 0, none⟩) ds := by
  rcases h.own.2 with ⟨_, h1⟩ | ⟨g, cap, cur, hv, _, _, hc, _⟩
  · omega
  · refine ⟨g, cap, hv, hc, .inr ⟨g, 0, rfl, fun i hi => ?_⟩⟩
    have ho := h.own
    rw [hv] at ho
    have c0 := World.ownsRow.cellAt ho (i * 2) (by omega)
    have c1 := World.ownsRow.cellAt ho (i * 2 + 1) (by omega)
    rw [show i * 2 = i * 2 + 0 by omega, flatD_get ds i 0 hi (by omega)] at c0
    rw [flatD_get ds i 1 hi (by omega)] at c1
    have hdv := h.div i hi
    have hro := (own_out hdv).1
    obtain ⟨a2, cap2, e2, hI2, _⟩ := hro
    simp only [Value.slice.injEq] at e2
    obtain ⟨rfl, _, rfl⟩ := e2
    refine ⟨by simpa [dimCells] using c0, by simpa [dimCells] using c1, hI2, ?_⟩
    rcases hdv.2 with ⟨h3, h4⟩ | ⟨g3, cap3, cur3, hv3, _, _, hc3, hm3, _⟩
    · omega
    · exact Nat.le_trans hc3 (Nat.le_trans hm3 maxLen_le)

/-- the inner loop's world: the box of a dimension, and its divisors so far -/
structure DL (W1 : World) (s : Int) (l : List Int) (a : Option Addr) (j cap : Nat) (W : World) : Prop where
  bel : Below W1.heap.size W1 W
  siz : W1.heap.size < W.heap.size
  c0 : W.cell? ⟨W1.heap.size, 0, none⟩ = some (.int .i64 s)
  c1 : W.cell? ⟨W1.heap.size, 1, none⟩ = some (.slice a j cap)
  fr : W.frozen? ⟨W1.heap.size, 1, none⟩ = false
  own : W.ownsRow (W1.heap.size + 1) 3 1 (.slice a j cap) j (vals l)

theorem DL.start (W1 : World) (s : Int) : DL W1 s [] none 0 0 (W1.alloc (.cells #[.int .i64 s, .slice none 0 0] 57)) :=
  ⟨(Below.refl _ _).alloc (Nat.le_refl _) _, by simp, by simp [go_sem], by simp [go_sem], by simp [go_sem], World.ownsRow_nil _ _ _ _⟩

theorem DL.push {W1 W W' : World} {s x : Int} {l : List Int} {a : Option Addr} {j cap g cap' : Nat} (h : DL W1 s l a j cap W)
    (ho : W'.ownsRow (W1.heap.size + 1) 3 1 (.slice (some ⟨g, 0, none⟩) (j + 1) cap') (j + 1) (vals l ++ [.int .i64 x]))
    (hg : (W.alloc (.cells #[.int .i64 x] 3)).grownBy W' (Value.slice a j cap).ownBlock) :
    W'.cell? ⟨W1.heap.size, 1, none⟩ = some (.slice a j cap) ∧ W'.frozen? ⟨W1.heap.size, 1, none⟩ = false ∧ DL W1 s (l ++ [x]) (some ⟨g, 0, none⟩) (j + 1) cap' (W'.setCell ⟨W1.heap.size, 1, none⟩ (.slice (some ⟨g, 0, none⟩) (j + 1) cap')) := by
  have hz := h.siz
  have hbA : Below (W1.heap.size + 1) W (W.alloc (.cells #[.int .i64 x] 3)) := (Below.refl _ _).alloc (by omega) _
  have hbG : Below (W1.heap.size + 1) W W' := hbA.grown hg (by simp; omega) fun q hq => (h.own.lt q hq).1
  have e1 : W'.cell? ⟨W1.heap.size, 1, none⟩ = some (.slice a j cap) := (hbG.cell (p := ⟨W1.heap.size, 1, none⟩) (by show W1.heap.size < W1.heap.size + 1; omega)).trans h.c1
  have e0 : W'.cell? ⟨W1.heap.size, 0, none⟩ = some (.int .i64 s) := (hbG.cell (p := ⟨W1.heap.size, 0, none⟩) (by show W1.heap.size < W1.heap.size + 1; omega)).trans h.c0
  have ef : W'.frozen? ⟨W1.heap.size, 1, none⟩ = false := (hbG.frozen (p := ⟨W1.heap.size, 1, none⟩) (by show W1.heap.size < W1.heap.size + 1; omega)).trans h.fr
  refine ⟨e1, ef, ?_, ?_, ?_, ?_, ?_, ?_⟩
  · exact (h.bel.trans (hbG.mono (by omega))).setCell (Nat.le_refl _) _
  · have := hbG.size; simp; omega
  · rw [World.cell?_setCell_other _ _ _ _ (by intro e; simp only [Addr.mk.injEq] at e; omega)]; exact e0
  · exact World.cell?_setCell_same _ _ _ e1
  · rw [World.frozen?_setCell]; exact ef
  · rw [vals_app]
    exact ownsRow_setCell_below ho (by show W1.heap.size < W1.heap.size + 1; omega) _
end Go.Proofs.YtgimknplckkiaaaDoor.dims

namespace Go.Proofs.YtgimknplckkiaaaDoor.dims
open Go.ChangeShapes Go.WideShapes Go.ChangeAt Go.RowKit Go.Deep
set_option linter.unusedVariables false
set_option maxRecDepth 100000

theorem u16_of_wf {n : Int} (h : (Lit.int .u16 n).wf = true) : 0 ≤ n ∧ n ≤ 65535 := by
  simpa [Lit.wf, IntKind.min, IntKind.max, IntKind.signed, IntKind.bits] using h
theorem u8_of_wf {n : Int} (h : (Lit.int .u8 n).wf = true) : 0 ≤ n ∧ n ≤ 255 := by
  simpa [Lit.wf, IntKind.min, IntKind.max, IntKind.signed, IntKind.bits] using h

theorem take_snocD (cs : List Dm) (k : Nat) (h : k < cs.length) : (cs.take (k + 1)).map ofC = (cs.take k).map ofC ++ [ofC (dn cs k)] := by
  rw [List.take_succ_eq_append_getElem h, List.map_append, show dn cs k = cs[k] by simp [dn, h]]
  rfl

theorem cells_two_new (w : World) (v1 v2 : Value) (t : TypeId) : ∀ j u, [v1, v2][j]? = some u → (w.alloc (.cells #[v1, v2] t)).cell? ((⟨w.heap.size, 0, none⟩ : Addr).add j) = some u := by
  intro j u hj
  match j, hj with
  | 0, hj => simp at hj; subst hj; simp [Addr.add, go_sem]
  | 1, hj => simp at hj; subst hj; simp [Addr.add, go_sem]
  | j + 2, hj => simp at hj

theorem cells_two_at (w : World) (B : Nat) (hB : w.heap.size = B) (v1 v2 : Value) (t : TypeId) : ∀ j u, [v1, v2][j]? = some u → (w.alloc (.cells #[v1, v2] t)).cell? ((⟨B, 0, none⟩ : Addr).add j) = some u := by
  subst hB; exact cells_two_new w v1 v2 t

theorem ofL_eq {cs : List Dm} {k n : Nat} (hn : cs.length = n) (h0 : 0 < k) (hk : k = n ∨ k = 4) (hk4 : k ≤ 4) (hkn : k ≤ n) : (cs.take k).map ofC = ofL cs := by
  unfold ofL
  rw [if_neg (by omega)]
  rcases hk with h | h
  · rw [List.take_of_length_le (by omega), List.take_of_length_le (by omega)]
  · rw [h]

theorem take_nthI (l : List Int) (k : Nat) (h : k < l.length) : l.take (k + 1) = l.take k ++ [nth l k] := by
  rw [List.take_succ_eq_append_getElem h]
  simp [nth, h]

/-- what 'Of' hands out -/
def OfRes (w : World) (cs : List Dm) (v : Value) (W : World) : Prop := ∃ ds, ds.map pr = ofL cs ∧ OF w ds v W

set_option maxHeartbeats 16000000 in
theorem of_any (a : Option Addr) (n cap : Nat) (cs : List Dm) (w : World) (hI : Pairs .u16 .u8 w a cs) (hn : cs.length = n) (hm : n ≤ 9223372036854775807) :
    Calls Tryd.prog 18 #[.slice a n cap] w fun e w' => ∃ v, e = .returned v ∧ OfRes w cs v w' := by
  obtain ⟨i0, hi, hz0, hz1, hz2⟩ := info_parts info_int
  obtain ⟨j0, hj, hy0, hy1, hy2⟩ := info_parts info_dim
  have HN : Hid (cs.length = n) := hn
  have HI : Aside (Pairs .u16 .u8 w a cs) := hI
  clear hn hI
  go_enter Tryd.func18, Tryd.ntmps18
  go_wp2_with fail
  go_loopg [3, 4] 4 (fun g1 v vi wr => ∃ (k : Nat) (ds : List Dm) (av : Option Addr) (cv : Nat), v = .slice av k cv ∧ vi = .int .i64 k ∧ k ≤ n ∧ k ≤ 4 ∧ 4 - k ≤ g1 ∧ Aside (OF w ds (.slice av k cv) wr ∧ ds.length = k ∧ ds.map pr = (cs.take k).map ofC))
  case atStart => exact ⟨0, [], none, 0, rfl, rfl, Nat.zero_le _, Nat.zero_le _, Nat.le_refl _, OF.start w, rfl, rfl⟩
  case round =>
    obtain ⟨k, ds, av, cv, rfl, rfl, hk, hk4, hg1, SK⟩ := hrel
    by_cases hlt : k < n
    · have hltz : (k : Int) < (n : Int) := by omega
      by_cases hlt4 : k < 4
      · have hltz4 : (k : Int) < 4 := by omega
        generalize wr = W1 at SK ⊢
        have hkl : k < cs.length := by rw [HN.out]; exact hlt
        obtain ⟨b, off, ha, hc⟩ := (HI.out.keep SK.out.1.bel).get hkl
        subst ha
        obtain ⟨r0, r1, r2, r3⟩ := hc k hkl
        clear hc
        have hsz := u16_of_wf r3
        have HO : Hid (ofC (dn cs k) = (1 + (dn cs k).sz % 200, divs 1 ((dn cs k).l.take 4))) := rfl
        have HCS : Hid ((cs.take (k + 1)).map ofC = (cs.take k).map ofC ++ [ofC (dn cs k)]) := take_snocD cs k hkl
        have hl1 := cell_lt r0
        clear r3
        generalize (dn cs k).sz = s0 at r0 hsz HO
        generalize hL : (dn cs k).l = L at r1 r2 HO
        generalize (dn cs k).a = aL at r1 r2
        generalize (dn cs k).cap = cL at r1 r2
        obtain ⟨s, hs⟩ : ∃ s, s = 1 + s0 % 200 := ⟨_, rfl⟩
        clear hL
        obtain ⟨m, hm1, hm2, hm3⟩ : ∃ m : Nat, m ≤ L.length ∧ m ≤ 4 ∧ (m = L.length ∨ m = 4) := by
          by_cases h : L.length ≤ 4
          · exact ⟨L.length, by omega, h, .inl rfl⟩
          · exact ⟨4, by omega, by omega, .inr rfl⟩
        obtain ⟨D, hD⟩ : ∃ D, D = divs 1 (L.take 4) := ⟨_, rfl⟩
        have hDl : D.length = m := by rw [hD, divs_len]; simp; omega
        have hstep : ∀ j, j < m → nth D j = prev D j * (2 + nth L j % 4) ∧ 1 ≤ prev D j ∧ prev D j ≤ 625 := fun j hj => by
          have h1 := divs_step (L.take 4) j (by simp; omega)
          have h2 := divs_bound (L.take 4) j (by simp; omega)
          have e : nth (L.take 4) j = nth L j := by simp [nth, show j < 4 by omega]
          rw [e, ← hD] at h1
          rw [← hD] at h2
          refine ⟨h1, h2.1, Int.le_trans h2.2 ?_⟩
          have : j = 0 ∨ j = 1 ∨ j = 2 ∨ j = 3 := by omega
          rcases this with rfl | rfl | rfl | rfl <;> decide
        have HD : Aside (D = divs 1 (L.take 4) ∧ D.length = m ∧ (∀ j, j < m → nth D j = prev D j * (2 + nth L j % 4) ∧ 1 ≤ prev D j ∧ prev D j ≤ 625) ∧ (m = L.length ∨ m = 4)) := ⟨hD, hDl, hstep, hm3⟩
        have R2 : Aside (Nums .u8 W1 aL L.length cL L) := r2
        obtain ⟨nL, hnL⟩ : ∃ q, L.length = q := ⟨_, rfl⟩
        rw [hnL] at r1 hm1
        have HNL : Hid (L.length = nL) := hnL
        have HSS : Hid (s = 1 + s0 % 200) := hs
        clear hD hDl hstep hm3 r2 hnL
        have e200 : 0 ≤ s0 % 200 ∧ s0 % 200 < 200 := ⟨Int.emod_nonneg _ (by omega), Int.emod_lt_of_pos _ (by omega)⟩
        have DS : Aside (DL W1 (1 + s0 % 200) [] none 0 0 (W1.alloc (.cells #[.int .i64 (1 + s0 % 200), .slice none 0 0] 57))) := DL.start W1 _
        clear hs
        go_wp2_with fail
        go_loopg [6, 7] m (fun g2 vl vk wr2 => ∃ (j : Nat) (a2 : Option Addr) (c2 : Nat), vl = .int .i64 (prev D j) ∧ vk = .int .i64 j ∧ j ≤ m ∧ m - j ≤ g2 ∧ Aside (DL W1 (1 + s0 % 200) (D.take j) a2 j c2 wr2))
        case atStart => exact ⟨0, none, 0, rfl, rfl, Nat.zero_le _, Nat.le_refl _, by simpa using DS⟩
        case round =>
          clear DS
          obtain ⟨j, a2, c2, rfl, rfl, hjm, hg2, SJ⟩ := hrel
          have hbl := SJ.out.bel
          have r1' := (hbl.cell (p := ⟨b, off + k * 2 + 1, none⟩) hl1).trans r1
          by_cases hjl : j < m
          · as_aux_lemma =>
              have hjz : (j : Int) < (nL : Int) := by omega
              have hj4 : (j : Int) < 4 := by omega
              have hjL : j < L.length := by rw [HNL.out]; omega
              obtain ⟨bL, oL, haL, hcL⟩ := R2.out.mem.get hjL
              subst haL
              have rv := hcL j hjL
              have rv' := (hbl.cell (p := ⟨bL, oL + j, none⟩) (cell_lt rv)).trans rv
              have hv := u8_of_wf (R2.out.wf j hjL)
              obtain ⟨hx, hp1, hp2⟩ := HD.out.2.2.1 j hjl
              have HP : Hid (prev D (j + 1) = nth D j) := rfl
              have HT : Hid (D.take (j + 1) = D.take j ++ [nth D j]) := take_nthI D j (by rw [HD.out.2.1]; exact hjl)
              clear hcL rv r1
              generalize nth L j = v at rv' hv hx
              obtain ⟨x, hxx⟩ : ∃ x, nth D j = x := ⟨_, rfl⟩
              rw [hxx] at hx HP HT
              obtain ⟨p, hpp⟩ : ∃ p, prev D j = p := ⟨_, rfl⟩
              rw [hpp] at hx hp1 hp2 ⊢
              have hv4 : 0 ≤ v % 4 ∧ v % 4 < 4 := ⟨Int.emod_nonneg _ (by omega), Int.emod_lt_of_pos _ (by omega)⟩
              have hb1 : p * 1 ≤ p * (2 + v % 4) := Int.mul_le_mul_of_nonneg_left (by omega) (by omega)
              have hb2 : p * (2 + v % 4) ≤ p * 5 := Int.mul_le_mul_of_nonneg_left (by omega) (by omega)
              have hw1 : IntKind.i64.wrap (p * (2 + v % 4)) = x := by rw [IntWalk.i64_in _ (by omega)]; exact hx.symm
              have hw2 : wrap64 (p * (2 + v % 4)) = x := by rw [hx]; generalize p * (2 + v % 4) = q at hb1 hb2; unfold wrap64; omega
              clear hxx hpp hx hb1 hb2
              have c1 := SJ.out.c1
              have hown := SJ.out.own
              have hsz := SJ.out.siz
              clear hbl
              go_wp2_with (first | (at_builtin; refine wpList_append_lies _ rfl (.tmp 55) (.tmp 57) 24 rfl (W1.heap.size + 1) 3 i0 _ 1 8 Tryd.underlying24 hi hz0 hz1 hz2 rfl (by decide) _ _ _ rfl (hown.alloc _) ⟨wr.heap.size, 0, none⟩ 1 1 [.int .i64 x] rfl rfl (cell_one_new _ _ _) (by intro u hu; simp at hu; subst hu; rfl) (by decide) (by unfold maxLen; omega) (by omega) (by simp; omega) _ rfl ?_) | go_in)
              · intro g cap3 w3 hown3 hgrow hat hglt
                obtain ⟨d1, d2, d3⟩ := SJ.out.push hown3 hgrow
                have S3 : Aside _ := d3
                clear hown3 hgrow hat hglt d3 hown SJ c1
                go_wp2
                go_roundg (m - (j + 1))
                case measure => omega
                case rel => exact ⟨j + 1, _, _, by rw [HP.out], by go_num, by omega, by omega, by rw [HT.out]; exact S3.out⟩
          · have hjm2 : j = m := by omega
            have hex : ¬ (j : Int) < (nL : Int) ∨ ((j : Int) < (nL : Int) ∧ ¬ (j : Int) < 4) := by
              have := HD.out.2.2.2
              rw [HNL.out] at this
              omega
            have hDj : D.take j = D := List.take_of_length_le (by rw [HD.out.2.1]; omega)
            have hown := SJ.out.own
            rw [hDj] at hown
            have hDl : D.length = j := by rw [HD.out.2.1]; omega
            have hd : wr.ownsRow w.heap.size 3 1 (.slice a2 j c2) j (vals D) := own_mono hown (by have := SK.out.1.bel.size; omega)
            have O2 : Aside (OF w ds (.slice av k cv) wr) := SK.out.1.keep hbl
            have HDW : Aside (wr.ownsRow w.heap.size 3 1 (.slice a2 j c2) j (vals D) ∧ D.length = j) := ⟨hd, hDl⟩
            have c0 := SJ.out.c0
            have c1 := SJ.out.c1
            have hsz := SJ.out.siz
            have hdl := SK.out.2.1
            have hoD := O2.out.own
            rw [hdl] at hoD
            have hzw := O2.out.bel.size
            have HEQ : Aside (ds.length = k ∧ (ds ++ [(⟨1 + s0 % 200, a2, c2, D⟩ : Dm)]).map pr = (cs.take (k + 1)).map ofC) := by
              refine ⟨hdl, ?_⟩
              rw [List.map_append, SK.out.2.2, HCS.out, HO.out, ← HD.out.1]; rfl
            clear hjm2 hDj hown hDl hd hbl SJ SK hdl r1
            rcases hex with hex | ⟨hex, hex4⟩
            all_goals
              go_wp2_with (first | (at_builtin; refine wpList_append_lies _ rfl (.tmp 60) (.tmp 62) 22 rfl w.heap.size 57 j0 _ 2 32 Tryd.underlying22 hj hy0 hy1 hy2 rfl (by decide) _ _ _ rfl (hoD.alloc _) ⟨wr.heap.size, 0, none⟩ 1 1 [.int .i64 (1 + s0 % 200), .slice a2 j c2] rfl rfl (cells_two_new _ _ _ _) (by intro u hu; simp at hu; rcases hu with rfl | rfl <;> rfl) (by decide) (by unfold maxLen; omega) (by omega) (by simp; omega) _ rfl ?_) | go_in)
              · intro g cap3 w3 hown3 hgrow hat hglt
                have S4 : Aside (OF w (ds ++ [⟨1 + s0 % 200, a2, c2, D⟩]) (.slice (some ⟨g, 0, none⟩) (k + 1) cap3) w3 ∧ (ds ++ [(⟨1 + s0 % 200, a2, c2, D⟩ : Dm)]).length = k + 1 ∧ (ds ++ [(⟨1 + s0 % 200, a2, c2, D⟩ : Dm)]).map pr = (cs.take (k + 1)).map ofC) := by
                  refine ⟨?_, by simp [HEQ.out.1], HEQ.out.2⟩
                  refine (O2.out.keep ((Below.refl _ _).alloc (Nat.le_refl _) _)).push ?_ ?_ hgrow
                  · show (wr.alloc _).ownsRow w.heap.size 3 1 (.slice a2 D.length c2) D.length (vals D)
                    rw [HDW.out.2]; exact HDW.out.1.alloc _
                  · rw [HEQ.out.1]
                    show w3.ownsRow w.heap.size 57 2 (.slice (some ⟨g, 0, none⟩) (k + 1) cap3) (k + 1) (flatD ds ++ [.int .i64 (1 + s0 % 200), .slice a2 D.length c2])
                    rw [HDW.out.2]; exact hown3
                clear hown3 hgrow hat hglt hoD O2 HDW HEQ c0 c1
                go_wp2
                go_roundg (4 - (k + 1))
                case measure => omega
                case rel => exact ⟨k + 1, _, _, _, rfl, by go_num, by omega, by omega, by omega, S4⟩
      · as_aux_lemma =>
          have hltz4 : ¬ (k : Int) < 4 := by omega
          have hk0 : ((k : Int) == 0) = false := by
            have : ¬ (k : Int) = 0 := by omega
            simpa using this
          have HE : Hid ((cs.take k).map ofC = ofL cs) := ofL_eq HN.out (by omega) (by omega) hk4 hk
          go_wp2
          go_ret
          exact ⟨_, rfl, ds, SK.out.2.2.trans HE.out, SK.out.1⟩
    · have hltz : ¬ (k : Int) < (n : Int) := by omega
      rcases Nat.eq_zero_or_pos k with hk0 | hk0
      · as_aux_lemma =>
          subst hk0
          have HE : Hid (ofL cs = [(100, [10])]) := by show _ = _; unfold ofL; rw [if_pos (by have := HN.out; omega)]
          have hds : ds = [] := List.eq_nil_of_length_eq_zero SK.out.2.1
          subst hds
          have hown : wr.ownsRow w.heap.size 57 2 (.slice av 0 cv) 0 [] := SK.out.1.own
          have hsz := SK.out.1.bel.size
          go_wp2_with (first | (at_builtin; refine wpList_append_lies _ rfl (.tmp 67) (.tmp 70) 22 rfl w.heap.size 57 j0 _ 2 32 Tryd.underlying22 hj hy0 hy1 hy2 rfl (by decide) _ _ _ rfl ((hown.alloc _).alloc _) ⟨wr.heap.size + 1, 0, none⟩ 1 1 [.int .i64 100, .slice (some ⟨wr.heap.size, 0, none⟩) 1 1] rfl rfl (cells_two_at (wr.alloc (.cells #[.int .i64 10] 3)) (wr.heap.size + 1) (by simp) _ _ _) (by intro u hu; simp at hu; rcases hu with rfl | rfl <;> rfl) (by decide) (by unfold maxLen; omega) (by omega) (by simp; omega) _ rfl ?_) | go_in)
          · intro g cap3 w3 hown3 hgrow hat hglt
            have hb : Below wr.heap.size wr ((wr.alloc (.cells #[.int .i64 10] 3)).alloc (.cells #[.int .i64 100, .slice (some ⟨wr.heap.size, 0, none⟩) 1 1] 57)) := ((Below.refl _ _).alloc (Nat.le_refl _) _).alloc (by simp) _
            have S4 : Aside (OF w [⟨100, some ⟨wr.heap.size, 0, none⟩, 1, [10]⟩] (.slice (some ⟨g, 0, none⟩) 1 cap3) w3) := by
              refine OF.push (ds := []) (SK.out.1.keep hb) ?_ hown3 hgrow
              exact (World.ownsRow_lit wr #[.int .i64 10] 1 hsz (by unfold maxLen; omega) rfl).alloc _
            clear hown3 hgrow hat hglt hown hb
            go_wp2
            go_ret
            exact ⟨_, rfl, _, by rw [HE.out]; rfl, S4.out⟩
      · as_aux_lemma =>
          have hk0' : ((k : Int) == 0) = false := by
            have : ¬ (k : Int) = 0 := by omega
            simpa using this
          have HE : Hid ((cs.take k).map ofC = ofL cs) := ofL_eq HN.out (by omega) (by omega) hk4 hk
          go_wp2
          go_ret
          exact ⟨_, rfl, ds, SK.out.2.2.trans HE.out, SK.out.1⟩
end Go.Proofs.YtgimknplckkiaaaDoor.dims

namespace Go.Proofs.YtgimknplckkiaaaDoor.dims
open Go.ChangeShapes Go.WideShapes Go.ChangeAt Go.RowKit Go.Deep
set_option linter.unusedVariables false
set_option maxRecDepth 100000

def keyV (ds : List Dm) (ch : List Int) (i : Nat) : Int := nth ch i % (dn ds i).sz
def keyL (ds : List Dm) (ch : List Int) : List Int := (List.range ds.length).map (keyV ds ch)
def levV (ds : List Dm) (ch lo : List Int) (i : Nat) : Int := nth lo i + nth ch i % (((dn ds i).l.length : Int) + 2 - nth lo i)
def levL (ds : List Dm) (ch lo : List Int) : List Int := (List.range ds.length).map (levV ds ch lo)

theorem range_take (f : Nat → Int) (n k : Nat) (h : k < n) : ((List.range n).map f).take (k + 1) = ((List.range n).map f).take k ++ [f k] := by
  rw [List.take_succ_eq_append_getElem (by simpa using h)]
  simp
theorem nth_out {l : List Int} {i : Nat} (h : ¬ i < l.length) : nth l i = 0 := by simp [nth, List.getElem?_eq_none (by omega : l.length ≤ i)]
theorem keyL_len (ds : List Dm) (ch : List Int) : (keyL ds ch).length = ds.length := by simp [keyL]
theorem levL_len (ds : List Dm) (ch lo : List Int) : (levL ds ch lo).length = ds.length := by simp [levL]
theorem keyL_nth (ds : List Dm) (ch : List Int) {i : Nat} (hi : i < ds.length) : nth (keyL ds ch) i = keyV ds ch i := by simp [keyL, nth, hi]
theorem levL_nth (ds : List Dm) (ch lo : List Int) {i : Nat} (hi : i < ds.length) : nth (levL ds ch lo) i = levV ds ch lo i := by simp [levL, nth, hi]

/-- what is handed out: a row of numbers of the call's own -/
def KeyRes (w : World) (L : List Int) (v : Value) (W : World) : Prop := W.ownsRow w.heap.size 3 1 v L.length (vals L) ∧ Below w.heap.size w W

set_option maxHeartbeats 8000000 in
theorem key_any (a ac : Option Addr) (n cap nc cc : Nat) (ds : List Dm) (ch : List Int) (w : World) (hI : DimsIn w a ds) (hn : ds.length = n) (hn4 : n ≤ 4) (hC : Nums .u16 w ac nc cc ch) (hs : ∀ i, i < n → 1 ≤ (dn ds i).sz) :
    Calls Tryd.prog 41 #[.slice a n cap, .slice ac nc cc] w fun e w' => ∃ v, e = .returned v ∧ KeyRes w (keyL ds ch) v w' := by
  obtain ⟨i0, hi, hz0, hz1, hz2⟩ := info_parts info_int
  obtain ⟨L, hLL⟩ : ∃ L, keyL ds ch = L := ⟨_, rfl⟩
  have HL : Aside (keyL ds ch = L ∧ L.length = n ∧ ∀ j, j < n → L.take (j + 1) = L.take j ++ [keyV ds ch j]) := ⟨hLL, by rw [← hLL, keyL_len, hn], fun j hj => by rw [← hLL]; exact range_take _ _ _ (by omega)⟩
  rw [hLL]
  have HI : Aside (DimsIn w a ds ∧ ds.length = n) := ⟨hI, hn⟩
  have HC : Aside (Nums .u16 w ac nc cc ch) := hC
  have HS : Aside (∀ i, i < n → 1 ≤ (dn ds i).sz) := hs
  clear hI hn hC hs hLL
  go_enter Tryd.func41, Tryd.ntmps41
  go_wp2_with fail
  go_loopg [5, 6] n (fun g1 v vi wr => ∃ (j : Nat), vi = .int .i64 j ∧ j ≤ n ∧ n - j ≤ g1 ∧ Aside (wr.ownsRow w.heap.size 3 1 v j (vals (L.take j)) ∧ Below w.heap.size w wr))
  case atStart => exact ⟨0, rfl, Nat.zero_le _, Nat.le_refl _, World.ownsRow_nil _ _ _ _, Below.refl _ _⟩
  case round =>
    obtain ⟨j, rfl, hj, hg1, SK⟩ := hrel
    by_cases hlt : j < n
    · have hltz : (j : Int) < (n : Int) := by omega
      have hbl := SK.out.2
      obtain ⟨b, off, ha, hc⟩ := (HI.out.1.keep hbl).get (k := j) (by rw [HI.out.2]; exact hlt)
      subst ha
      obtain ⟨r0, _, _, _⟩ := hc j (by rw [HI.out.2]; exact hlt)
      have hs1 := HS.out j hlt
      have HT : Hid (vals (L.take (j + 1)) = vals (L.take j) ++ [.int .i64 (nth ch j % (dn ds j).sz)]) := by
        show _ = _
        rw [HL.out.2.2 j hlt, vals_app]; rfl
      clear hc
      generalize (dn ds j).sz = s at r0 hs1 HT
      have hown := SK.out.1
      have hsz := hbl.size
      by_cases hjc : j < nc
      · have hjcz : (j : Int) < (nc : Int) := by omega
        have hjl : j < ch.length := by rw [HC.out.eln]; exact hjc
        obtain ⟨b2, o2, ha2, hc2⟩ := (HC.out.mem.keep hbl).get hjl
        subst ha2
        have r2 := hc2 j hjl
        have hw := u16_of_wf (HC.out.wf j hjl)
        clear hc2 hbl
        generalize nth ch j = x at r2 hw HT
        obtain ⟨y, hy⟩ : ∃ y, x % s = y := ⟨_, rfl⟩
        rw [hy] at HT
        have hy0 : 0 ≤ y := by rw [← hy]; exact Int.emod_nonneg _ (by omega)
        have s0 : ¬ s = 0 := by omega
        go_wp2_with (first | (at_builtin; refine wpList_append_lies _ rfl (.tmp 23) (.tmp 31) 24 rfl w.heap.size 3 i0 _ 1 8 Tryd.underlying24 hi hz0 hz1 hz2 rfl (by decide) _ _ _ rfl (hown.alloc _) ⟨wr.heap.size, 0, none⟩ 1 1 [.int .i64 y] rfl rfl (cell_one_new _ _ _) (by intro u hu; simp at hu; subst hu; rfl) (by decide) (by unfold maxLen; omega) (by omega) (by simp; omega) _ rfl ?_) | go_in)
        intro g cap3 w3 hown3 hgrow hat hglt
        have S3 : Aside (w3.ownsRow w.heap.size 3 1 (.slice (some ⟨g, 0, none⟩) (j + 1) cap3) (j + 1) (vals (L.take (j + 1))) ∧ Below w.heap.size w w3) :=
          ⟨by rw [HT.out]; exact hown3, (SK.out.2.alloc hsz _).grown hgrow (by simp; omega) fun q hq => (SK.out.1.lt q hq).1⟩
        clear hown3 hgrow hat hglt hown SK
        go_wp2
        go_roundg (n - (j + 1))
        case measure => omega
        case rel => exact ⟨j + 1, by go_num, by omega, by omega, S3⟩
      · have hjcz : ¬ (j : Int) < (nc : Int) := by omega
        have e0 : nth ch j = 0 := nth_out (by rw [HC.out.eln]; exact hjc)
        rw [e0, Int.zero_emod] at HT
        have s0 : ¬ s = 0 := by omega
        clear hbl e0
        go_wp2_with (first | (at_builtin; refine wpList_append_lies _ rfl (.tmp 23) (.tmp 31) 24 rfl w.heap.size 3 i0 _ 1 8 Tryd.underlying24 hi hz0 hz1 hz2 rfl (by decide) _ _ _ rfl (hown.alloc _) ⟨wr.heap.size, 0, none⟩ 1 1 [.int .i64 0] rfl rfl (cell_one_new _ _ _) (by intro u hu; simp at hu; subst hu; rfl) (by decide) (by unfold maxLen; omega) (by omega) (by simp; omega) _ rfl ?_) | go_in)
        intro g cap3 w3 hown3 hgrow hat hglt
        have S3 : Aside (w3.ownsRow w.heap.size 3 1 (.slice (some ⟨g, 0, none⟩) (j + 1) cap3) (j + 1) (vals (L.take (j + 1))) ∧ Below w.heap.size w w3) :=
          ⟨by rw [HT.out]; exact hown3, (SK.out.2.alloc hsz _).grown hgrow (by simp; omega) fun q hq => (SK.out.1.lt q hq).1⟩
        clear hown3 hgrow hat hglt hown SK
        go_wp2
        go_roundg (n - (j + 1))
        case measure => omega
        case rel => exact ⟨j + 1, by go_num, by omega, by omega, S3⟩
    · have hltz : ¬ (j : Int) < (n : Int) := by omega
      have hown := SK.out.1
      rw [List.take_of_length_le (by rw [HL.out.2.1]; omega), show j = L.length by rw [HL.out.2.1]; omega] at hown
      have HO : Aside _ := hown
      clear hown
      go_wp2
      go_ret
      exact ⟨_, rfl, HO.out, SK.out.2⟩

set_option maxHeartbeats 16000000 in
theorem lev_any (a ac al : Option Addr) (n cap nc cc nl cl : Nat) (ds : List Dm) (ch lo : List Int) (w : World) (hI : DimsIn w a ds) (hn : ds.length = n) (hn4 : n ≤ 4) (hC : Nums .u8 w ac nc cc ch) (hO : Ints w al lo) (hnl : lo.length = nl)
    (hs : ∀ i, i < n → (dn ds i).l.length ≤ 4 ∧ 0 ≤ nth lo i ∧ nth lo i ≤ ((dn ds i).l.length : Int) + 1) :
    Calls Tryd.prog 43 #[.slice a n cap, .slice ac nc cc, .slice al nl cl] w fun e w' => ∃ v, e = .returned v ∧ KeyRes w (levL ds ch lo) v w' := by
  obtain ⟨i0, hi, hz0, hz1, hz2⟩ := info_parts info_int
  obtain ⟨L, hLL⟩ : ∃ L, levL ds ch lo = L := ⟨_, rfl⟩
  have HL : Aside (levL ds ch lo = L ∧ L.length = n ∧ ∀ j, j < n → L.take (j + 1) = L.take j ++ [levV ds ch lo j]) := ⟨hLL, by rw [← hLL, levL_len, hn], fun j hj => by rw [← hLL]; exact range_take _ _ _ (by omega)⟩
  rw [hLL]
  have HI : Aside (DimsIn w a ds ∧ ds.length = n) := ⟨hI, hn⟩
  have HC : Aside (Nums .u8 w ac nc cc ch) := hC
  have HO : Aside (Ints w al lo ∧ lo.length = nl) := ⟨hO, hnl⟩
  have HS : Aside (∀ i, i < n → (dn ds i).l.length ≤ 4 ∧ 0 ≤ nth lo i ∧ nth lo i ≤ ((dn ds i).l.length : Int) + 1) := hs
  clear hI hn hC hs hLL hO hnl
  go_enter Tryd.func43, Tryd.ntmps43
  go_wp2_with fail
  go_loopg [7, 8] n (fun g1 v vi wr => ∃ (j : Nat), vi = .int .i64 j ∧ j ≤ n ∧ n - j ≤ g1 ∧ Aside (wr.ownsRow w.heap.size 3 1 v j (vals (L.take j)) ∧ Below w.heap.size w wr))
  case atStart => exact ⟨0, rfl, Nat.zero_le _, Nat.le_refl _, World.ownsRow_nil _ _ _ _, Below.refl _ _⟩
  case round =>
    obtain ⟨j, rfl, hj, hg1, SK⟩ := hrel
    by_cases hlt : j < n
    · have hltz : (j : Int) < (n : Int) := by omega
      have hbl := SK.out.2
      obtain ⟨b, off, ha, hc⟩ := (HI.out.1.keep hbl).get (k := j) (by rw [HI.out.2]; exact hlt)
      subst ha
      obtain ⟨_, r1, _, _⟩ := hc j (by rw [HI.out.2]; exact hlt)
      obtain ⟨q1, q2, q3⟩ := HS.out j hlt
      have HT : Hid (vals (L.take (j + 1)) = vals (L.take j) ++ [.int .i64 (nth lo j + nth ch j % (((dn ds j).l.length : Int) + 2 - nth lo j))]) := by
        show _ = _
        rw [HL.out.2.2 j hlt, vals_app]; rfl
      clear hc
      generalize (dn ds j).l.length = m at r1 q1 q3 HT
      generalize (dn ds j).a = t2 at r1
      generalize (dn ds j).cap = t4 at r1
      have hown := SK.out.1
      have hsz := hbl.size
      have hX : ∃ x, nth ch j = x ∧ 0 ≤ x ∧ x ≤ 255 ∧ ((j : Int) < (nc : Int) → ∃ b2 o2, ac = some ⟨b2, o2, none⟩ ∧ wr.cell? ⟨b2, o2 + j, none⟩ = some (.int .u8 x)) ∧ (¬ (j : Int) < (nc : Int) → x = 0) := by
        by_cases hjc : j < nc
        · have hjl : j < ch.length := by rw [HC.out.eln]; exact hjc
          obtain ⟨b2, o2, ha2, hc2⟩ := (HC.out.mem.keep hbl).get hjl
          have hw := u8_of_wf (HC.out.wf j hjl)
          exact ⟨_, rfl, hw.1, hw.2, fun _ => ⟨b2, o2, ha2, hc2 j hjl⟩, fun h => by omega⟩
        · exact ⟨_, rfl, by rw [nth_out (by rw [HC.out.eln]; exact hjc)]; omega, by rw [nth_out (by rw [HC.out.eln]; exact hjc)]; omega, fun h => by omega, fun _ => nth_out (by rw [HC.out.eln]; exact hjc)⟩
      have hY : ∃ y, nth lo j = y ∧ ((j : Int) < (nl : Int) → ∃ b3 o3, al = some ⟨b3, o3, none⟩ ∧ wr.cell? ⟨b3, o3 + j, none⟩ = some (.int .i64 y)) ∧ (¬ (j : Int) < (nl : Int) → y = 0) := by
        by_cases hjc : j < nl
        · have hjl : j < lo.length := by rw [HO.out.2]; exact hjc
          obtain ⟨b3, o3, ha3, hc3⟩ := (HO.out.1.keep hbl).get hjl
          exact ⟨_, rfl, fun _ => ⟨b3, o3, ha3, hc3 j hjl⟩, fun h => by omega⟩
        · exact ⟨_, rfl, fun h => by omega, fun _ => nth_out (by rw [HO.out.2]; exact hjc)⟩
      obtain ⟨x, hx, x0, x255, hxc, hxn⟩ := hX
      obtain ⟨y, hy, hyc, hyn⟩ := hY
      rw [hx, hy] at HT
      rw [hy] at q2 q3
      obtain ⟨d, hd⟩ : ∃ d, (m : Int) + 2 - y = d := ⟨_, rfl⟩
      rw [hd] at HT
      have d1 : 1 ≤ d := by omega
      have hdm := And.intro (Int.emod_nonneg x (by omega : d ≠ 0)) (Int.emod_lt_of_pos x (by omega : 0 < d))
      obtain ⟨z, hz⟩ : ∃ z, x % d = z := ⟨_, rfl⟩
      rw [hz] at HT hdm
      have d0 : ¬ d = 0 := by omega
      have m2 : (m : Int) + 2 ≤ 6 := by omega
      have wa : wrap64 (y + z) = y + z := by unfold wrap64; omega
      clear hbl hx hy
      have HD : Hid (m + 2 - y = d) := hd
      by_cases g1 : (j : Int) < (nc : Int)
      · obtain ⟨b2, o2, ha2, r2⟩ := hxc g1
        clear hxc hxn
        subst ha2
        by_cases g2 : (j : Int) < (nl : Int)
        · obtain ⟨b3, o3, ha3, r3⟩ := hyc g2
          clear hyc hyn
          subst ha3
          as_aux_lemma =>
            go_wp2_with (first | (at_builtin; refine wpList_append_lies _ rfl (.tmp 34) (.tmp 48) 24 rfl w.heap.size 3 i0 _ 1 8 Tryd.underlying24 hi hz0 hz1 hz2 rfl (by decide) _ _ _ rfl (hown.alloc _) ⟨wr.heap.size, 0, none⟩ 1 1 [.int .i64 (y + z)] rfl rfl (cell_one_new _ _ _) (by intro u hu; simp at hu; subst hu; rfl) (by decide) (by unfold maxLen; omega) (by omega) (by simp; omega) _ rfl ?_) | go_in)
            intro g cap3 w3 hown3 hgrow hat hglt
            have S3 : Aside (w3.ownsRow w.heap.size 3 1 (.slice (some ⟨g, 0, none⟩) (j + 1) cap3) (j + 1) (vals (L.take (j + 1))) ∧ Below w.heap.size w w3) :=
              ⟨by rw [HT.out]; exact hown3, (SK.out.2.alloc hsz _).grown hgrow (by simp; omega) fun q hq => (SK.out.1.lt q hq).1⟩
            clear hown3 hgrow hat hglt hown SK
            go_wp2
            go_roundg (n - (j + 1))
            case measure => omega
            case rel => exact ⟨j + 1, by go_num, by omega, by omega, S3⟩
        · have hy0 := hyn g2
          clear hyc hyn
          have hd2 : (m : Int) + 2 = d := by omega
          rw [hy0, Int.zero_add] at HT
          clear HD hd wa q2 q3
          subst hy0
          as_aux_lemma =>
            go_wp2_with (first | (at_builtin; refine wpList_append_lies _ rfl (.tmp 34) (.tmp 48) 24 rfl w.heap.size 3 i0 _ 1 8 Tryd.underlying24 hi hz0 hz1 hz2 rfl (by decide) _ _ _ rfl (hown.alloc _) ⟨wr.heap.size, 0, none⟩ 1 1 [.int .i64 (z)] rfl rfl (cell_one_new _ _ _) (by intro u hu; simp at hu; subst hu; rfl) (by decide) (by unfold maxLen; omega) (by omega) (by simp; omega) _ rfl ?_) | go_in)
            intro g cap3 w3 hown3 hgrow hat hglt
            have S3 : Aside (w3.ownsRow w.heap.size 3 1 (.slice (some ⟨g, 0, none⟩) (j + 1) cap3) (j + 1) (vals (L.take (j + 1))) ∧ Below w.heap.size w w3) :=
              ⟨by rw [HT.out]; exact hown3, (SK.out.2.alloc hsz _).grown hgrow (by simp; omega) fun q hq => (SK.out.1.lt q hq).1⟩
            clear hown3 hgrow hat hglt hown SK
            go_wp2
            go_roundg (n - (j + 1))
            case measure => omega
            case rel => exact ⟨j + 1, by go_num, by omega, by omega, S3⟩
      · have hx0 := hxn g1
        clear hxc hxn
        subst hx0
        have hz3 : z = 0 := by rw [← hz]; exact Int.zero_emod _
        rw [hz3, Int.add_zero] at HT
        clear hz
        subst hz3
        by_cases g2 : (j : Int) < (nl : Int)
        · obtain ⟨b3, o3, ha3, r3⟩ := hyc g2
          clear hyc hyn
          subst ha3
          as_aux_lemma =>
            go_wp2_with (first | (at_builtin; refine wpList_append_lies _ rfl (.tmp 34) (.tmp 48) 24 rfl w.heap.size 3 i0 _ 1 8 Tryd.underlying24 hi hz0 hz1 hz2 rfl (by decide) _ _ _ rfl (hown.alloc _) ⟨wr.heap.size, 0, none⟩ 1 1 [.int .i64 (y)] rfl rfl (cell_one_new _ _ _) (by intro u hu; simp at hu; subst hu; rfl) (by decide) (by unfold maxLen; omega) (by omega) (by simp; omega) _ rfl ?_) | go_in)
            intro g cap3 w3 hown3 hgrow hat hglt
            have S3 : Aside (w3.ownsRow w.heap.size 3 1 (.slice (some ⟨g, 0, none⟩) (j + 1) cap3) (j + 1) (vals (L.take (j + 1))) ∧ Below w.heap.size w w3) :=
              ⟨by rw [HT.out]; exact hown3, (SK.out.2.alloc hsz _).grown hgrow (by simp; omega) fun q hq => (SK.out.1.lt q hq).1⟩
            clear hown3 hgrow hat hglt hown SK
            go_wp2
            go_roundg (n - (j + 1))
            case measure => omega
            case rel => exact ⟨j + 1, by go_num, by omega, by omega, S3⟩
        · have hy0 := hyn g2
          clear hyc hyn
          have hd2 : (m : Int) + 2 = d := by omega
          rw [hy0] at HT
          clear HD hd wa q2 q3
          subst hy0
          as_aux_lemma =>
            go_wp2_with (first | (at_builtin; refine wpList_append_lies _ rfl (.tmp 34) (.tmp 48) 24 rfl w.heap.size 3 i0 _ 1 8 Tryd.underlying24 hi hz0 hz1 hz2 rfl (by decide) _ _ _ rfl (hown.alloc _) ⟨wr.heap.size, 0, none⟩ 1 1 [.int .i64 (0)] rfl rfl (cell_one_new _ _ _) (by intro u hu; simp at hu; subst hu; rfl) (by decide) (by unfold maxLen; omega) (by omega) (by simp; omega) _ rfl ?_) | go_in)
            intro g cap3 w3 hown3 hgrow hat hglt
            have S3 : Aside (w3.ownsRow w.heap.size 3 1 (.slice (some ⟨g, 0, none⟩) (j + 1) cap3) (j + 1) (vals (L.take (j + 1))) ∧ Below w.heap.size w w3) :=
              ⟨by rw [HT.out]; exact hown3, (SK.out.2.alloc hsz _).grown hgrow (by simp; omega) fun q hq => (SK.out.1.lt q hq).1⟩
            clear hown3 hgrow hat hglt hown SK
            go_wp2
            go_roundg (n - (j + 1))
            case measure => omega
            case rel => exact ⟨j + 1, by go_num, by omega, by omega, S3⟩
    · have hltz : ¬ (j : Int) < (n : Int) := by omega
      have hown := SK.out.1
      rw [List.take_of_length_le (by rw [HL.out.2.1]; omega), show j = L.length by rw [HL.out.2.1]; omega] at hown
      have HO2 : Aside _ := hown
      clear hown
      go_wp2
      go_ret
      exact ⟨_, rfl, HO2.out, SK.out.2⟩
end Go.Proofs.YtgimknplckkiaaaDoor.dims

namespace Go.Proofs.YtgimknplckkiaaaDoor.dice
open Go.ChangeShapes Go.WideShapes Go.ChangeAt Go.RowKit Go.Deep Go.Joins
open Go.Proofs.YtgimknplckkiaaaDoor.dims
set_option linter.unusedVariables false
set_option maxRecDepth 100000

/-- a list: where it lies, and its numbers -/
structure Kr where
  a : Option Addr
  cap : Nat
  l : List Int
def kn (ks : List Kr) (i : Nat) : Kr := ks.getD i ⟨none, 0, []⟩

/-- lists of numbers at an address -/
def KeysIn (k : IntKind) (W : World) (a : Option Addr) (ks : List Kr) : Prop :=
  ks = [] ∨ ∃ b off, a = some ⟨b, off, none⟩ ∧ ∀ i, i < ks.length → W.cell? ⟨b, off + i, none⟩ = some (.slice (kn ks i).a (kn ks i).l.length (kn ks i).cap) ∧ Nums k W (kn ks i).a (kn ks i).l.length (kn ks i).cap (kn ks i).l
theorem KeysIn.keep {k : IntKind} {w w1 : World} {a : Option Addr} {ks : List Kr} (h : KeysIn k w a ks) (hb : Below w.heap.size w w1) : KeysIn k w1 a ks := by
  rcases h with h | ⟨b, off, ha, hc⟩
  · exact .inl h
  · exact .inr ⟨b, off, ha, fun i hi => ⟨(hb.cell (p := ⟨b, off + i, none⟩) (cell_lt (hc i hi).1)).trans (hc i hi).1, (hc i hi).2.keep hb⟩⟩
theorem KeysIn.get {k : IntKind} {w : World} {a : Option Addr} {ks : List Kr} (h : KeysIn k w a ks) {j : Nat} (hj : j < ks.length) : ∃ b off, a = some ⟨b, off, none⟩ ∧ ∀ i, i < ks.length → w.cell? ⟨b, off + i, none⟩ = some (.slice (kn ks i).a (kn ks i).l.length (kn ks i).cap) ∧ Nums k w (kn ks i).a (kn ks i).l.length (kn ks i).cap (kn ks i).l := by
  rcases h with rfl | h
  · simp at hj
  · exact h

set_option maxRecDepth 100000 in
theorem keys_open {H : Type} {enc : TypeId × Value → H} {W : World} {base : Nat} {spare : Nat → Bool} {held : Bool} {fuel : Nat} {t e g : TypeId} {k : IntKind} {a : Option Addr} {len cap : Nat} {x : DataW H × List MemPlace}
    (ht : Tryd.prog.underlying t = some (.slice e)) (he : Tryd.prog.underlying e = some (.slice g)) (hg : Tryd.prog.underlying g = some (.int k)) (hc : Tryd.prog.cellsOf g = 1) (n1 : Tryd.prog.cellsOf e = 1)
    (h : DataW.trod enc Tryd.prog W base spare held fuel t [.slice a len cap] = some x) : ∃ ks, KeysIn k W a ks ∧ ks.length = len ∧ len ≤ cap ∧ cap ≤ maxLen := by
  rcases open_slice ht h with ⟨h0, _⟩ | ⟨a', len', cap', m, n, D, Pl, hcs, hb, hl, hm, hmm, _, hx⟩
  · simp at h0
    obtain ⟨rfl, rfl, rfl⟩ := h0
    exact ⟨[], .inl rfl, rfl, Nat.le_refl _, Nat.zero_le _⟩
  · simp at hcs
    obtain ⟨rfl, rfl, rfl⟩ := hcs
    by_cases hz : len = 0
    · subst hz; exact ⟨[], .inl rfl, rfl, hl, hm⟩
    · have hlm : len ≤ m := by rw [hmm]; split <;> omega
      have each : ∀ i, i < len → ∃ d : Kr, W.cell? (a'.add i) = some (.slice d.a d.l.length d.cap) ∧ Nums k W d.a d.l.length d.cap d.l := by
        intro i hi
        obtain ⟨cs', h1, h2⟩ := hx i (by omega)
        rw [n1] at h1
        obtain ⟨_, hlen, hget⟩ := World.cells?_some h1
        match cs', hlen with
        | [c0], _ =>
          have hsl : ∃ a len cap, c0 = .slice a len cap := by
            rcases open_ints he hg hc h2 with ⟨hcs, _⟩ | ⟨y, l, c, zs, hcs, _⟩
            · simp only [List.cons.injEq, and_true] at hcs; exact ⟨_, _, _, hcs⟩
            · simp only [List.cons.injEq, and_true] at hcs; exact ⟨_, _, _, hcs⟩
          obtain ⟨ka, kl, kc, rfl⟩ := hsl
          obtain ⟨l, hN⟩ := nums_open he hg hc h2
          obtain rfl := hN.eln
          refine ⟨⟨ka, kc, l⟩, ?_, hN⟩
          have := hget 0 (by omega)
          simpa [Addr.add] using this
      obtain ⟨d0, hc0, _⟩ := each 0 (by omega)
      obtain ⟨b, off, spot⟩ := a'
      have hspot : spot = none := by
        have := World.cell?_spot hc0
        simpa [Addr.add] using this
      subst hspot
      obtain ⟨f, hf⟩ : ∃ f : Nat → Kr, ∀ i, i < len → W.cell? ((⟨b, off, none⟩ : Addr).add i) = some (.slice (f i).a (f i).l.length (f i).cap) ∧ Nums k W (f i).a (f i).l.length (f i).cap (f i).l := by
        refine ⟨fun i => if h : i < len then Classical.choose (each i h) else ⟨none, 0, []⟩, fun i hi => ?_⟩
        simp only [hi, dif_pos]
        exact Classical.choose_spec (each i hi)
      refine ⟨(List.range len).map f, .inr ⟨b, off, rfl, fun i hi => ?_⟩, by simp, hl, hm⟩
      simp only [List.length_map, List.length_range] at hi
      have hn : kn ((List.range len).map f) i = f i := by simp [kn, hi]
      have := hf i hi
      rw [addr_add] at this
      rw [hn]; exact this
end Go.Proofs.YtgimknplckkiaaaDoor.dice
