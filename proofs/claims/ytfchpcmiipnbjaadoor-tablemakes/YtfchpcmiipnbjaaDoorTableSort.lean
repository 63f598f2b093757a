/-
  The contract of the library's sort at rows: what rises by keys, of the same rows.
-/
import Derived.Test.YtfchpcmiipnbjaaDoorTableSame
import Derived.Test.YtfchpcmiipnbjaaDoorTableLaySort
namespace Go.Proofs.YtfchpcmiipnbjaaDoor.table
open Go.ChangeShapes Go.WideShapes Go.ChangeAt Go.RowKit Go.Deep
open Go.Proofs.YtfchpcmiipnbjaaDoor.dims (nth Ints cell_lt cmpL cmpL_zero cmpL_flip)
open Go.Proofs.YtfchpcmiipnbjaaDoor.cell (C4 mrg all one zero In64)
set_option linter.unusedVariables false
set_option maxRecDepth 100000

theorem sortWorld_below {α : Type} [Inhabited α] (enc : α → List Value) (k : Nat) (w : World) (blk off n : Nat) (d : Array α) (os : Array Obj) {B : Nat} (hB : B ≤ blk) (hs : B ≤ w.heap.size) : Below B w (sortWorldK enc k w blk off n d os) := by
  unfold sortWorldK Sort.putRowK Sort.putRow Sort.mapBlock Sort.grow Sort.ahead
  refine ⟨rfl, rfl, rfl, by simp, fun i hi => ?_⟩
  show ((w.heap.modify blk _) ++ os)[i]? = _
  rw [Array.getElem?_append_left (by simp; omega), Array.getElem?_modify, if_neg (by omega)]

/-- a key that lies below a block -/
def Low (B : Nat) (a : Option Addr) (l : List Int) : Prop := l = [] ∨ ∃ b off, a = some ⟨b, off, none⟩ ∧ b < B
theorem KeyOk.low {w : World} {a : Option Addr} {n cap : Nat} {l : List Int} (h : KeyOk w a n cap l) : Low w.heap.size a l := by
  rcases h.mem with e | ⟨b, off, ha, hc⟩
  · exact .inl e
  · by_cases e : l = []
    · exact .inl e
    · exact .inr ⟨b, off, ha, cell_lt (hc 0 (by cases l <;> simp_all))⟩
theorem KeyOk.keepB {w w1 : World} {B : Nat} {a : Option Addr} {n cap : Nat} {l : List Int} (h : KeyOk w a n cap l) (hL : Low B a l) (hb : Below B w w1) : KeyOk w1 a n cap l := by
  refine ⟨?_, h.len, h.lec, h.max, h.wf⟩
  rcases hL with e | ⟨b, off, ha, hlt⟩
  · exact .inl e
  · rcases h.mem with e | ⟨b2, off2, ha2, hc⟩
    · exact .inl e
    · rw [ha] at ha2
      injection ha2 with ha2
      injection ha2 with e1 e2
      subst e1 e2
      exact .inr ⟨b, off, ha, fun i hi => (hb.cell (p := ⟨b, off + i, none⟩) hlt).trans (hc i hi)⟩

/-- rows whose keys can be read -/
abbrev Ok (w : World) (B : Nat) : Type := { r : Rw // KeyOk w r.a r.k.length r.cap r.k ∧ Low B r.a r.k }
def encOk {w : World} {B : Nat} (x : Ok w B) : List Value := rowCells x.1
def cf {w : World} {B : Nat} (x y : Ok w B) : Int := cmpL x.1.k y.1.k

theorem lt_cf {w : World} {B : Nat} (x y : Ok w B) : ltOf cf x y = decide (cmpL x.1.k y.1.k < 0) := rfl
theorem swo_cf (w : World) (B : Nat) : Sort.SWO (ltOf (cf (w := w) (B := B))) := {
  irrefl := fun x => by rw [lt_cf, cmpL_self]; rfl
  trans := fun x y z h1 h2 => by
    rw [lt_cf] at *
    exact decide_eq_true (cmpL_trans (of_decide_eq_true h1) (of_decide_eq_true h2))
  ntrans := fun x y z h1 h2 => by
    rw [lt_cf] at *
    have g1 := of_decide_eq_false h1
    have g2 := of_decide_eq_false h2
    refine decide_eq_false fun h => ?_
    by_cases e1 : cmpL x.1.k y.1.k = 0
    · have := (cmpL_zero _ _).1 e1; rw [this] at h; exact g2 h
    · by_cases e2 : cmpL y.1.k z.1.k = 0
      · have := (cmpL_zero _ _).1 e2; rw [← this] at h; exact g1 h
      · have := cmpL_trans (cmpL_gt g2 e2) (cmpL_gt g1 e1)
        rw [cmpL_flip] at this; omega }

theorem cmp_lays (w : World) (B : Nat) (hB : B ≤ w.heap.size) (blk n : Nat) (hblk : B ≤ blk) [Inhabited (Ok w B)] : CmpLays Tryd.prog 65 #[] (encOk (w := w) (B := B)) 5 cf blk 0 n w :=
  fun m os dk hs x y => by
    have hW : Below B w (sortWorldK encOk 5 w blk 0 m dk os) := sortWorld_below _ _ _ _ _ _ _ _ hblk hB
    refine (closure_any x.1 y.1 _ (x.2.1.keepB x.2.2 hW) (y.2.1.keepB y.2.2 hW)).mono ?_
    rintro e w' ⟨he, o1, o2, hw⟩
    exact ⟨he, 0, #[o1, o2], by rw [hw, Sort.alloc_eq_grow, Sort.alloc_eq_grow, Sort.grow_grow]; rfl⟩

theorem oks {w : World} {B : Nat} {rs : List Rw} (hk : ∀ r ∈ rs, KeyOk w r.a r.k.length r.cap r.k ∧ Low B r.a r.k) : ∃ ds : List (Ok w B), ds.map (·.1) = rs := by
  induction rs with
  | nil => exact ⟨[], rfl⟩
  | cons r rs ih =>
    obtain ⟨ds, e⟩ := ih fun x hx => hk x (by simp [hx])
    exact ⟨⟨r, hk r (by simp)⟩ :: ds, by simp [e]⟩

theorem holds_of {w : World} {B : Nat} [Inhabited (Ok w B)] {base blk cap : Nat} {rs : List Rw} {ds : List (Ok w B)} (e : ds.map (·.1) = rs) (hown : w.ownsRow base 57 5 (.slice (some ⟨blk, 0, none⟩) rs.length cap) rs.length (flatR rs)) : Sort.HoldsK encOk 5 w blk 0 ds.toArray := by
  intro j hj
  have hl : ds.length = rs.length := by rw [← e]; simp
  rw [Sort.size_flatK, List.size_toArray] at hj
  refine ⟨?_, World.ownsRow.frozenAt hown _⟩
  rw [Nat.zero_add, World.ownsRow.cellAt hown j (by omega), Sort.get_flatK _ _ _ _ (by simpa using hj)]
  have hi : j / 5 < rs.length := by omega
  have hj5 : j % 5 < 5 := Nat.mod_lt _ (by omega)
  have ej : j = j / 5 * 5 + j % 5 := by omega
  have e1 : rwn rs (j / 5) = (ds.toArray[j / 5]!).1 := by
    subst e
    have h2 : j / 5 < ds.length := by omega
    simp [rwn, h2]
  conv => lhs; rw [ej]
  rw [flatR_get rs _ _ hi hj5, e1]
  show (rowCells _)[j % 5]? = some (id ((rowCells _)[j % 5]!))
  have hlen : j % 5 < (rowCells (ds.toArray[j / 5]!).1).length := by simp [rowCells]; omega
  rw [List.getElem?_eq_getElem hlen]
  show some _ = some ((rowCells _)[j % 5]!)
  rw [List.getElem!_of_getElem? (List.getElem?_eq_getElem hlen)]

set_option maxHeartbeats 1000000 in
theorem sort_any (w : World) (B : Nat) (hB : B ≤ w.heap.size) (blk cap : Nat) (hblk : B ≤ blk) (rs : List Rw) (hk : ∀ r ∈ rs, KeyOk w r.a r.k.length r.cap r.k ∧ Low B r.a r.k)
    (hown : w.ownsRow B 57 5 (.slice (some ⟨blk, 0, none⟩) rs.length cap) rs.length (flatR rs)) (hn : rs.length ≤ 1000000) :
    Calls Tryd.prog 64 #[.slice (some ⟨blk, 0, none⟩) rs.length cap, .func (.func 65) #[] #[]] w
      fun e w' => e = .returned (.tuple #[]) ∧ ∃ rs' : List Rw, rs'.Perm rs ∧ (rs'.Pairwise fun x y => ¬ cmpL y.k x.k < 0) ∧ RowsIn w' (some ⟨blk, 0, none⟩) rs' ∧ Below B w w' := by
  letI : Inhabited (Ok w B) := ⟨⟨⟨none, 0, [], zero⟩, KeyOk.nil w, .inl rfl⟩⟩
  obtain ⟨ds, e⟩ := oks hk
  have hl : ds.length = rs.length := by rw [← e]; simp
  have hbl : blk < w.heap.size := (hown.lt blk rfl).2
  have hH := holds_of e hown
  have hcon := AnyQ.slices_SortFunc Tryd.laysSort 5 Tryd.isAgg57 Tryd.sizeOf57 encOk (fun _ => rfl) (fun x => rowCells_one x.1) cf (swo_cf w B) 65 #[] blk 0 cap ds.toArray w
    (enters_of Tryd.func65 (by kernel_rfl) rfl) (cmp_lays w B hB blk _ hblk) hH hbl (by simp; omega)
  change Calls Tryd.prog 64 _ _ _ at hcon
  rw [show ds.toArray.size = rs.length by simpa using hl] at hcon
  refine hcon.mono ?_
  rintro e1 w' ⟨rfl, d', n, os, ⟨hs, _, hperm⟩, hsort, rfl⟩
  have hs' : d'.size = rs.length := by rw [hs]; simpa using hl
  have hW : Below B w (sortWorldK encOk 5 w blk 0 n d' os) := sortWorld_below _ _ _ _ _ _ _ _ hblk hB
  refine ⟨rfl, d'.toList.map (·.1), ?_, ?_, ?_, hW⟩
  · have : d'.toList.Perm ds := by
      have e1 : d'.extract 0 rs.length = d' := by rw [← hs']; simp
      have e2 : ds.toArray.extract 0 rs.length = ds.toArray := by rw [← hl]; simp
      rw [e1, e2] at hperm
      simpa using hperm
    rw [← e]; exact this.map _
  · rw [List.pairwise_map, List.pairwise_iff_getElem]
    intro i j hi hj hij
    have := hsort i j (Nat.zero_le _) hij (by simpa [hs'] using hj)
    rw [lt_cf] at this
    have := of_decide_eq_false this
    have hi' : i < d'.size := by simpa using hi
    have hj' : j < d'.size := by simpa using hj
    rw [getElem!_pos d' i hi', getElem!_pos d' j hj'] at this
    simpa using this
  · have hH2 := holdsK_sortWorldK encOk 5 w blk 0 n ds.toArray d' os hbl hH hs
    refine .inr ⟨blk, 0, rfl, fun i hi => ?_⟩
    have hi' : i < d'.size := by simpa using hi
    have ei : rwn (d'.toList.map (·.1)) i = (d'[i]!).1 := by simp [rwn, hi']
    rw [ei]
    refine ⟨?_, (d'[i]!).2.1.keepB (d'[i]!).2.2 hW⟩
    have c := fun j (hj : j < 5) => (hH2.cell hi' hj).1
    unfold CellsAt
    exact ⟨c 0 (by omega), c 1 (by omega), c 2 (by omega), c 3 (by omega), c 4 (by omega)⟩
end Go.Proofs.YtfchpcmiipnbjaaDoor.table
