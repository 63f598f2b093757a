/-
  The contract of dims.At: a key of some levels at others.
-/
import Derived.Test.YtgimknplckkiaaaDoorDimsJ
import Derived.Test.YtgimknplckkiaaaDoorDimsUp
namespace Go.Proofs.YtgimknplckkiaaaDoor.dims
open Go.ChangeShapes Go.WideShapes Go.ChangeAt Go.RowKit Go.Deep
set_option linter.unusedVariables false
set_option maxRecDepth 100000

def atV (ds : List Dm) (f t k : List Int) (i : Nat) : Int := raiseV (dn ds i).l (nth f i) (nth t i) (nth k i)
def atL (ds : List Dm) (f t k : List Int) : List Int := (List.range ds.length).map (atV ds f t k)
/-- may it be asked? -/
def atOk (ds : List Dm) (f t k : List Int) : Bool := sndL ds && (decide (f.length = ds.length) && (decide (t.length = ds.length) && decide (k.length = ds.length)))
def atR (ds : List Dm) (f t k : List Int) : List Int := if atOk ds f t k = true then atL ds f t k else []

theorem atL_len (ds : List Dm) (f t k : List Int) : (atL ds f t k).length = ds.length := by simp [atL]
theorem atL_nth (ds : List Dm) (f t k : List Int) {i : Nat} (hi : i < ds.length) : nth (atL ds f t k) i = atV ds f t k i := by simp [atL, nth, hi]

theorem made_get (z : Value) (n j : Nat) (h : j < n) : (madeCells #[z] n)[j]? = some z := by
  have e := toList_madeCells_one z n
  rw [← Array.getElem?_toList, e, List.getElem?_replicate, if_pos h]

/-- the loop's world: k places are done -/
structure AL (w : World) (B n : Nat) (vf : Nat → Int) (k : Nat) (W : World) : Prop where
  bel : Below w.heap.size w W
  low : w.heap.size ≤ B
  siz : B < W.heap.size
  row : ∀ j, j < n → W.cell? ⟨B, j, none⟩ = some (.int .i64 (if j < k then vf j else 0)) ∧ W.frozen? ⟨B, j, none⟩ = false

theorem AL.start {w W1 : World} (hb : Below w.heap.size w W1) (n : Nat) (vf : Nat → Int) : AL w W1.heap.size n vf 0 (W1.alloc (.cells (madeCells #[.int .i64 0] n) 3)) := by
  refine ⟨hb.alloc hb.size _, hb.size, by simp, fun j hj => ⟨?_, by simp [go_sem]⟩⟩
  rw [if_neg (by omega)]
  simp [go_sem, made_get _ _ _ hj]

theorem AL.after {w : World} {B n : Nat} {vf : Nat → Int} {k : Nat} {W w2 : World} {o : Obj} (h : AL w B n vf k W) (hb2 : Below (W.alloc o).drew.heap.size (W.alloc o).drew w2) : AL w B n vf k w2 := by
  have hz := h.siz
  have e : (W.alloc o).drew.heap.size = W.heap.size + 1 := by show (W.alloc o).heap.size = _; simp
  have hs : W.heap.size < w2.heap.size := by have := hb2.size; omega
  have hl := h.low
  refine ⟨?_, hl, by omega, fun j hj => ⟨?_, ?_⟩⟩
  · exact ((h.bel.alloc h.bel.size o).drew).trans (hb2.mono (by omega))
  · rw [hb2.cell (p := ⟨B, j, none⟩) (by show B < _; omega)]
    show (W.alloc o).cell? ⟨B, j, none⟩ = _
    simp only [go_sem, hz]
    exact (h.row j hj).1
  · rw [hb2.frozen (p := ⟨B, j, none⟩) (by show B < _; omega)]
    show (W.alloc o).frozen? ⟨B, j, none⟩ = _
    simp only [go_sem, hz]
    exact (h.row j hj).2

theorem AL.step {w : World} {B n : Nat} {vf : Nat → Int} {k : Nat} {W : World} {v : Int} (h : AL w B n vf k W) (hk : k < n) (hv : vf k = v) : AL w B n vf (k + 1) (W.setCell ⟨B, k, none⟩ (.int .i64 v)) := by
  refine ⟨h.bel.setCell h.low _, h.low, by simpa using h.siz, fun j hj => ⟨?_, by rw [World.frozen?_setCell]; exact (h.row j hj).2⟩⟩
  by_cases e : j = k
  · subst e
    rw [if_pos (by omega), hv]
    exact World.cell?_setCell_same _ _ _ (h.row j hj).1
  · rw [World.cell?_setCell_other _ _ _ _ (by intro e2; simp only [Addr.mk.injEq] at e2; omega), (h.row j hj).1]
    by_cases e3 : j < k
    · rw [if_pos e3, if_pos (by omega)]
    · rw [if_neg e3, if_neg (by omega)]

theorem kept_cell {W w2 : World} {o : Obj} (hb : Below (W.alloc o).drew.heap.size (W.alloc o).drew w2) {c j : Nat} {v : Value} (hp : c < W.heap.size) (h : W.cell? ⟨c, j, none⟩ = some v) : w2.cell? ⟨c, j, none⟩ = some v := by
  rw [hb.cell (p := ⟨c, j, none⟩) (by show c < (W.alloc o).heap.size; simp; omega)]
  show (W.alloc o).cell? ⟨c, j, none⟩ = _
  simp [go_sem, hp, h]
theorem kept_frozen {W w2 : World} {o : Obj} (hb : Below (W.alloc o).drew.heap.size (W.alloc o).drew w2) {c j : Nat} (hp : c < W.heap.size) (h : W.frozen? ⟨c, j, none⟩ = false) : w2.frozen? ⟨c, j, none⟩ = false := by
  rw [hb.frozen (p := ⟨c, j, none⟩) (by show c < (W.alloc o).heap.size; simp; omega)]
  show (W.alloc o).frozen? ⟨c, j, none⟩ = _
  simp [go_sem, hp, h]

theorem AL.out {w : World} {B n : Nat} {vf : Nat → Int} {W : World} {ds : List Dm} {f t k : List Int} (h : AL w B n vf n W) (hn : ds.length = n) (hn4 : n ≤ 4) (hv : vf = atV ds f t k) : RowCap W (.slice (some ⟨B, 0, none⟩) n n) (atL ds f t k) := by
  have e : (atL ds f t k).length = n := by rw [atL_len, hn]
  refine ⟨some ⟨B, 0, none⟩, n, by rw [e], .inr ⟨B, 0, rfl, fun i hi => ?_⟩, by omega, by omega⟩
  have hi2 : i < n := by omega
  have := (h.row i hi2).1
  rw [if_pos hi2] at this
  rw [atL_nth _ _ _ _ (by omega), ← hv, Nat.zero_add]
  exact this

set_option maxHeartbeats 8000000 in
theorem at_cap (a a1 a2 a3 : Option Addr) (n cap c1 c2 c3 : Nat) (ds : List Dm) (f t k : List Int) (w : World) (hI : DimsIn w a ds) (hn : ds.length = n) (h1 : Ints w a1 f) (h2 : Ints w a2 t) (h3 : Ints w a3 k) (e1 : f.length = n) (e2 : t.length = n) (e3 : k.length = n) (hs : sndL ds = true) (hk : ∀ i, i < n → nth k i ≤ 9223372036854775807) :
    Calls Tryd.prog 49 #[.slice a n cap, .slice a1 n c1, .slice a2 n c2, .slice a3 n c3] w fun e w' => ∃ v, e = .returned v ∧ RowCap w' v (atL ds f t k) ∧ Below w.heap.size w w' := by
  have hn4 : n ≤ 4 := by unfold sndL at hs; rw [hn] at hs; simp at hs; omega
  have hall : ∀ i, i < n → SoundD (dn ds i).sz (dn ds i).l := fun i hi => by
    have hd : ds.all sndD = true := by unfold sndL at hs; simp only [Bool.and_eq_true] at hs; exact hs.2.2
    exact (sndB_iff _ _).1 (all_at hd (by omega))
  have hL := soundL_any a n cap ds w hI hn (by omega)
  rw [hs] at hL
  have HA : Aside (∀ i, i < n → SoundD (dn ds i).sz (dn ds i).l) := hall
  have HI : Aside (DimsIn w a ds ∧ ds.length = n) := ⟨hI, hn⟩
  have H1 : Aside (Ints w a1 f ∧ f.length = n) := ⟨h1, e1⟩
  have H2 : Aside (Ints w a2 t ∧ t.length = n) := ⟨h2, e2⟩
  have H3 : Aside (Ints w a3 k ∧ k.length = n) := ⟨h3, e3⟩
  have HKV : Aside (∀ i, i < n → nth k i ≤ 9223372036854775807) := hk
  clear hall hI hn h1 h2 h3 e1 e2 e3 hs hk
  have hm := run_make_row' (P := Tryd.prog) 24 3 (.int .i64 0) 8 Tryd.underlying24 info_int rfl .i64 .i64 n (by omega) (by omega)
  obtain ⟨vf, hvf⟩ : ∃ vf, vf = atV ds f t k := ⟨_, rfl⟩
  have HV : Hid (vf = atV ds f t k) := hvf
  clear hvf
  go_enter Tryd.func49, Tryd.ntmps49
  go_wp2_with fail
  refine hL.mono ?_
  rintro e W1 ⟨rfl, hb1⟩
  have SL : Aside (AL w W1.heap.size n vf 0 (W1.alloc (.cells (madeCells #[.int .i64 0] n) 3))) := AL.start hb1 n vf
  clear hb1 hL
  go_wp2_with fail
  go_loopg [41] n (fun g1 vi wr => ∃ (j : Nat), vi = .int .i64 j ∧ j ≤ n ∧ n - j ≤ g1 ∧ Aside (AL w W1.heap.size n vf j wr))
  case atStart => exact ⟨0, rfl, Nat.zero_le _, Nat.le_refl _, SL⟩
  case round =>
    clear SL
    obtain ⟨j, rfl, hj, hg1, SK⟩ := hrel
    by_cases hlt : j < n
    · have hltz : (j : Int) < (n : Int) := by omega
      have hbl := SK.out.bel
      obtain ⟨b, off, ha, hc⟩ := (HI.out.1.keep hbl).get (k := j) (by rw [HI.out.2]; exact hlt)
      obtain ⟨b1, o1, ha1, hc1⟩ := (H1.out.1.keep hbl).get (k := j) (by rw [H1.out.2]; exact hlt)
      obtain ⟨b2, o2, ha2, hc2⟩ := (H2.out.1.keep hbl).get (k := j) (by rw [H2.out.2]; exact hlt)
      obtain ⟨b3, o3, ha3, hc3⟩ := (H3.out.1.keep hbl).get (k := j) (by rw [H3.out.2]; exact hlt)
      subst ha
      subst ha1
      subst ha2
      subst ha3
      obtain ⟨r0, r1, ri, _⟩ := hc j (by rw [HI.out.2]; exact hlt)
      have p1 := hc1 j (by rw [H1.out.2]; exact hlt)
      have p2 := hc2 j (by rw [H2.out.2]; exact hlt)
      have p3 := hc3 j (by rw [H3.out.2]; exact hlt)
      have l1 := cell_lt p1
      have l2 := cell_lt p2
      have l3 := cell_lt p3
      have hS := HA.out j hlt
      have hr := fun W (h : Ints W (dn ds j).a (dn ds j).l) => raise_any (dn ds j).sz (dn ds j).a (dn ds j).l.length (dn ds j).cap (dn ds j).l (nth f j) (nth t j) (nth k j) W h rfl hS.2.2.2 (by have := hS.2.2.1; omega) (HKV.out j hlt)
      have ev : vf j = raiseV (dn ds j).l (nth f j) (nth t j) (nth k j) := by rw [HV.out]; rfl
      rw [← ev] at hr
      obtain ⟨r, hrr⟩ : ∃ r, vf j = r := ⟨_, rfl⟩
      rw [hrr] at hr
      have HR : Hid (vf j = r) := hrr
      clear ev hrr hc hc1 hc2 hc3 hS
      obtain ⟨cm, fm⟩ := SK.out.row j hlt
      have hz := SK.out.siz
      generalize (if j < j then vf j else 0) = m0 at cm
      generalize nth f j = q1 at p1 hr
      generalize nth t j = q2 at p2 hr
      generalize nth k j = q3 at p3 hr
      generalize (dn ds j).sz = t1 at r0 hr
      generalize (dn ds j).l.length = t3 at r1 hr
      generalize (dn ds j).cap = t4 at r1 hr
      have RI : Aside (Ints wr (dn ds j).a (dn ds j).l) := ri
      clear ri hbl
      generalize (dn ds j).a = t2 at r1 hr RI
      generalize (dn ds j).l = t5 at hr RI
      have hI2 : Ints (wr.alloc (.cells #[.int .i64 t1, .slice t2 t3 t4] 57)).drew t2 t5 := RI.out.keep (((Below.refl _ _).alloc (Nat.le_refl _) _).drew)
      have hC := hr _ hI2
      clear hr hI2
      go_wp2_with fail
      clear r0 r1
      go_region_with (go_at_call 76; refine hC.mono ?_; rintro e w2 ⟨rfl, hb2⟩; have cm2 := kept_cell hb2 hz cm; have fm2 := kept_frozen hb2 hz fm; have p1' := kept_cell hb2 l1 p1; have p2' := kept_cell hb2 l2 p2; have p3' := kept_cell hb2 l3 p3)
      all_goals
        have S1 : Aside (AL w W1.heap.size n vf (j + 1) (w2.setCell ⟨W1.heap.size, j, none⟩ (.int .i64 r))) := (SK.out.after hb2).step hlt HR.out
        clear hb2 cm2 fm2 p1' p2' p3' SK hC
        generalize w2.setCell ⟨W1.heap.size, j, none⟩ (.int .i64 r) = w3 at S1 ⊢
        go_wp2
        go_roundg (n - (j + 1))
        case measure => omega
        case rel => exact ⟨j + 1, by go_num, by omega, by omega, S1⟩
    · have hltz : ¬ (j : Int) < (n : Int) := by omega
      have e : j = n := by omega
      subst e
      have HO : Aside (RowCap wr (.slice (some ⟨W1.heap.size, 0, none⟩) j j) (atL ds f t k)) := SK.out.out HI.out.2 hn4 HV.out
      have SB : Aside (Below w.heap.size w wr) := SK.out.bel
      go_wp2
      go_ret
      exact ⟨_, rfl, HO.out, SB.out⟩
theorem at_ok (a a1 a2 a3 : Option Addr) (n cap c1 c2 c3 : Nat) (ds : List Dm) (f t k : List Int) (w : World) (hI : DimsIn w a ds) (hn : ds.length = n) (h1 : Ints w a1 f) (h2 : Ints w a2 t) (h3 : Ints w a3 k) (e1 : f.length = n) (e2 : t.length = n) (e3 : k.length = n) (hs : sndL ds = true) (hk : ∀ i, i < n → nth k i ≤ 9223372036854775807) :
    Calls Tryd.prog 49 #[.slice a n cap, .slice a1 n c1, .slice a2 n c2, .slice a3 n c3] w fun e w' => ∃ v, e = .returned v ∧ RowOut w' v (atL ds f t k) ∧ Below w.heap.size w w' :=
  (at_cap a a1 a2 a3 n cap c1 c2 c3 ds f t k w hI hn h1 h2 h3 e1 e2 e3 hs hk).mono fun e w' ⟨v, h1, h2, h3⟩ => ⟨v, h1, h2.out, h3⟩
end Go.Proofs.YtgimknplckkiaaaDoor.dims
