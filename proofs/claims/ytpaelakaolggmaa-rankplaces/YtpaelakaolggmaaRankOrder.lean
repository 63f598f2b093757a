/-
  The contract of rank.Order.
-/
import Derived.Test.YtpaelakaolggmaaRankSortStable
import Derived.Deep.OwnRows
import Derived.Deep.RegionWith
import Derived.Deep.CutRange
import Derived.Laws.OwnMore
namespace Go.Proofs.Ytpaelakaolggmaa.rank
open Go.ChangeShapes Go.WideShapes Go.ChangeAt Go.RowKit Go.Deep
open Go.Sort (swp PermIn SortedIn SWO swp_get swp_permIn permIn_refl permIn_trans permIn_mono permIn_all insInner insOuter)
set_option linter.unusedVariables false

/-- a cell, by its four numbers -/
structure C4 where
  n : Int
  s : Int
  lo : Int
  hi : Int

def nth (cs : List C4) (i : Nat) : C4 := cs.getD i ⟨0, 0, 0, 0⟩

/-- rows without keys, with these cells, at a place in memory -/
def RowsAt (w : World) (b off : Nat) (cs : List C4) : Prop :=
  ∀ i, i < cs.length → w.cell? ⟨b, off + i * 5, none⟩ = some (.slice none 0 0) ∧ w.cell? ⟨b, off + i * 5 + 1, none⟩ = some (.int .i64 (nth cs i).n) ∧ w.cell? ⟨b, off + i * 5 + 2, none⟩ = some (.int .i64 (nth cs i).s) ∧ w.cell? ⟨b, off + i * 5 + 3, none⟩ = some (.int .i64 (nth cs i).lo) ∧ w.cell? ⟨b, off + i * 5 + 4, none⟩ = some (.int .i64 (nth cs i).hi)

theorem info_float : (Try.prog.info? 26).map (fun i => (i.zero, i.size, i.bytes)) = some (some (.float .f64 0), 1, 8) := by kernel_rfl
theorem info_int : (Try.prog.info? 3).map (fun i => (i.zero, i.size, i.bytes)) = some (some (.int .i64 0), 1, 8) := by kernel_rfl

/-- the loop's world: k rows are done -/
structure OL (w : World) (B : Nat) (cs : List C4) (k : Nat) (ms pl : Nat → Nat) (W : World) : Prop where
  bel : Below B w W
  siz : B + 1 + 1 < W.heap.size
  box : W.cell? ⟨B + 1, 0, none⟩ = some (.slice (some ⟨B, 0, none⟩) cs.length cs.length)
  mea : ∀ j, j < cs.length → W.cell? ⟨B, j, none⟩ = some (.float .f64 (ms j)) ∧ W.frozen? ⟨B, j, none⟩ = false
  plc : ∀ j, j < cs.length → W.cell? ⟨B + 1 + 1, j, none⟩ = some (.int .i64 (pl j : Nat)) ∧ W.frozen? ⟨B + 1 + 1, j, none⟩ = false
  okm : ∀ j, j < k → meanOk (nth cs j).n (nth cs j).s (ms j)
  okp : ∀ j, j < k → pl j = j

theorem made_get (z : Value) (n j : Nat) (h : j < n) : (madeCells #[z] n)[j]? = some z := by
  have e := toList_madeCells_one z n
  rw [← Array.getElem?_toList, e, List.getElem?_replicate, if_pos h]

theorem OL.start (w : World) (cs : List C4) : OL w w.heap.size cs 0 (fun _ => 0) (fun _ => 0)
    (((w.alloc (.cells (madeCells #[.float .f64 0] cs.length) 26)).alloc (.cells #[.slice (some ⟨w.heap.size, 0, none⟩) cs.length cs.length] 51)).alloc (.cells (madeCells #[.int .i64 0] cs.length) 3)) := by
  refine ⟨?_, by simp, by simp [go_sem], fun j hj => ⟨?_, by simp [go_sem]⟩, fun j hj => ⟨?_, by simp [go_sem]⟩, fun j hj => by omega, fun j hj => by omega⟩
  · (repeat (first | with_reducible exact Below.refl _ _ | (with_reducible refine Below.drew ?_) | (with_reducible refine Below.alloc ?_ (by first | omega | (simp; done) | (simp; omega)) _) | (with_reducible refine Below.setCell ?_ (by first | exact Nat.le_refl _ | omega | (simp; done) | (simp; omega)) _)))
  · simp [go_sem, made_get _ _ _ hj]
  · simp [go_sem, made_get _ _ _ hj]

theorem kept_cell {W w2 : World} {o : Obj} (hb : Below (W.alloc o).drew.heap.size (W.alloc o).drew w2) {c j : Nat} {v : Value} (hp : c < W.heap.size) (h : W.cell? ⟨c, j, none⟩ = some v) : w2.cell? ⟨c, j, none⟩ = some v := by
  rw [hb.cell (p := ⟨c, j, none⟩) (by show c < (W.alloc o).heap.size; simp; omega)]
  show (W.alloc o).cell? ⟨c, j, none⟩ = _
  simp [go_sem, hp, h]
theorem kept_frozen {W w2 : World} {o : Obj} (hb : Below (W.alloc o).drew.heap.size (W.alloc o).drew w2) {c j : Nat} (hp : c < W.heap.size) (h : W.frozen? ⟨c, j, none⟩ = false) : w2.frozen? ⟨c, j, none⟩ = false := by
  rw [hb.frozen (p := ⟨c, j, none⟩) (by show c < (W.alloc o).heap.size; simp; omega)]
  show (W.alloc o).frozen? ⟨c, j, none⟩ = _
  simp [go_sem, hp, h]

theorem OL.after {w : World} {cs : List C4} {k B : Nat} {ms pl : Nat → Nat} {W w2 : World} {o : Obj} (h : OL w B cs k ms pl W) (hb2 : Below (W.alloc o).drew.heap.size (W.alloc o).drew w2) : OL w B cs k ms pl w2 := by
  have hz := h.siz
  have hs : W.heap.size < w2.heap.size := by have := hb2.size; have e : (W.alloc o).drew.heap.size = W.heap.size + 1 := by show (W.alloc o).heap.size = _; simp
                                             omega
  refine ⟨?_, by omega, kept_cell hb2 (by omega) h.box, fun j hj => ⟨kept_cell hb2 (by omega) (h.mea j hj).1, kept_frozen hb2 (by omega) (h.mea j hj).2⟩, fun j hj => ⟨kept_cell hb2 (by omega) (h.plc j hj).1, kept_frozen hb2 (by omega) (h.plc j hj).2⟩, h.okm, h.okp⟩
  exact ((h.bel.alloc (by omega) o).drew).trans (hb2.mono (by show B ≤ (W.alloc o).heap.size; simp; omega))

theorem set_same {W : World} {c j : Nat} {u v : Value} (h : W.cell? ⟨c, j, none⟩ = some u) : (W.setCell ⟨c, j, none⟩ v).cell? ⟨c, j, none⟩ = some v := World.cell?_setCell_same _ _ _ h
theorem set_other {W : World} {c j c' j' : Nat} {v : Value} (h : ¬ (c = c' ∧ j = j')) : (W.setCell ⟨c, j, none⟩ v).cell? ⟨c', j', none⟩ = W.cell? ⟨c', j', none⟩ :=
  World.cell?_setCell_other _ _ _ _ (by intro e; simp only [Addr.mk.injEq] at e; omega)

theorem OL.step1 {w : World} {cs : List C4} {k B v : Nat} {ms pl : Nat → Nat} {W : World} (h : OL w B cs k ms pl W) (hk : k < cs.length) : OL w B cs k (fun j => if j = k then v else ms j) pl (W.setCell ⟨B, k, none⟩ (.float .f64 v)) := by
  refine ⟨h.bel.setCell (Nat.le_refl _) _, by simpa using h.siz, ?_, fun j hj => ⟨?_, ?_⟩, fun j hj => ⟨?_, ?_⟩, fun j hj => ?_, h.okp⟩
  · rw [set_other (by omega)]; exact h.box
  · by_cases e : j = k
    · subst e; rw [if_pos rfl]; exact set_same (h.mea j hj).1
    · rw [if_neg e, set_other (by omega)]; exact (h.mea j hj).1
  · rw [World.frozen?_setCell]; exact (h.mea j hj).2
  · rw [set_other (by omega)]; exact (h.plc j hj).1
  · rw [World.frozen?_setCell]; exact (h.plc j hj).2
  · rw [if_neg (by omega)]; exact h.okm j hj

theorem OL.step2 {w : World} {cs : List C4} {k B : Nat} {ms pl : Nat → Nat} {W : World} (h : OL w B cs k ms pl W) (hk : k < cs.length) (hm : meanOk (nth cs k).n (nth cs k).s (ms k)) : OL w B cs (k + 1) ms (fun j => if j = k then k else pl j) (W.setCell ⟨B + 1 + 1, k, none⟩ (.int .i64 (k : Nat))) := by
  refine ⟨h.bel.setCell (by show B ≤ B + 1 + 1; omega) _, by simpa using h.siz, ?_, fun j hj => ⟨?_, ?_⟩, fun j hj => ⟨?_, ?_⟩, fun j hj => ?_, fun j hj => ?_⟩
  · rw [set_other (by omega)]; exact h.box
  · rw [set_other (by omega)]; exact (h.mea j hj).1
  · rw [World.frozen?_setCell]; exact (h.mea j hj).2
  · by_cases e : j = k
    · subst e; rw [if_pos rfl]; exact set_same (h.plc j hj).1
    · rw [if_neg e, set_other (by omega)]; exact (h.plc j hj).1
  · rw [World.frozen?_setCell]; exact (h.plc j hj).2
  · by_cases e : j = k
    · subst e; exact hm
    · exact h.okm j (by omega)
  · by_cases e : j = k
    · subst e; rw [if_pos rfl]
    · rw [if_neg e]; exact h.okp j (by omega)

set_option maxHeartbeats 4000000 in
theorem order_loop (cs : List C4) (b off cap : Nat) (w : World) (hb : b < w.heap.size) (hn : cs.length ≤ 35184372088832) (hR : RowsAt w b off cs)
    (P : Ending → World → Prop)
    (hS : ∀ (ms pl : Nat → Nat) (W : World), OL w w.heap.size cs cs.length ms pl W →
      Calls Try.prog 28 #[.slice (some ⟨w.heap.size + 1 + 1, 0, none⟩) cs.length cs.length, .func (.func 29) #[] #[.pointer (some ⟨w.heap.size + 1, 0, none⟩)]] W fun e w' => e = .returned (.tuple #[]) ∧ P (.returned (.slice (some ⟨w.heap.size + 1 + 1, 0, none⟩) cs.length cs.length)) w') :
    Calls Try.prog 23 #[.slice (some ⟨b, off, none⟩) cs.length cap] w P := by
  have S0 := OL.start w cs
  obtain ⟨n, hnn⟩ : ∃ n, n = cs.length := ⟨_, rfl⟩
  rw [← hnn] at hn hS S0 ⊢
  have HN : Hid (n = cs.length) := hnn
  have HS : Aside _ := hS
  have SS : Aside _ := S0
  clear hnn hS S0
  have hm1 := run_make_row' (P := Try.prog) 51 26 (.float .f64 0) 8 Try.underlying51 info_float rfl .i64 .i64 n (by omega) (by omega)
  have hm2 := run_make_row' (P := Try.prog) 45 3 (.int .i64 0) 8 Try.underlying45 info_int rfl .i64 .i64 n (by omega) (by omega)
  have hst := fun (w : World) (a : Addr) (b : Nat) (m : Mode) => run_store Try.prog w a (.float .f64 b) m rfl
  go_enter Try.func23, Try.ntmps23
  go_wp2_with fail
  go_loopg [15] n (fun g1 vi wr => ∃ (k : Nat) (ms pl : Nat → Nat), vi = .int .i64 k ∧ k ≤ n ∧ n - k ≤ g1 ∧ Aside (OL w w.heap.size cs k ms pl wr))
  case atStart => exact ⟨0, _, _, rfl, Nat.zero_le _, Nat.le_refl _, SS⟩
  case round =>
    clear SS
    obtain ⟨k, ms, pl, rfl, hk, hg1, SK⟩ := hrel
    by_cases hlt : k < n
    · have hltz : (k : Int) < (n : Int) := by omega
      have hlc : k < cs.length := by rw [← HN.out]; exact hlt
      obtain ⟨r0, r1, r2, r3, r4⟩ := hR k hlc
      have hbl := SK.out.bel
      rw [← hbl.cell (p := ⟨b, off + k * 5, none⟩) hb] at r0
      rw [← hbl.cell (p := ⟨b, off + k * 5 + 1, none⟩) hb] at r1
      rw [← hbl.cell (p := ⟨b, off + k * 5 + 2, none⟩) hb] at r2
      rw [← hbl.cell (p := ⟨b, off + k * 5 + 3, none⟩) hb] at r3
      rw [← hbl.cell (p := ⟨b, off + k * 5 + 4, none⟩) hb] at r4
      have hbox := SK.out.box
      rw [← HN.out] at hbox
      obtain ⟨cm, fm⟩ := SK.out.mea k hlc
      have hz := SK.out.siz
      have z0 : w.heap.size < wr.heap.size := by omega
      have z1 : w.heap.size + 1 < wr.heap.size := by omega
      clear hbl hz
      obtain ⟨c1, hc1⟩ : ∃ c, c = (nth cs k).n := ⟨_, rfl⟩
      obtain ⟨c2, hc2⟩ : ∃ c, c = (nth cs k).s := ⟨_, rfl⟩
      rw [← hc1] at r1
      rw [← hc2] at r2
      have HC : Hid (c1 = (nth cs k).n ∧ c2 = (nth cs k).s) := ⟨hc1, hc2⟩
      clear hc1 hc2
      generalize (nth cs k).lo = c3 at r3
      generalize (nth cs k).hi = c4 at r4
      generalize ms k = m0 at cm
      go_wp2_with fail
      clear r0 r1 r2 r3 r4
      go_region_with (go_at_call 13; refine (mean_any _ _ _ _ _).mono ?_; rintro e w2 ⟨v, hv, rfl, hb2⟩; have cm2 := kept_cell hb2 z0 cm; have bx2 := kept_cell hb2 z1 hbox; have fm2 := kept_frozen hb2 z0 fm)
      all_goals
        have S1 : Aside (OL w w.heap.size cs k (fun j => if j = k then v else ms j) pl (w2.setCell ⟨w.heap.size, k, none⟩ (.float .f64 v))) := (SK.out.after hb2).step1 hlc
        have HV : Hid (meanOk (nth cs k).n (nth cs k).s (if k = k then v else ms k)) := by show meanOk _ _ _; rw [if_pos rfl, ← HC.out.1, ← HC.out.2]; exact hv
        clear hb2 hv cm2 bx2 fm2 HC SK cm fm hbox
        generalize w2.setCell ⟨w.heap.size, k, none⟩ (.float .f64 v) = w3 at S1 ⊢
        obtain ⟨cp, fp⟩ := S1.out.plc k hlc
        have S2 : Aside (OL w w.heap.size cs (k + 1) (fun j => if j = k then v else ms j) (fun j => if j = k then k else pl j) (w3.setCell ⟨w.heap.size + 1 + 1, k, none⟩ (.int .i64 (k : Nat)))) := S1.out.step2 hlc HV.out
        generalize pl k = p0 at cp
        clear S1 HV
        go_wp2
        go_roundg (n - (k + 1))
        case measure => omega
        case rel => exact ⟨k + 1, _, _, by go_num, by omega, by omega, S2⟩
    · have hltz : ¬ (k : Int) < (n : Int) := by omega
      have hc := HS.out ms pl wr (by rw [show n = k by omega]; exact SK.out)
      go_wp2_with (go_at_call 28; refine hc.mono ?_; rintro e w2 ⟨rfl, hp⟩)
      exact hp
end Go.Proofs.Ytpaelakaolggmaa.rank
