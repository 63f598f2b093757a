/-
  The contract of rank.Order, whole: the places of rows by their means, those of one mean by rising place.
-/
import Derived.Test.YtpaelakaolggmaaRankOrder
namespace Go.Proofs.Ytpaelakaolggmaa.rank
open Go.ChangeShapes Go.WideShapes Go.ChangeAt Go.RowKit Go.Deep
open Go.Sort (swp PermIn SortedIn SWO swp_get swp_permIn permIn_refl permIn_trans permIn_mono permIn_all insInner insOuter)
set_option linter.unusedVariables false

set_option maxHeartbeats 1000000 in
/-- the comparison that Order hands to the sort -/
theorem cmp_closure (B n : Nat) (x y mx my : Nat) (W : World) (hbox : W.cell? ⟨B + 1, 0, none⟩ = some (.slice (some ⟨B, 0, none⟩) n n)) (hx : x < n) (hy : y < n) (hmx : W.cell? ⟨B, x, none⟩ = some (.float .f64 mx)) (hmy : W.cell? ⟨B, y, none⟩ = some (.float .f64 my)) (lx : mx < 18446744073709551616) (ly : my < 18446744073709551616) :
    Calls Try.prog 29 #[.int .i64 (x : Nat), .int .i64 (y : Nat), .pointer (some ⟨B + 1, 0, none⟩)] W fun e w' => e = .returned (.int .i64 (cmpH (hgt mx) (hgt my))) ∧ ∃ q, w' = W.drewN q := by
  have hxz : (x : Int) < (n : Int) := by omega
  have hyz : (y : Int) < (n : Int) := by omega
  go_enter Try.func29, Try.ntmps29
  go_wp2_with fail
  go_quiet ((go_at_call 12; refine Calls.quiet_of_same (cmp_any _ _ lx ly _)))
  go_wp2
  go_ret
  exact ⟨rfl, nq, rfl⟩

/-- a place's key: its mean's height, then the place itself -/
def key (cs : List C4) (x : Nat) : Nat := mh (nth cs x).n (nth cs x).s * 18446744073709551616 + x

/-- what Order answers: each place once, by rising keys -/
def IsOrd (cs : List C4) (l : List Nat) : Prop := l.Perm (List.range cs.length) ∧ l.Pairwise (fun x y => key cs x < key cs y)

theorem IsOrd.uniq {cs : List C4} {l m : List Nat} (h1 : IsOrd cs l) (h2 : IsOrd cs m) : l = m :=
  List.Perm.eq_of_pairwise (le := fun x y => key cs x < key cs y) (fun a b _ _ h1 h2 => absurd h1 (Nat.lt_asymm h2)) h1.2 h2.2 (h1.1.trans h2.1.symm)

theorem key_inj {cs : List C4} {x y : Nat} (hx : x < 18446744073709551616) (hy : y < 18446744073709551616) (h : key cs x = key cs y) : x = y := by unfold key at h; omega

theorem isOrd_of (cs : List C4) (hn : cs.length < 18446744073709551616) (d d' : Array (Fin cs.length)) [Inhabited (Fin cs.length)] (hd : d.toList.map Fin.val = List.range cs.length) (hs : d.size = cs.length) (hp : PermIn 0 d.size d d') (hk : Srt (fun x : Fin cs.length => key cs x.val) 0 d.size d') : IsOrd cs (d'.toList.map Fin.val) := by
  have hz : d'.size = d.size := hp.1
  have hperm : (d'.toList.map Fin.val).Perm (List.range cs.length) := by
    rw [← hd]
    refine List.Perm.map _ ?_
    have := hp.2.2
    rw [← hz, Array.extract_size, hz, Array.extract_size] at this
    exact this
  refine ⟨hperm, ?_⟩
  have hnd : (d'.toList.map Fin.val).Nodup := hperm.nodup_iff.2 List.nodup_range
  rw [List.pairwise_iff_getElem]
  intro i j hi0 hj0 hij
  have hi := hi0
  have hj := hj0
  simp only [List.length_map, Array.length_toList] at hi hj
  have h := hk i j (Nat.zero_le _) hij (by omega)
  rw [getElem!_pos d' i (by omega), getElem!_pos d' j (by omega)] at h
  simp only [List.getElem_map, Array.getElem_toList]
  refine Nat.lt_of_le_of_ne h fun e => ?_
  have e2 := key_inj (by omega) (by omega) e
  exact List.pairwise_iff_getElem.1 hnd i j hi0 hj0 hij (by simpa using e2)

theorem idArr (n : Nat) : (Array.ofFn (fun i : Fin n => i)).toList.map Fin.val = List.range n := by
  refine List.ext_getElem (by simp) fun i h1 h2 => by simp

set_option maxHeartbeats 1000000 in
theorem order_some (cs : List C4) (b off cap : Nat) (w : World) (h0 : 0 < cs.length) (hb : b < w.heap.size) (hn : cs.length ≤ 35184372088832) (hR : RowsAt w b off cs) :
    Calls Try.prog 23 #[.slice (some ⟨b, off, none⟩) cs.length cap] w fun e w' => e = .returned (.slice (some ⟨w.heap.size + 1 + 1, 0, none⟩) cs.length cs.length) ∧ Below w.heap.size w w' ∧
      ∃ l, IsOrd cs l ∧ l.length = cs.length ∧ w.heap.size + 1 + 1 < w'.heap.size ∧ ∀ i, i < l.length → w'.cell? ⟨w.heap.size + 1 + 1, i, none⟩ = some (.int .i64 (l[i]! : Nat)) ∧ w'.frozen? ⟨w.heap.size + 1 + 1, i, none⟩ = false := by
  refine order_loop cs b off cap w hb hn hR _ fun ms pl W hO => ?_
  letI : Inhabited (Fin cs.length) := ⟨⟨0, h0⟩⟩
  have hsz : (Array.ofFn (fun i : Fin cs.length => i)).size = cs.length := by simp
  have hv : ∀ i, i < cs.length → ((Array.ofFn (fun i : Fin cs.length => i))[i]!).val = i := fun i hi => by rw [getElem!_pos _ i (by rw [hsz]; exact hi)]; simp
  have hC : Cmps (α := Fin cs.length) Fin.val (w.heap.size + 1 + 1) W (w.heap.size + 1) (fun x y => cmpH (hgt (ms x.val)) (hgt (ms y.val))) := fun W' hB x y => by
    refine cmp_closure w.heap.size cs.length x.val y.val (ms x.val) (ms y.val) W' ?_ x.isLt y.isLt ?_ ?_ (hO.okm _ x.isLt).1 (hO.okm _ y.isLt).1
    · rw [hB.cell (p := ⟨w.heap.size + 1, 0, none⟩) (by show w.heap.size + 1 < w.heap.size + 1 + 1; omega)]; exact hO.box
    · rw [hB.cell (p := ⟨w.heap.size, x.val, none⟩) (by show w.heap.size < w.heap.size + 1 + 1; omega)]; exact (hO.mea _ x.isLt).1
    · rw [hB.cell (p := ⟨w.heap.size, y.val, none⟩) (by show w.heap.size < w.heap.size + 1 + 1; omega)]; exact (hO.mea _ y.isLt).1
  have hS : St (α := Fin cs.length) Fin.val (w.heap.size + 1 + 1) W (Array.ofFn (fun i : Fin cs.length => i)) W := ⟨Below.refl _ _, fun i hi => by
    rw [hsz] at hi
    have := hO.plc i hi
    rw [hO.okp i hi] at this
    rw [hv i hi]; exact this⟩
  have hc := sort_any (α := Fin cs.length) (vl := Fin.val) (K := fun x => key cs x.val) (cf := fun x y => cmpH (hgt (ms x.val)) (hgt (ms y.val))) (blk := w.heap.size + 1 + 1) (bx := w.heap.size + 1) (W0 := W) (fun x y hxy => by
    have e1 := hgt_of_mean (hO.okm _ x.isLt)
    have e2 := hgt_of_mean (hO.okm _ y.isLt)
    rw [e1, e2]
    unfold key cmpH
    have := x.isLt
    have := y.isLt
    generalize mh (nth cs x.val).n (nth cs x.val).s = hx
    generalize mh (nth cs y.val).n (nth cs y.val).s = hy
    split <;> (try split) <;> omega) cs.length _ W hC hS (by rw [hsz]; omega) (by rw [hsz]; exact hv)
  rw [hsz] at hc
  refine hc.mono fun e w' ⟨he, d', hp, hk, hT⟩ => ⟨he, rfl, ?_, d'.toList.map Fin.val, ?_, ?_, ?_, ?_⟩
  · exact hO.bel.trans (hT.bel.mono (by omega))
  · exact isOrd_of cs (by omega) _ d' (idArr _) hsz (by rw [hsz]; exact hp) (by rw [hsz]; exact hk)
  · have := hp.1; rw [hsz] at this; simpa using this
  · exact Nat.lt_of_lt_of_le hO.siz hT.bel.size
  · intro i hi
    have hz : d'.size = cs.length := hp.1.trans hsz
    simp only [List.length_map, Array.length_toList] at hi
    have := hT.row i (by omega)
    rw [getElem!_pos d' i (by omega)] at this
    rw [getElem!_pos _ i (by simp; omega)]
    simpa using this
end Go.Proofs.Ytpaelakaolggmaa.rank
