/-
  The contract of the chapter's Merge: the rows of two lists, one by one.
-/
import Derived.Test.YtgimknplckkiaaaDoorTableRefMake
namespace Go.Proofs.YtgimknplckkiaaaDoor.table
open Go.ChangeShapes Go.WideShapes Go.ChangeAt Go.RowKit Go.Deep
open Go.Proofs.YtgimknplckkiaaaDoor.dims (nth Ints cell_lt cmpL own_below)
open Go.Proofs.YtgimknplckkiaaaDoor.cell (C4 mrg all one zero In64)
set_option linter.unusedVariables false
set_option maxRecDepth 100000

theorem tab_snocR (R : List PRow) (r : PRow) : tab (R ++ [r]) = lay (tab R) r := by simp [tab]
theorem take_plain {rs : List Rw} {k : Nat} (h : k < rs.length) : (rs.take (k + 1)).map plain = (rs.take k).map plain ++ [plain (rwn rs k)] := by
  rw [List.take_succ_eq_append_getElem h, List.map_append, rwn_eq h]; rfl
theorem TS.five {w W : World} {t : List PRow} {m : Nat} {a : Option Addr} {n cap : Nat} (h : TS w t m a n cap W) (hm : m ≤ 100000) {w0 : World} {ar : Option Addr} {rs : List Rw} (hR : RowsIn W ar rs) {k : Nat} (hk : k < rs.length) (hl : (rwn rs k).k.length ≤ 1000000) :
    ∀ W1, Below W.heap.size W W1 → Calls Tryd.prog 39 #[.slice a n cap, .agg #[.slice (rwn rs k).a (rwn rs k).k.length (rwn rs k).cap, .int .i64 (rwn rs k).c.n, .int .i64 (rwn rs k).c.s, .int .i64 (rwn rs k).c.lo, .int .i64 (rwn rs k).c.hi]] W1 fun e w' => ∃ a' n' cap', e = .returned (.slice a' n' cap') ∧ TS w (lay t (plain (rwn rs k))) (m + 1) a' n' cap' w' ∧ Below W1.heap.size W1 w' := fun W1 hb => by
  obtain ⟨b, off, ha, hc⟩ := hR.get hk
  exact (h.keep hb).lay_any hm (rwn rs k) ((hc k hk).2.keep hb) hl

set_option maxHeartbeats 4000000 in
theorem refMerge_any (a1 a2 : Option Addr) (n1 n2 c1 c2 : Nat) (rs qs : List Rw) (w : World) (h1 : RowsIn w a1 rs) (e1 : rs.length = n1) (m1 : n1 ≤ 10000) (h2 : RowsIn w a2 qs) (e2 : qs.length = n2) (m2 : n2 ≤ 10000) (k1 : ∀ r ∈ rs, r.k.length ≤ 1000000) (k2 : ∀ r ∈ qs, r.k.length ≤ 1000000) :
    Calls Tryd.prog 22 #[.slice a1 n1 c1, .slice a2 n2 c2] w fun e w' => ∃ v, e = .returned v ∧ TabOut w' v (tab (rs.map plain ++ qs.map plain)) ∧ Below w.heap.size w w' := by
  have HH : Aside (RowsIn w a1 rs ∧ rs.length = n1 ∧ RowsIn w a2 qs ∧ qs.length = n2 ∧ (∀ r ∈ rs, r.k.length ≤ 1000000) ∧ ∀ r ∈ qs, r.k.length ≤ 1000000) := ⟨h1, e1, h2, e2, k1, k2⟩
  have S1 : Aside (TS w (tab ((rs.take 0).map plain)) 0 none 0 0 w) := TS.start w
  clear h1 e1 h2 e2 k1 k2
  go_enter Tryd.func22, Tryd.ntmps22
  go_wp2_with fail
  go_loopg [5, 6] n1 (fun g1 v vi wr => ∃ (k m : Nat) (a : Option Addr) (c : Nat), v = .slice a m c ∧ vi = .int .i64 k ∧ k ≤ n1 ∧ n1 - k ≤ g1 ∧ Aside (TS w (tab ((rs.take k).map plain)) k a m c wr))
  case atStart => exact ⟨0, 0, none, 0, rfl, rfl, Nat.zero_le _, Nat.le_refl _, S1⟩
  case round =>
    clear S1
    obtain ⟨k, m, a, c0, rfl, rfl, hk, hg1, SK⟩ := hrel
    by_cases hlt : k < n1
    · have hltz : (k : Int) < (n1 : Int) := by omega
      have hkl : k < rs.length := by rw [HH.out.2.1]; exact hlt
      have hRW := HH.out.1.keep SK.out.bel
      obtain ⟨b, off, ha, hc⟩ := hRW.get hkl
      obtain ⟨⟨r0, r1, r2, r3, r4⟩, -⟩ := hc k hkl
      have hL := (SK.out).five (by omega) (w0 := w) hRW hkl (HH.out.2.2.2.2.1 _ (rwn_mem hkl)) wr (Below.refl _ _)
      subst ha
      rw [show lay (tab ((rs.take k).map plain)) (plain (rwn rs k)) = tab ((rs.take (k + 1)).map plain) by rw [take_plain hkl, tab_snocR]] at hL
      clear hc hRW
      generalize (rwn rs k).k.length = t1 at r0 hL
      generalize (rwn rs k).a = t2 at r0 hL
      generalize (rwn rs k).cap = t3 at r0 hL
      generalize (rwn rs k).c = c at r1 r2 r3 r4 hL
      clear SK
      go_wp2_with (go_at_call 39; refine hL.mono ?_; rintro e w2 ⟨a', n', cap', rfl, hT2, hb2⟩; refine Hid.out ?_)
      refine Lib.hid ?_
      have S2 : Aside (TS w (tab ((rs.take (k + 1)).map plain)) (k + 1) a' n' cap' w2) := hT2
      clear hT2 hb2 hL r0 r1 r2 r3 r4
      go_wp2
      go_roundg (n1 - (k + 1))
      case measure => omega
      case rel => exact ⟨k + 1, n', a', cap', rfl, by go_num, by omega, by omega, S2⟩
    · have hltz : ¬ (k : Int) < (n1 : Int) := by omega
      have S2 : Aside (TS w (tab (rs.map plain ++ (qs.take 0).map plain)) (n1 + 0) a m c0 wr) := by
        have h := SK.out
        rw [List.take_of_length_le (by rw [HH.out.2.1]; omega)] at h
        have hkn : k = n1 := by omega
        rw [hkn] at h
        show TS _ _ _ _ _ _ _
        simpa using h
      clear SK
      go_wp2_with fail
      generalize wr = W0 at S2 ⊢
      go_loopg [5, 7] n2 (fun g1 v vi wr => ∃ (j m : Nat) (a : Option Addr) (c : Nat), v = .slice a m c ∧ vi = .int .i64 j ∧ j ≤ n2 ∧ n2 - j ≤ g1 ∧ Aside (TS w (tab (rs.map plain ++ (qs.take j).map plain)) (n1 + j) a m c wr))
      case atStart => exact ⟨0, m, a, c0, rfl, rfl, Nat.zero_le _, Nat.le_refl _, S2⟩
      case round =>
        clear S2
        obtain ⟨j, m, a, c0, rfl, rfl, hj, hg2, SK⟩ := hrel
        by_cases hlt : j < n2
        · have hltz : (j : Int) < (n2 : Int) := by omega
          have hkl : j < qs.length := by rw [HH.out.2.2.2.1]; exact hlt
          have hRW := HH.out.2.2.1.keep SK.out.bel
          obtain ⟨b, off, ha, hc⟩ := hRW.get hkl
          obtain ⟨⟨r0, r1, r2, r3, r4⟩, -⟩ := hc j hkl
          have hL := (SK.out).five (by omega) (w0 := w) hRW hkl (HH.out.2.2.2.2.2 _ (rwn_mem hkl)) wr (Below.refl _ _)
          subst ha
          rw [show lay (tab (rs.map plain ++ (qs.take j).map plain)) (plain (rwn qs j)) = tab (rs.map plain ++ (qs.take (j + 1)).map plain) by rw [take_plain hkl, ← List.append_assoc, tab_snocR]] at hL
          clear hc hRW
          generalize (rwn qs j).k.length = t1 at r0 hL
          generalize (rwn qs j).a = t2 at r0 hL
          generalize (rwn qs j).cap = t3 at r0 hL
          generalize (rwn qs j).c = c at r1 r2 r3 r4 hL
          clear SK
          go_wp2_with (go_at_call 39; refine hL.mono ?_; rintro e w2 ⟨a', n', cap', rfl, hT2, hb2⟩; refine Hid.out ?_)
          refine Lib.hid ?_
          have S2 : Aside (TS w (tab (rs.map plain ++ (qs.take (j + 1)).map plain)) (n1 + j + 1) a' n' cap' w2) := hT2
          clear hT2 hb2 hL r0 r1 r2 r3 r4
          go_wp2
          go_roundg (n2 - (j + 1))
          case measure => omega
          case rel => exact ⟨j + 1, n', a', cap', rfl, by go_num, by omega, by omega, S2⟩
        · have hltz2 : ¬ (j : Int) < (n2 : Int) := by omega
          have S3 : Aside (TS w (tab (rs.map plain ++ qs.map plain)) (n1 + j) a m c0 wr) := by
            have h := SK.out
            rw [List.take_of_length_le (by rw [HH.out.2.2.2.1]; omega)] at h
            exact h
          clear SK
          go_wp2
          go_ret
          exact ⟨_, rfl, S3.out.out, S3.out.bel⟩
end Go.Proofs.YtgimknplckkiaaaDoor.table
