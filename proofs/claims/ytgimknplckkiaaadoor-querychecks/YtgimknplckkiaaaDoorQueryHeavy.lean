/-
  The contract of the statements' own 'heavy': what it lets by has few rows; where only rows are asked, small keys.
-/
import Derived.Test.YtgimknplckkiaaaDoorQueryCheck
import Derived.Test.YtgimknplckkiaaaDoorTableCK
namespace Go.Proofs.YtgimknplckkiaaaDoor.query
open Go.ChangeShapes Go.WideShapes Go.ChangeAt Go.RowKit Go.Deep
open Go.Proofs.YtgimknplckkiaaaDoor.dims
open Go.Proofs.YtgimknplckkiaaaDoor.table
open Go.Proofs.YtgimknplckkiaaaDoor.cell (C4 In64)
set_option linter.unusedVariables false
set_option maxRecDepth 100000

set_option maxHeartbeats 8000000 in
theorem heavy_q (a ar aL a1 a2 : Option Addr) (n cap nr cr nL cL n1 c1 n2 c2 : Nat) (ds : List Dm) (rs : List Rw) (w : World) (hI : DimsIn w a ds) (hn : ds.length = n) (hm : n ≤ 9223372036854775807) (hR : table.RowsIn w ar rs) (hr : rs.length = nr) (hr2 : nr ≤ 9223372036854775807) (b1 : ∀ r ∈ rs, r.k.length ≤ 17592186044416) :
    Calls Tryd.prog 9 #[.slice a n cap, .slice ar nr cr, .agg #[.slice aL nL cL, .slice a1 n1 c1, .slice a2 n2 c2]] w fun e w' => (e = .returned (.bool true) ∨ e = .returned (.bool false) ∧ rs.length ≤ 300 ∧ (n = 0 → nL = 0 → n1 = 0 → n2 = 0 → ∀ r ∈ rs, r.k.length ≤ 2000)) ∧ Below w.heap.size w w' := by
  have H : Aside (DimsIn w a ds ∧ ds.length = n ∧ table.RowsIn w ar rs ∧ rs.length = nr ∧ ∀ i, i < n → (dn ds i).l.length ≤ 9223372036854775807) := ⟨hI, hn, hR, hr, fun i hi => by
    obtain ⟨b, off, -, hc⟩ := hI.get (k := i) (by rw [hn]; exact hi)
    exact (hc i (by rw [hn]; exact hi)).2.2.2⟩
  have HB : Aside ((∀ r ∈ rs, r.k.length ≤ 17592186044416) ∧ ∀ m ∈ lens rs, m ≤ 17592186044416) := ⟨b1, fun m hm => by obtain ⟨r, hr, rfl⟩ := List.mem_map.1 hm; exact b1 r hr⟩
  have B1 : Aside (Below w.heap.size w (w.alloc (.cells #[.slice aL nL cL, .slice a1 n1 c1, .slice a2 n2 c2] 26))) := (Below.refl _ _).alloc (Nat.le_refl _) _
  clear hI hn hR hr b1
  obtain ⟨X, hX⟩ : ∃ X : Int, wrap64 (wrap64 (wrap64 ((n : Int) + nL) + n1) + n2) = X := ⟨_, rfl⟩
  have HX : Aside (n = 0 → nL = 0 → n1 = 0 → n2 = 0 → X = 0) := fun h1 h2 h3 h4 => by subst h1 h2 h3 h4; rw [← hX]; unfold wrap64; omega
  go_enter Tryd.func9, Tryd.ntmps9
  go_wp2_with fail
  generalize (w.alloc (.cells #[.slice aL nL cL, .slice a1 n1 c1, .slice a2 n2 c2] 26)) = w1 at B1 ⊢
  rw [hX]
  clear hX
  go_loopg [7, 8] n (fun g1 v vi wr => ∃ (k : Nat) (x : Int), v = .int .i64 x ∧ vi = .int .i64 k ∧ k ≤ n ∧ n - k ≤ g1 ∧ wr = w1 ∧ Aside (n = 0 → nL = 0 → n1 = 0 → n2 = 0 → x = 0))
  case atStart => exact ⟨0, X, rfl, rfl, Nat.zero_le _, Nat.le_refl _, rfl, HX⟩
  case round =>
    clear HX
    obtain ⟨k, x, rfl, rfl, hk, hg1, rfl, SK⟩ := hrel
    by_cases hlt : k < n
    · have hltz : (k : Int) < (n : Int) := by omega
      obtain ⟨b, off, ha, hc⟩ := (H.out.1.keep B1.out).get (k := k) (by rw [H.out.2.1]; exact hlt)
      subst ha
      obtain ⟨-, r1, -, r3⟩ := hc k (by rw [H.out.2.1]; exact hlt)
      clear hc SK
      generalize (dn ds k).l.length = t1 at r1 r3
      go_wp2
      go_roundg (n - (k + 1))
      case measure => omega
      case rel => exact ⟨k + 1, _, rfl, by go_num, by omega, by omega, rfl, fun h => by omega⟩
    · have hltz : ¬ (k : Int) < (n : Int) := by omega
      have S2 : Aside (n = 0 → nL = 0 → n1 = 0 → n2 = 0 → x = 0) := SK.out
      clear SK
      go_wp2_with fail
      go_loopg [7, 9] nr (fun g1 v vi wr2 => ∃ (j : Nat) (y : Int), v = .int .i64 y ∧ vi = .int .i64 j ∧ j ≤ nr ∧ nr - j ≤ g1 ∧ wr2 = wr ∧ Aside (nr ≤ 300 → n = 0 → nL = 0 → n1 = 0 → n2 = 0 → y = wt ((lens rs).take j)))
      case atStart => exact ⟨0, x, rfl, rfl, Nat.zero_le _, Nat.le_refl _, rfl, fun _ h1 h2 h3 h4 => by rw [S2.out h1 h2 h3 h4]; simp [wt]⟩
      case round =>
        clear S2
        obtain ⟨j, y, rfl, rfl, hj, hg2, hwr, SJ⟩ := hrel
        subst hwr
        by_cases hlt2 : j < nr
        · have hltz2 : (j : Int) < (nr : Int) := by omega
          have hjl : j < rs.length := by rw [H.out.2.2.2.1]; exact hlt2
          obtain ⟨b, off, ha, hc⟩ := (H.out.2.2.1.keep B1.out).get hjl
          subst ha
          obtain ⟨⟨r0, -, -, -, -⟩, -⟩ := hc j hjl
          clear hc
          have hb := HB.out.1 _ (rwn_mem hjl)
          have S3 : Aside (∀ z, z = wrap64 (y + (1 + ((rwn rs j).k.length : Int))) → nr ≤ 300 → n = 0 → nL = 0 → n1 = 0 → n2 = 0 → z = wt ((lens rs).take (j + 1))) := fun z hz h0 h1 h2 h3 h4 => by
            have e := SJ.out h0 h1 h2 h3 h4
            have hb3 := take_bound (k := j) HB.out.2 (by omega)
            rw [hz, lens_succ hjl, ← e]
            rw [← e] at hb3
            unfold wrap64; omega
          generalize (rwn rs j).k.length = t1 at r0 hb S3
          clear SJ
          go_wp2
          go_roundg (nr - (j + 1))
          case measure => omega
          case rel =>
            refine ⟨j + 1, _, rfl, by go_num, by omega, by omega, rfl, S3.out _ ?_⟩
            unfold wrap64; omega
        · have hltz2 : ¬ (j : Int) < (nr : Int) := by omega
          have S3 : Aside (nr ≤ 300 → n = 0 → nL = 0 → n1 = 0 → n2 = 0 → y = wt (lens rs)) := fun h0 h1 h2 h3 h4 => by
            have := SJ.out h0 h1 h2 h3 h4
            rw [List.take_of_length_le (by simp [lens, H.out.2.2.2.1]; omega)] at this
            exact this
          clear SJ
          by_cases g1 : 2000 < y
          · go_wp2
            go_ret
            exact ⟨.inl rfl, B1.out⟩
          · by_cases g2 : (300 : Int) < (nr : Int)
            · go_wp2
              go_ret
              exact ⟨.inl rfl, B1.out⟩
            · have HLi : Aside (rs.length ≤ 300 ∧ (n = 0 → nL = 0 → n1 = 0 → n2 = 0 → ∀ r ∈ rs, r.k.length ≤ 2000)) := by
                refine ⟨by rw [H.out.2.2.2.1]; omega, fun h1 h2 h3 h4 r hr => ?_⟩
                have e := S3.out (by omega) h1 h2 h3 h4
                have := wt_mem (l := lens rs) (List.mem_map.2 ⟨r, hr, rfl⟩)
                omega
              go_wp2
              go_ret
              exact ⟨.inr ⟨rfl, HLi.out⟩, B1.out⟩
end Go.Proofs.YtgimknplckkiaaaDoor.query
