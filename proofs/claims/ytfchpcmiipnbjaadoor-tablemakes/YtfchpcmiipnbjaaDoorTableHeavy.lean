/-
  The contract of the statements' own 'heavy': what it lets by is small.
-/
import Derived.Test.YtfchpcmiipnbjaaDoorTableApp
namespace Go.Proofs.YtfchpcmiipnbjaaDoor.table
open Go.ChangeShapes Go.WideShapes Go.ChangeAt Go.RowKit Go.Deep
open Go.Proofs.YtfchpcmiipnbjaaDoor.dims (nth Ints cell_lt cmpL own_below)
open Go.Proofs.YtfchpcmiipnbjaaDoor.cell (C4 mrg all one zero In64)
set_option linter.unusedVariables false
set_option maxRecDepth 100000

def wt : List Nat → Int
  | [] => 0
  | n :: l => 1 + (n : Int) + wt l
theorem wt_snoc : ∀ (l : List Nat) (n : Nat), wt (l ++ [n]) = wt l + (1 + (n : Int))
  | [], n => by simp [wt]
  | m :: l, n => by simp only [List.cons_append, wt, wt_snoc l n]; omega
theorem wt_nonneg : ∀ (l : List Nat), 0 ≤ wt l
  | [] => by simp [wt]
  | m :: l => by have := wt_nonneg l; simp only [wt]; omega
theorem wt_bound : ∀ (l : List Nat), (∀ n ∈ l, n ≤ 17592186044416) → wt l ≤ (l.length : Int) * 17592186044417
  | [], _ => by simp [wt]
  | m :: l, h => by
    have := wt_bound l fun n hn => h n (by simp [hn])
    have := h m (by simp)
    simp only [wt, List.length_cons]; omega
theorem wt_mem : ∀ {l : List Nat} {n : Nat}, n ∈ l → (n : Int) ≤ wt l
  | m :: l, n, h => by
    have := wt_nonneg l
    rcases List.mem_cons.1 h with rfl | h
    · simp only [wt]; omega
    · have := wt_mem h; simp only [wt]; omega
theorem take_nat (l : List Nat) (k : Nat) (h : k < l.length) : l.take (k + 1) = l.take k ++ [l[k]] := List.take_succ_eq_append_getElem h

def lens (rs : List Rw) : List Nat := rs.map fun r => r.k.length
def flens (fs : List Ft) : List Nat := fs.map fun f => f.k.length
theorem lens_succ {rs : List Rw} {k : Nat} (h : k < rs.length) : wt ((lens rs).take (k + 1)) = wt ((lens rs).take k) + (1 + ((rwn rs k).k.length : Int)) := by
  rw [take_nat _ _ (by simpa [lens] using h), wt_snoc, rwn_eq h]; simp [lens]
theorem flens_succ {fs : List Ft} {k : Nat} (h : k < fs.length) : wt ((flens fs).take (k + 1)) = wt ((flens fs).take k) + (1 + ((ftn fs k).k.length : Int)) := by
  rw [take_nat _ _ (by simpa [flens] using h), wt_snoc, ftn_eq h]; simp [flens]
/-- what is let by -/
def Light (rs : List Rw) (fs : List Ft) : Prop := rs.length ≤ 300 ∧ fs.length ≤ 300 ∧ (∀ r ∈ rs, r.k.length ≤ 2000) ∧ ∀ f ∈ fs, f.k.length ≤ 2000
theorem take_bound {l : List Nat} {k : Nat} (h : ∀ n ∈ l, n ≤ 17592186044416) (hk : k ≤ 300) : 0 ≤ wt (l.take k) ∧ wt (l.take k) ≤ 300 * 17592186044417 := by
  have h1 := wt_bound (l.take k) fun n hn => h n (List.mem_of_mem_take hn)
  have h2 : (l.take k).length ≤ k := List.length_take_le _ _
  exact ⟨wt_nonneg _, by omega⟩

set_option maxHeartbeats 4000000 in
theorem heavy_any (a1 a2 : Option Addr) (n1 n2 c1 c2 : Nat) (rs : List Rw) (fs : List Ft) (w : World) (hR : RowsIn w a1 rs) (h1 : rs.length = n1) (m1 : n1 ≤ 9223372036854775807) (hF : FactsIn w a2 fs) (h2 : fs.length = n2) (m2 : n2 ≤ 9223372036854775807)
    (b1 : ∀ r ∈ rs, r.k.length ≤ 17592186044416) (b2 : ∀ f ∈ fs, f.k.length ≤ 17592186044416) :
    Calls Tryd.prog 11 #[.slice a1 n1 c1, .slice a2 n2 c2] w fun e w' => (e = .returned (.bool true) ∨ e = .returned (.bool false) ∧ Light rs fs) ∧ w' = w := by
  have H : Aside (RowsIn w a1 rs ∧ rs.length = n1 ∧ FactsIn w a2 fs ∧ fs.length = n2) := ⟨hR, h1, hF, h2⟩
  have HB : Aside ((∀ r ∈ rs, r.k.length ≤ 17592186044416) ∧ (∀ f ∈ fs, f.k.length ≤ 17592186044416) ∧ (∀ n ∈ lens rs, n ≤ 17592186044416) ∧ ∀ n ∈ flens fs, n ≤ 17592186044416) := ⟨b1, b2, fun n hn => by obtain ⟨r, hr, rfl⟩ := List.mem_map.1 hn; exact b1 r hr, fun n hn => by obtain ⟨r, hr, rfl⟩ := List.mem_map.1 hn; exact b2 r hr⟩
  clear hR h1 hF h2 b1 b2
  go_enter Tryd.func11, Tryd.ntmps11
  go_wp2_with fail
  go_loopg [5, 6] n1 (fun g1 v vi wr => ∃ (k : Nat) (x : Int), v = .int .i64 x ∧ vi = .int .i64 k ∧ k ≤ n1 ∧ n1 - k ≤ g1 ∧ wr = w ∧ Aside (n1 ≤ 300 → x = wt ((lens rs).take k)))
  case atStart => exact ⟨0, 0, rfl, rfl, Nat.zero_le _, Nat.le_refl _, rfl, fun _ => rfl⟩
  case round =>
    obtain ⟨k, x, rfl, rfl, hk, hg1, rfl, SK⟩ := hrel
    by_cases hlt : k < n1
    · have hltz : (k : Int) < (n1 : Int) := by omega
      have hkl : k < rs.length := by rw [H.out.2.1]; exact hlt
      obtain ⟨b, off, ha, hc⟩ := H.out.1.get hkl
      subst ha
      obtain ⟨⟨r0, -, -, -, -⟩, -⟩ := hc k hkl
      clear hc
      have hb := HB.out.1 _ (rwn_mem hkl)
      have S2 : Aside (∀ y, y = wrap64 (x + (1 + ((rwn rs k).k.length : Int))) → n1 ≤ 300 → y = wt ((lens rs).take (k + 1))) := fun y hy h3 => by
        have e := SK.out h3
        have hb3 := take_bound (k := k) HB.out.2.2.1 (by omega)
        rw [hy, lens_succ hkl, ← e]
        rw [← e] at hb3
        unfold wrap64; omega
      generalize (rwn rs k).k.length = t1 at r0 hb S2
      clear SK
      go_wp2
      go_roundg (n1 - (k + 1))
      case measure => omega
      case rel =>
        refine ⟨k + 1, _, rfl, by go_num, by omega, by omega, rfl, S2.out _ ?_⟩
        unfold wrap64; omega
    · have hltz : ¬ (k : Int) < (n1 : Int) := by omega
      have S2 : Aside (n1 ≤ 300 → x = wt (lens rs)) := fun h3 => by
        have := SK.out h3
        rw [List.take_of_length_le (by simp [lens, H.out.2.1]; omega)] at this
        exact this
      clear SK
      go_wp2_with fail
      go_loopg [5, 7] n2 (fun g1 v vi wr2 => ∃ (j : Nat) (y : Int), v = .int .i64 y ∧ vi = .int .i64 j ∧ j ≤ n2 ∧ n2 - j ≤ g1 ∧ wr2 = wr ∧ Aside (n1 ≤ 300 → n2 ≤ 300 → y = wt (lens rs) + wt ((flens fs).take j)))
      case atStart => exact ⟨0, x, rfl, rfl, Nat.zero_le _, Nat.le_refl _, rfl, fun h3 _ => by rw [S2.out h3]; simp [wt]⟩
      case round =>
        obtain ⟨j, y, rfl, rfl, hj, hg2, hwr, SJ⟩ := hrel
        subst hwr
        by_cases hlt2 : j < n2
        · have hltz2 : (j : Int) < (n2 : Int) := by omega
          have hjl : j < fs.length := by rw [H.out.2.2.2]; exact hlt2
          obtain ⟨b, off, ha, hc⟩ := H.out.2.2.1.get hjl
          subst ha
          obtain ⟨r0, -, -⟩ := hc j hjl
          clear hc
          have hb := HB.out.2.1 _ (ftn_mem hjl)
          have S3 : Aside (∀ z, z = wrap64 (y + (1 + ((ftn fs j).k.length : Int))) → n1 ≤ 300 → n2 ≤ 300 → z = wt (lens rs) + wt ((flens fs).take (j + 1))) := fun z hz h3 h4 => by
            have e := SJ.out h3 h4
            have hb3 := take_bound (k := j) HB.out.2.2.2 (by omega)
            have hb4 := take_bound (k := n1) HB.out.2.2.1 h3
            rw [List.take_of_length_le (by simp [lens, H.out.2.1])] at hb4
            rw [hz, flens_succ hjl]
            unfold wrap64; omega
          generalize (ftn fs j).k.length = t1 at r0 hb S3
          clear SJ S2
          go_wp2
          go_roundg (n2 - (j + 1))
          case measure => omega
          case rel =>
            refine ⟨j + 1, _, rfl, by go_num, by omega, by omega, rfl, S3.out _ ?_⟩
            unfold wrap64; omega
        · have hltz2 : ¬ (j : Int) < (n2 : Int) := by omega
          have S3 : Aside (n1 ≤ 300 → n2 ≤ 300 → y = wt (lens rs) + wt (flens fs)) := fun h3 h4 => by
            have := SJ.out h3 h4
            rw [List.take_of_length_le (by simp [flens, H.out.2.2.2]; omega)] at this
            exact this
          clear SJ S2
          by_cases g1 : 2000 < y
          · go_wp2
            go_ret
            exact ⟨.inl rfl, rfl⟩
          · by_cases g2 : (300 : Int) < (n1 : Int)
            · go_wp2
              go_ret
              exact ⟨.inl rfl, rfl⟩
            · by_cases g3 : (300 : Int) < (n2 : Int)
              · go_wp2
                go_ret
                exact ⟨.inl rfl, rfl⟩
              · have HLi : Aside (Light rs fs) := by
                  have e := S3.out (by omega) (by omega)
                  have p1 := wt_nonneg (lens rs)
                  have p2 := wt_nonneg (flens fs)
                  refine ⟨by rw [H.out.2.1]; omega, by rw [H.out.2.2.2]; omega, fun r hr => ?_, fun f hf => ?_⟩
                  · have := wt_mem (l := lens rs) (List.mem_map.2 ⟨r, hr, rfl⟩); omega
                  · have := wt_mem (l := flens fs) (List.mem_map.2 ⟨f, hf, rfl⟩); omega
                go_wp2
                go_ret
                exact ⟨.inr ⟨rfl, HLi.out⟩, rfl⟩
end Go.Proofs.YtfchpcmiipnbjaaDoor.table
