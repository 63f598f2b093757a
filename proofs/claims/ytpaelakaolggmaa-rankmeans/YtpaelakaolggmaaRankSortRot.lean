/-
  Contracts of the stable sort's rotation and of its insertion sort.
-/
import Derived.Test.YtpaelakaolggmaaRankSortKit
namespace Go.Proofs.Ytpaelakaolggmaa.rank
open Go.ChangeShapes Go.WideShapes Go.ChangeAt Go.RowKit
open Go.Sort (swp PermIn SortedIn SWO swp_get swp_permIn permIn_refl permIn_trans permIn_mono permIn_all insInner insOuter)
set_option linter.unusedVariables false
variable {α : Type} [Inhabited α] {vl : α → Nat} {blk : Nat} {W0 W : World} {d : Array α}

/-- where the element at x comes from behind a rotation of [a, b) at m -/
def rox (a m b x : Nat) : Nat := if a ≤ x ∧ x < a + (b - m) then x + (m - a) else if a + (b - m) ≤ x ∧ x < b then x - (b - m) else x

theorem rox_left (m i j x : Nat) (hi : i ≤ m) (hj : j < i) : swx (m - i) m j (rox (m - (i - j)) m (m + j) x) = rox (m - i) m (m + j) x := by
  unfold rox swx
  repeat' split
  all_goals omega
theorem rox_right (m i j x : Nat) (hi : i ≤ m) (hj : i < j) : swx (m - i) (m + j - i) i (rox (m - i) m (m + (j - i)) x) = rox (m - i) m (m + j) x := by
  unfold rox swx
  repeat' split
  all_goals omega
theorem rox_same (m i x : Nat) (hi : i ≤ m) : swx (m - i) m i x = rox (m - i) m (m + i) x := by
  unfold rox swx
  repeat' split
  all_goals omega

set_option maxHeartbeats 4000000 in
set_option maxRecDepth 100000 in
theorem rotate_any (f : Value) (cap a m b : Nat) (d : Array α) (w : World) (S : St vl blk W0 d w) (ham : a < m) (hmb : m < b) (hb : b ≤ d.size) (hsz : d.size < 4611686018427387904) :
    Calls Try.prog 34 #[.slice (some ⟨blk, 0, none⟩) d.size cap, .int .i64 a, .int .i64 m, .int .i64 b, f] w fun e w' => e = .returned (.tuple #[]) ∧
      ∃ d' : Array α, (∀ x, d'[x]! = d[rox a m b x]!) ∧ PermIn a b d d' ∧ St vl blk W0 d' w' := by
  have S0 : Aside (St vl blk W0 d w) := S
  clear S
  go_enter Try.func34, Try.ntmps34
  go_wp2
  go_loopg [10, 11] (b - a) (fun g1 vi vj wr => ∃ (i j : Nat) (dk : Array α), vi = .int .i64 i ∧ vj = .int .i64 j ∧ 0 < i ∧ 0 < j ∧ a + i ≤ m ∧ m + j ≤ b ∧ i + j ≤ g1 ∧ Aside (St vl blk W0 dk wr) ∧ Hid ((∀ x, dk[rox (m - i) m (m + j) x]! = d[rox a m b x]!) ∧ PermIn a b d dk))
  case atStart => exact ⟨m - a, b - m, d, by go_num, by go_num, by omega, by omega, by omega, by omega, by omega, S0, ⟨fun x => by rw [show m - (m - a) = a by omega, show m + (b - m) = b by omega], permIn_refl _ _ _⟩⟩
  case round =>
    clear S0
    obtain ⟨i, j, dk, rfl, rfl, hi0, hj0, hi, hj, hg1, SK, HK⟩ := hrel
    have hsk : dk.size = d.size := HK.out.2.1
    have emi : (m : Int) - (i : Int) = ((m - i : Nat) : Int) := by omega
    by_cases heq : i = j
    · subst heq
      have hc := swapRange_any f cap (m - i) m i dk wr SK.out (by omega) (by omega) (by omega)
      rw [hsk] at hc
      go_wp2_with (go_at_call 35; refine hc.mono ?_; rintro e w1 ⟨rfl, d1, h1, p1, S1⟩)
      go_end0
      refine ⟨rfl, d1, fun x => ?_, permIn_trans _ _ _ _ _ HK.out.2 (permIn_mono _ _ _ _ _ _ (by omega) (by omega) (by omega) p1), S1⟩
      rw [h1, rox_same m i x (by omega), HK.out.1]
    · have hne : ((i : Int) == (j : Int)) = false := by rw [beq_eq_false_iff_ne]; omega
      by_cases hgt : j < i
      · have hgtz : (j : Int) < (i : Int) := by omega
        have eij : (i : Int) - (j : Int) = ((i - j : Nat) : Int) := by omega
        have hc := swapRange_any f cap (m - i) m j dk wr SK.out (by omega) (by omega) (by omega)
        rw [hsk] at hc
        go_wp2_with (go_at_call 35; refine hc.mono ?_; rintro e w1 ⟨rfl, d1, h1, p1, S1⟩)
        have SA : Aside (St vl blk W0 d1 w1) := S1
        have HA : Hid ((∀ x, d1[rox (m - (i - j)) m (m + j) x]! = d[rox a m b x]!) ∧ PermIn a b d d1) := by
          refine ⟨fun x => ?_, permIn_trans _ _ _ _ _ HK.out.2 (permIn_mono _ _ _ _ _ _ (by omega) (by omega) (by omega) p1)⟩
          rw [h1, rox_left m i j x (by omega) hgt, HK.out.1]
        clear S1 h1 p1 SK HK hc
        go_roundg (i - j + j)
        case measure => omega
        case rel => exact ⟨i - j, j, d1, rfl, rfl, by omega, by omega, by omega, by omega, by omega, SA, HA⟩
      · have hgtz : ¬ (j : Int) < (i : Int) := by omega
        have eij : (j : Int) - (i : Int) = ((j - i : Nat) : Int) := by omega
        have emj : (m : Int) + (j : Int) - (i : Int) = ((m + j - i : Nat) : Int) := by omega
        have hc := swapRange_any f cap (m - i) (m + j - i) i dk wr SK.out (by omega) (by omega) (by omega)
        rw [hsk] at hc
        go_wp2_with (go_at_call 35; refine hc.mono ?_; rintro e w1 ⟨rfl, d1, h1, p1, S1⟩)
        have SA : Aside (St vl blk W0 d1 w1) := S1
        have HA : Hid ((∀ x, d1[rox (m - i) m (m + (j - i)) x]! = d[rox a m b x]!) ∧ PermIn a b d d1) := by
          refine ⟨fun x => ?_, permIn_trans _ _ _ _ _ HK.out.2 (permIn_mono _ _ _ _ _ _ (by omega) (by omega) (by omega) p1)⟩
          rw [h1, rox_right m i j x (by omega) (by omega), HK.out.1]
        clear S1 h1 p1 SK HK hc
        go_roundg (i + (j - i))
        case measure => omega
        case rel => exact ⟨i, j - i, d1, rfl, rfl, by omega, by omega, by omega, by omega, by omega, SA, HA⟩

/-- 'less', as the sort asks it of cmp -/
def ltc (cf : α → α → Int) (x y : α) : Bool := decide (cf x y < 0)

section
variable (lt : α → α → Bool)
/-- one step of the insertion, whichever way it goes -/
theorem inner_at (a k : Nat) (d : Array α) : insInner lt a (k + 1) d = if a < k + 1 ∧ lt d[k + 1]! d[k]! = true then insInner lt a k (swp d (k + 1) k) else d := by
  simp only [insInner, gt_iff_lt, Bool.and_eq_true, decide_eq_true_eq]
theorem outer_at (a b i : Nat) (d : Array α) : insOuter lt a b i d = if i < b then insOuter lt a b (i + 1) (insInner lt a i d) else d := by
  rw [insOuter]
theorem inner_more {a j : Nat} {d : Array α} (hj : a < j) (hl : lt d[j]! d[j - 1]! = true) : insInner lt a j d = insInner lt a (j - 1) (swp d j (j - 1)) := by
  have e : j = (j - 1) + 1 := by omega
  generalize j - 1 = k at e hl ⊢
  subst e
  exact (inner_at lt a k d).trans (if_pos ⟨hj, hl⟩)
theorem inner_done {a j : Nat} {d : Array α} (h : j ≤ a ∨ lt d[j]! d[j - 1]! = false) : insInner lt a j d = d := by
  by_cases h0 : j = 0
  · subst h0; rfl
  · have e : j = (j - 1) + 1 := by omega
    generalize j - 1 = k at e h
    subst e
    refine (inner_at lt a k d).trans (if_neg fun hc => ?_)
    rcases h with h | h
    · omega
    · rw [h] at hc; exact Bool.false_ne_true hc.2
theorem outer_more {a b i : Nat} {d : Array α} (h : i < b) : insOuter lt a b i d = insOuter lt a b (i + 1) (insInner lt a i d) := (outer_at lt a b i d).trans (if_pos h)
theorem outer_done {a b i : Nat} {d : Array α} (h : ¬ i < b) : insOuter lt a b i d = d := (outer_at lt a b i d).trans (if_neg h)
end

set_option maxHeartbeats 8000000 in
set_option maxRecDepth 100000 in
theorem insertion_any (bx : Nat) (cf : α → α → Int) (cap a b : Nat) (d : Array α) (w : World) (hC : Cmps vl blk W0 bx cf) (S : St vl blk W0 d w) (hab : a ≤ b) (hb : b ≤ d.size) (hsz : d.size < 4611686018427387904) :
    Calls Try.prog 32 #[.slice (some ⟨blk, 0, none⟩) d.size cap, .int .i64 a, .int .i64 b, .func (.func 29) #[] #[.pointer (some ⟨bx, 0, none⟩)]] w fun e w' => e = .returned (.tuple #[]) ∧
      St vl blk W0 (Go.Sort.insertionSort (ltc cf) d a b) w' := by
  have HC : Aside (Cmps vl blk W0 bx cf) := hC
  have S0 : Aside (St vl blk W0 d w) := S
  clear S hC
  go_enter Try.func32, Try.ntmps32
  go_wp2
  go_loopg [8] (b - a) (fun g1 vi wr => ∃ (i : Nat) (dk : Array α), vi = .int .i64 i ∧ a < i ∧ i ≤ b + 1 ∧ b + 1 - i ≤ g1 + 1 ∧ dk.size = d.size ∧ Aside (St vl blk W0 dk wr) ∧ Hid (insOuter (ltc cf) a b i dk = insOuter (ltc cf) a b (a + 1) d))
  case atStart => exact ⟨a + 1, d, by go_num, by omega, by omega, by omega, rfl, S0, rfl⟩
  case round =>
    clear S0
    obtain ⟨i, dk, rfl, hai, hib, hg1, hsk, S1, HO⟩ := hrel
    by_cases hlt : i < b
    · have hltz : (i : Int) < (b : Int) := by omega
      go_wp2
      go_loopg [9] i (fun g2 vj wr2 => ∃ (j : Nat) (dj : Array α), vj = .int .i64 j ∧ a ≤ j ∧ j ≤ i ∧ j ≤ g2 ∧ dj.size = d.size ∧ Aside (St vl blk W0 dj wr2) ∧ Hid (insInner (ltc cf) a j dj = insInner (ltc cf) a i dk))
      case atStart => exact ⟨i, dk, rfl, by omega, Nat.le_refl _, Nat.le_refl _, hsk, S1, rfl⟩
      case round =>
        clear S1
        obtain ⟨j, dj, rfl, haj, hji, hg2, hsj, SJ, HI⟩ := hrel
        have out : (j ≤ a ∨ (ltc cf) dj[j]! dj[j - 1]! = false) → Hid (insOuter (ltc cf) a b (i + 1) dj = insOuter (ltc cf) a b (a + 1) d) := fun hs => by
          show _ = _
          rw [← HO.out, outer_more _ hlt, ← HI.out, inner_done _ hs]
        have OUT : Aside _ := out
        clear out
        by_cases hja : a < j
        · obtain ⟨k, hk⟩ : ∃ q, q + 1 = j := ⟨j - 1, by omega⟩
          have hkj : j - 1 = k := by omega
          have zjk : (j : Int) = (k : Int) + 1 := by omega
          have hjad : decide ((k : Int) + 1 > (a : Int)) = true := decide_eq_true (by omega)
          have hjaz : (a : Int) < (k : Int) + 1 := by omega
          have ej : ((k : Int) + 1).toNat = j := by omega
          have pj : (0 : Int) ≤ (k : Int) + 1 := by omega
          have bj : (k : Int) + 1 < (d.size : Int) := by omega
          have rj : IntKind.i64.wrap ((k : Int) + 1) = (k : Int) + 1 := by rw [IntKind.wrap_i64]; omega
          have bk : (k : Int) < (d.size : Int) := by omega
          obtain ⟨cx, fx⟩ := SJ.out.row j (by omega)
          obtain ⟨cy, fy⟩ := SJ.out.row k (by omega)
          have hcc := Cmps.at HC.out SJ.out dj[j]! dj[k]!
          cases hlv : (ltc cf) dj[j]! dj[j - 1]! with
          | true =>
            have HN : Hid (insInner (ltc cf) a k (swp dj j k) = insInner (ltc cf) a i dk) := by
              show _ = _
              rw [← HI.out, inner_more (ltc cf) hja hlv, hkj]
            rw [hkj] at hlv
            have hv : cf dj[j]! dj[k]! < 0 := of_decide_eq_true hlv
            generalize cf dj[j]! dj[k]! = cv at hcc hv
            have hd : decide (cv < 0) = true := decide_eq_true hv
            clear HI OUT hlv
            go_wp2_with fail
            go_quiet ((go_at_call 29; refine Calls.quiet_of (hcc _)))
            have S2 : Aside (St vl blk W0 dj (wr.drewN nq)) := SJ.out.drewN nq
            clear hcc cx cy fx fy SJ
            generalize wr.drewN nq = w2 at S2 ⊢
            obtain ⟨x, hx⟩ : ∃ x, x = vl dj[j]! := ⟨_, rfl⟩
            obtain ⟨y, hy⟩ : ∃ y, y = vl dj[k]! := ⟨_, rfl⟩
            have S3 : Aside (St vl blk W0 (swp dj j k) ((w2.setCell ⟨blk, j, none⟩ (.int .i64 (y : Nat))).setCell ⟨blk, k, none⟩ (.int .i64 (x : Nat))).drew) := by rw [hx, hy]; exact S2.out.swap j k (by omega) (by omega)
            obtain ⟨ca, fa⟩ := S2.out.row j (by omega)
            obtain ⟨cb, fb⟩ := S2.out.row k (by omega)
            obtain ⟨u, cc⟩ := S2.out.second j k (by omega) (.int .i64 (y : Nat))
            rw [← hx] at ca
            rw [← hy] at cb
            clear S2 hx hy
            go_wp2_with fail
            go_region
            clear ca cb fa fb cc
            generalize ((w2.setCell ⟨blk, j, none⟩ (.int .i64 (y : Nat))).setCell ⟨blk, k, none⟩ (.int .i64 (x : Nat))).drew = w3 at S3 ⊢
            go_wp2
            go_roundg k
            case measure => omega
            case rel => exact ⟨k, swp dj j k, by first | rfl | go_num, by omega, by omega, Nat.le_refl _, by rw [Go.Sort.size_swp]; exact hsj, S3, HN⟩
          | false =>
            have S3 : Aside (∀ nq, St vl blk W0 dj (wr.drewN nq)) := fun nq => SJ.out.drewN nq
            have HN := OUT.out (Or.inr hlv)
            rw [hkj] at hlv
            have hv : ¬ cf dj[j]! dj[k]! < 0 := of_decide_eq_false hlv
            generalize cf dj[j]! dj[k]! = cv at hcc hv
            have hd : decide (cv < 0) = false := decide_eq_false hv
            generalize hxx : vl dj[j]! = x at *
            generalize hyy : vl dj[k]! = y at *
            clear SJ HI OUT hlv hxx hyy
            go_wp2_with fail
            go_quiet ((go_at_call 29; refine Calls.quiet_of (hcc _)))
            have S4 : Aside _ := S3.out nq
            clear hcc S3 cx cy fx fy
            generalize wr.drewN nq = w3 at S4 ⊢
            go_wp2
            go_roundg (b - (i + 1))
            case measure => omega
            case rel => exact ⟨i + 1, dj, by go_num, by omega, by omega, by omega, hsj, S4, HN⟩
        · have hjaz : decide ((j : Int) > (a : Int)) = false := decide_eq_false (by omega)
          have hjaz' : ¬ (a : Int) < (j : Int) := by omega
          have HN := OUT.out (Or.inl (by omega))
          have S3 : Aside (∀ nq, St vl blk W0 dj (wr.drewN nq)) := fun nq => SJ.out.drewN nq
          clear OUT SJ HI
          go_wp2_with fail
          go_quiet (fail)
          have S4 : Aside _ := S3.out nq
          clear S3
          generalize wr.drewN nq = w3 at S4 ⊢
          go_wp2
          go_roundg (b - (i + 1))
          case measure => omega
          case rel => exact ⟨i + 1, dj, by go_num, by omega, by omega, by omega, hsj, S4, HN⟩
    · have hltz : ¬ (i : Int) < (b : Int) := by omega
      go_wp2
      go_end0
      exact ⟨rfl, by unfold Go.Sort.insertionSort; rw [← HO.out, outer_done _ hlt]; exact S1.out⟩
end Go.Proofs.Ytpaelakaolggmaa.rank
