/-
  The contract of the chapter's own Nodes.
-/
import Derived.Test.YtfhihkogdnbghaaSpanNodes
import Derived.Test.YtfhihkogdnbghaaSpanSmall
namespace Go.Proofs.Ytfhihkogdnbghaa.spans
open Go.ChangeShapes Go.WideShapes Go.ChangeAt Go.RowKit Go.Deep
open Go.Proofs.Ytfhihkogdnbghaa.bytes (ret_bool hid nth addr_add cell_lt own_below own_mono)
set_option linter.unusedVariables false
set_option maxRecDepth 100000
set_option linter.unusedSimpArgs false

theorem six_take : ∀ k, k < 6 → six.take (k + 1) = six.take k ++ [(k : Int)]
  | 0, _ => rfl
  | 1, _ => rfl
  | 2, _ => rfl
  | 3, _ => rfl
  | 4, _ => rfl
  | 5, _ => rfl
theorem ints_one1 {w : World} {g : Nat} {x : Int} (h : w.cell? ⟨g, 0, none⟩ = some (.int .i64 x)) : Ints w (some ⟨g, 0, none⟩) [x] :=
  .inr ⟨g, 0, rfl, fun i hi => by
    obtain rfl : i = 0 := by simpa using hi
    exact h⟩
theorem holds_none {l : List Sp} {f t n : Int} (h : ∀ v, f ≤ v → v < t → find l v ≠ n) : holdsB l f t n = false := by
  cases e : holdsB l f t n with
  | false => rfl
  | true =>
    obtain ⟨v, h1, h2, h3⟩ := holdsB_iff.1 e
    exact absurd h3 (h v h1 h2)

set_option maxRecDepth 100000 in
set_option maxHeartbeats 8000000 in
theorem refNodes_any (ep : Int) (a : Option Addr) (n c : Nat) (l : List Sp) (frm till : Int) (w : World) (h : Sps w a n c l) :
    Calls Try.prog 26 #[mapV ep a n c, .int .i64 frm, .int .i64 till] w (NodesOut w l frm till) := by
  obtain ⟨W0, hW0⟩ : ∃ W0, w.alloc (.cells (mapC ep a n c) 29) = W0 := ⟨_, rfl⟩
  have hb0 : Below w.heap.size w W0 := by rw [← hW0]; exact (Below.refl _ w).alloc (Nat.le_refl _) _
  have hM : Bx W0 w.heap.size (mapC ep a n c) 29 := by rw [← hW0]; exact Bx.new _ _ _
  have P : Aside (∀ W, Below W0.heap.size W0 W → W.cell? ⟨w.heap.size, 0, none⟩ = some (.int .u32 ep) ∧ W.cell? ⟨w.heap.size, 1, none⟩ = some (.slice a n c)) := fun W hb => ⟨(hM.below hb).cell (j := 0) rfl, (hM.below hb).cell (j := 1) rfl⟩
  have HF : Aside (∀ v W, Below W0.heap.size W0 W → Calls Try.prog 20 #[mapV ep a n c, .int .i64 v] W fun e w' => e = .returned (.int .i64 (find l v)) ∧ Below W.heap.size W w') := fun v W hb => refFind_any ep a n c l v W ((h.keep hb0).keep hb)
  have HB : Aside (Below w.heap.size w W0) := hb0
  have HW : Hid (w.alloc (.cells #[.int .u32 ep, .slice a n c] 29) = W0) := hW0
  obtain ⟨t1, ht1⟩ : ∃ t1, min till 10000 = t1 := ⟨_, rfl⟩
  obtain ⟨f1, hf1⟩ : ∃ f1, max frm 0 = f1 := ⟨_, rfl⟩
  have hf0 : 0 ≤ f1 := by omega
  have ht0 : t1 ≤ 10000 := by omega
  have HN : Aside (nodesOf l frm till = six.filter (holdsB l f1 t1)) := by unfold nodesOf; rw [hf1, ht1]; rfl
  clear h hb0 hM hW0
  unfold mapV at HF ⊢
  go_enter Try.func26, Try.ntmps26
  go_wp2_with fail
  rw [HW.out]
  go_loopg [7, 8, 9, 10] 6 (fun g1 v7 v8 v9 v10 wr => ∃ (k : Nat), v8 = .int .i64 k ∧ k ≤ 6 ∧ 6 - k ≤ g1 ∧ Aside (IntsOwn W0.heap.size wr v7 ((six.take k).filter (holdsB l f1 t1)) ∧ Below W0.heap.size W0 wr))
  case atStart => exact ⟨0, rfl, Nat.zero_le _, Nat.le_refl _, IntsOwn.nil _ _, Below.refl _ _⟩
  case round =>
    obtain ⟨k, rfl, hk, hg1, SK⟩ := hrel
    by_cases hlt : k < 6
    · have hltz : (k : Int) < 6 := by omega
      have HS : Aside ((six.take (k + 1)).filter (holdsB l f1 t1) = (six.take k).filter (holdsB l f1 t1) ++ (if holdsB l f1 t1 k = true then [(k : Int)] else [])) := by
        show _ = _
        rw [six_take k hlt, List.filter_append]
        by_cases hq : holdsB l f1 t1 k = true
        · rw [if_pos hq, List.filter_cons_of_pos hq]; rfl
        · rw [if_neg hq, List.filter_cons_of_neg hq]; rfl
      go_wp2_with fail
      obtain ⟨W1, hW1⟩ : ∃ W1, wr = W1 := ⟨_, rfl⟩
      rw [hW1] at SK ⊢
      clear hW1
      go_loopg [9, 10] ((t1 - f1).toNat + 1) (fun g2 v9 v10 wr => ∃ (j : Nat) (b : Bool), v9 = .bool b ∧ v10 = .int .i64 (f1 + j) ∧ (f1 < t1 → f1 + j ≤ t1) ∧ (t1 ≤ f1 → j = 0) ∧ (t1 - f1).toNat - j ≤ g2 ∧ (b = false → ∀ v, f1 ≤ v → v < f1 + j → find l v ≠ k) ∧ (b = true → holdsB l f1 t1 k = true) ∧ Aside (Below W1.heap.size W1 wr))
      case atStart => exact ⟨0, false, rfl, by simp, fun _ => by omega, fun _ => rfl, by omega, fun _ v h1 h2 => (by omega), fun h => (by cases h), Below.refl _ _⟩
      case round =>
        obtain ⟨j, b, rfl, rfl, hj1, hj2, hg2, hb1, hb2, SJ⟩ := hrel
        obtain ⟨m0, m1⟩ := P.out wr (SK.out.2.trans (SJ.out.mono SK.out.2.size))
        have hF := HF.out (f1 + j) wr (SK.out.2.trans (SJ.out.mono SK.out.2.size))
        by_cases hlv : f1 + (j : Int) < t1
        · cases b with
          | false =>
            have hj1' := hj1 (by omega)
            have H1 : Aside (∀ v, f1 ≤ v → v < f1 + j → find l v ≠ k) := hb1 rfl
            have HX : Aside (f1 < t1) := by show _ < _; omega
            clear hb1 hb2 hj1 hj2
            obtain ⟨z, hz⟩ : ∃ z, find l (f1 + j) = z := ⟨_, rfl⟩
            rw [hz] at hF
            have hn1 : f1 + (j : Int) + 1 = f1 + ((j + 1 : Nat) : Int) := by omega
            by_cases he : z = (k : Int)
            · have hq : (z == (k : Int)) = true := by simp [he]
              have E : Aside (holdsB l f1 t1 k = true) := holdsB_iff.2 ⟨f1 + j, by omega, hlv, by rw [hz]; exact he⟩
              clear he
              go_wp2_with (go_at_call 20; refine hF.mono ?_; rintro e w2 ⟨rfl, hb2⟩)
              go_roundg ((t1 - f1).toNat - (j + 1))
              case measure => omega
              case rel => exact ⟨j + 1, true, rfl, by go_num, fun _ => (by omega), fun h => (by omega), by omega, fun h => (by cases h), fun _ => E.out, SJ.out.trans (hb2.mono SJ.out.size)⟩
            · have hq : (z == (k : Int)) = false := by simp [he]
              have E : Aside (∀ v, f1 ≤ v → v < f1 + ((j + 1 : Nat) : Int) → find l v ≠ k) := fun v h1 h2 => by
                by_cases e : v = f1 + j
                · rw [e, hz]; exact he
                · exact H1.out v h1 (by omega)
              clear he
              go_wp2_with (go_at_call 20; refine hF.mono ?_; rintro e w2 ⟨rfl, hb2⟩)
              go_roundg ((t1 - f1).toNat - (j + 1))
              case measure => omega
              case rel => exact ⟨j + 1, false, rfl, by go_num, fun _ => (by omega), fun h => (by omega), by omega, fun _ => E.out, fun h => (by cases h), SJ.out.trans (hb2.mono SJ.out.size)⟩
          | true =>
            have E : Aside (holdsB l f1 t1 k = true) := hb2 rfl
            have S2 : Aside (IntsOwn W0.heap.size wr u7 ((six.take k).filter (holdsB l f1 t1)) ∧ Below W0.heap.size W0 wr) := ⟨SK.out.1.keep SJ.out, SK.out.2.trans (SJ.out.mono SK.out.2.size)⟩
            rw [if_pos E.out] at HS
            clear hb1 hb2 hF SK SJ m0 m1 P HF E hj1 hj2
            obtain ⟨q, hq⟩ : ∃ q, ((six.take k).filter (holdsB l f1 t1)).length + 1 = q := ⟨_, rfl⟩
            have HQ : Hid (((six.take k).filter (holdsB l f1 t1)).length + 1 = q) := hq
            have hq8 : q ≤ 7 := by
              have h1 : ((six.take k).filter (holdsB l f1 t1)).length ≤ (six.take k).length := List.length_filter_le _ _
              have h2 : (six.take k).length ≤ 6 := by rw [List.length_take]; exact Nat.min_le_right _ _
              omega
            clear hq
            go_wp2_with (at_builtin; refine wpList_ints rfl (.tmp 33) (.tmp 35) rfl W0.heap.size _ _ rfl (S2.out.1.keep ((Below.refl _ _).alloc (Nat.le_refl _) _)) (some ⟨wr.heap.size, 0, none⟩) 1 1 [(k : Int)] rfl (ints_one1 ((Bx.new _ _ _).cell (j := 0) rfl)) rfl q HQ.out (by omega) (by have := S2.out.2.size; simp; omega) ?_; intro a3 c3 w3 hown3 hg3; refine Hid.out ?_)
            refine hid ?_
            have S3 : Aside (IntsOwn W0.heap.size w3 (.slice a3 q c3) ((six.take (k + 1)).filter (holdsB l f1 t1)) ∧ Below W0.heap.size W0 w3) := by
              have ka := (Below.refl _ wr).alloc (Nat.le_refl _) (.cells #[.int .i64 (k : Int)] 3)
              rw [HS.out]
              have k2 := S2.out.2.trans (ka.mono S2.out.2.size)
              exact ⟨hown3, k2.trans (own_bel (S2.out.1.keep ka) hg3 (Nat.le_refl _) k2.size)⟩
            clear hown3 hg3 S2 HS
            go_wp2
            go_roundg (6 - (k + 1))
            case measure => omega
            case rel => exact ⟨k + 1, by go_num, by omega, by omega, S3.out⟩
        · have hlv2 : ¬ f1 + (j : Int) < t1 := hlv
          have S2 : Aside (IntsOwn W0.heap.size wr u7 ((six.take k).filter (holdsB l f1 t1)) ∧ Below W0.heap.size W0 wr) := ⟨SK.out.1.keep SJ.out, SK.out.2.trans (SJ.out.mono SK.out.2.size)⟩
          cases b with
          | false =>
            have E : holdsB l f1 t1 k = false := holds_none fun v h1 h2 => hb1 rfl v h1 (by omega)
            rw [E] at HS
            have S3 : Aside (IntsOwn W0.heap.size wr u7 ((six.take (k + 1)).filter (holdsB l f1 t1)) ∧ Below W0.heap.size W0 wr) := by
              have e : (six.take (k + 1)).filter (holdsB l f1 t1) = (six.take k).filter (holdsB l f1 t1) := by rw [HS.out]; simp
              have h1 := S2.out
              rw [← e] at h1
              exact h1
            clear hb1 hb2 hF SK SJ m0 m1 P HF E hj1 hj2 S2 HS
            go_wp2
            go_roundg (6 - (k + 1))
            case measure => omega
            case rel => exact ⟨k + 1, by go_num, by omega, by omega, S3.out⟩
          | true =>
            have E : Aside (holdsB l f1 t1 k = true) := hb2 rfl
            rw [if_pos E.out] at HS
            clear hb1 hb2 hF SK SJ m0 m1 P HF E hj1 hj2
            obtain ⟨q, hq⟩ : ∃ q, ((six.take k).filter (holdsB l f1 t1)).length + 1 = q := ⟨_, rfl⟩
            have HQ : Hid (((six.take k).filter (holdsB l f1 t1)).length + 1 = q) := hq
            have hq8 : q ≤ 7 := by
              have h1 : ((six.take k).filter (holdsB l f1 t1)).length ≤ (six.take k).length := List.length_filter_le _ _
              have h2 : (six.take k).length ≤ 6 := by rw [List.length_take]; exact Nat.min_le_right _ _
              omega
            clear hq
            go_wp2_with (at_builtin; refine wpList_ints rfl (.tmp 33) (.tmp 35) rfl W0.heap.size _ _ rfl (S2.out.1.keep ((Below.refl _ _).alloc (Nat.le_refl _) _)) (some ⟨wr.heap.size, 0, none⟩) 1 1 [(k : Int)] rfl (ints_one1 ((Bx.new _ _ _).cell (j := 0) rfl)) rfl q HQ.out (by omega) (by have := S2.out.2.size; simp; omega) ?_; intro a3 c3 w3 hown3 hg3; refine Hid.out ?_)
            refine hid ?_
            have S3 : Aside (IntsOwn W0.heap.size w3 (.slice a3 q c3) ((six.take (k + 1)).filter (holdsB l f1 t1)) ∧ Below W0.heap.size W0 w3) := by
              have ka := (Below.refl _ wr).alloc (Nat.le_refl _) (.cells #[.int .i64 (k : Int)] 3)
              rw [HS.out]
              have k2 := S2.out.2.trans (ka.mono S2.out.2.size)
              exact ⟨hown3, k2.trans (own_bel (S2.out.1.keep ka) hg3 (Nat.le_refl _) k2.size)⟩
            clear hown3 hg3 S2 HS
            go_wp2
            go_roundg (6 - (k + 1))
            case measure => omega
            case rel => exact ⟨k + 1, by go_num, by omega, by omega, S3.out⟩
    · have hltz : ¬ (k : Int) < 6 := by omega
      have E : Aside (NodesOut w l frm till (.returned u7) wr) := by
        obtain rfl : k = 6 := by omega
        have h1 := SK.out.1
        rw [show six.take 6 = six from rfl, ← HN.out] at h1
        exact ⟨_, rfl, h1.mono HB.out.size, HB.out.trans (SK.out.2.mono HB.out.size)⟩
      clear SK
      go_wp2
      go_ret
      exact E.out
end Go.Proofs.Ytfhihkogdnbghaa.spans
