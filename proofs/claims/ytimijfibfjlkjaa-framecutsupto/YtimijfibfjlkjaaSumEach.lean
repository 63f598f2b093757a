/-
  The contracts of each (by the pair's take) and of Sum; of the chapter's own Sum.
-/
import Derived.Test.YtimijfibfjlkjaaSumTake
namespace Go.Proofs.Ytimijfibfjlkjaa.sum
open Go.ChangeShapes Go.WideShapes Go.ChangeAt Go.RowKit Go.Deep
open Go.Proofs.Ytimijfibfjlkjaa.bytes
set_option linter.unusedVariables false
set_option maxRecDepth 100000

/-- the bytes of all lists -/
def flat (ls : List Lr) : List UInt8 := (ls.map (·.l)).flatten
theorem flat_take {ls : List Lr} {k : Nat} (h : k < ls.length) : flat (ls.take (k + 1)) = flat (ls.take k) ++ (ln ls k).l := by
  unfold flat
  rw [List.take_succ_eq_append_getElem h, List.map_append, List.flatten_append, ln_eq h]
  simp
theorem take_byte {l : List UInt8} {j : Nat} (h : j < l.length) : l.take (j + 1) = l.take j ++ [l.getD j 0] := by
  rw [List.take_succ_eq_append_getElem h]
  simp [h]
/-- the pair's box within the loops -/
structure ES (w : World) (R : Nat) (W : World) (t : AB) : Prop where
  bel : Below w.heap.size w W
  box : Has2 W R t.1 t.2
  lt : R < W.heap.size
  low : Low t
theorem ES.step {w W W1 : World} {R : Nat} {t : AB} (h : ES w R W t) (hR : w.heap.size ≤ R) (c : UInt8) (hb : Below R W W1) (hh : Has2 W1 R ((t.1 + c.toNat) % 65521) ((t.2 + (t.1 + c.toNat) % 65521) % 65521)) : ES w R W1 (one t c) :=
  ⟨h.bel.trans (hb.mono hR), hh, Nat.lt_of_lt_of_le h.lt hb.size, one_low t c⟩

set_option maxHeartbeats 4000000 in
theorem each_any (R n c : Nat) (a : Option Addr) (ls : List Lr) (w W : World) (s : AB) (hL : ListsIn w a ls) (hn : ls.length = n) (hm : n ≤ 9223372036854775807) (hl : ∀ x ∈ ls, x.l.length ≤ 9223372036854775807) (hR : w.heap.size ≤ R) (hS : ES w R W s) :
    Calls Try.prog 29 #[.slice a n c, .func (.func 30) #[.pointer (some ⟨R, 0, none⟩)] #[]] W fun e w' => e = .returned (.tuple #[]) ∧ ES w R w' (run s (flat ls)) := by
  have HH : Aside (ListsIn w a ls ∧ ls.length = n ∧ (∀ x ∈ ls, x.l.length ≤ 9223372036854775807) ∧ w.heap.size ≤ R) := ⟨hL, hn, hl, hR⟩
  have S0 : Aside (ES w R W s) := hS
  clear hL hn hl hR hS
  go_enter Try.func29, Try.ntmps29
  go_wp2_with fail
  go_loopg [5, 7, 10] n (fun g1 vb vc vi wr => ∃ (k : Nat), vi = .int .i64 k ∧ k ≤ n ∧ n - k ≤ g1 ∧ Aside (ES w R wr (run s (flat (ls.take k)))))
  case atStart => exact ⟨0, rfl, Nat.zero_le _, Nat.le_refl _, S0.out⟩
  case round =>
    clear S0
    obtain ⟨k, rfl, hk, hg1, SK⟩ := hrel
    by_cases hlt : k < n
    · have hltz : (k : Int) < (n : Int) := by omega
      have hkl : k < ls.length := by rw [HH.out.2.1]; exact hlt
      obtain ⟨b, off, ha, hc⟩ := (HH.out.1.keep SK.out.bel).get hkl
      subst ha
      obtain ⟨r0, r1⟩ := hc k hkl
      clear hc
      have hml : (ln ls k).l.length ≤ 9223372036854775807 := HH.out.2.2.1 _ (by rw [ln_eq hkl]; exact List.getElem_mem _)
      have HF : Aside (run s (flat (ls.take (k + 1))) = run (run s (flat (ls.take k))) (ln ls k).l) := by show _ = _; rw [flat_take hkl, run_append]
      obtain ⟨t, ht⟩ : ∃ t, run s (flat (ls.take k)) = t := ⟨_, rfl⟩
      rw [ht] at SK HF
      obtain ⟨m, hmm⟩ : ∃ m, (ln ls k).l.length = m := ⟨_, rfl⟩
      have R1 : Aside (ByIn w (ln ls k).a (ln ls k).l ∧ (ln ls k).l.length = m) := by
        refine ⟨?_, hmm⟩
        have := HH.out.1.get hkl
        obtain ⟨b2, off2, -, hc2⟩ := this
        exact (hc2 k hkl).2
      rw [hmm] at r0 hml
      clear r1 hmm ht
      generalize (ln ls k).a = la at r0 R1
      generalize (ln ls k).cap = lc at r0
      generalize (ln ls k).l = l at R1 HF
      generalize hW : wr = W1 at r0 SK
      have HB : Aside (Below W1.heap.size W1 W1) := Below.refl _ _
      go_wp2_with fail
      go_loopg [7, 16] m (fun g2 vc vj wr => ∃ (j : Nat), vj = .int .i64 j ∧ j ≤ m ∧ m - j ≤ g2 ∧ Aside (ES w R wr (run t (l.take j))))
      case atStart => exact ⟨0, rfl, Nat.zero_le _, Nat.le_refl _, SK.out⟩
      case round =>
        clear SK
        obtain ⟨j, rfl, hj, hg2, SJ⟩ := hrel
        by_cases hlt2 : j < m
        · have hltz2 : (j : Int) < (m : Int) := by omega
          have hjl : j < l.length := by rw [R1.out.2]; exact hlt2
          obtain ⟨b3, off3, ha3, hc3⟩ := (R1.out.1.keep SJ.out.bel).get (by omega)
          subst ha3
          have r3 := hc3 j hjl
          clear hc3
          have HT : Aside (run t (l.take (j + 1)) = one (run t (l.take j)) (l.getD j 0)) := by show _ = _; rw [take_byte hjl, run_append]; rfl
          unfold bth at r3
          obtain ⟨x, hx⟩ : ∃ x : UInt8, l.getD j 0 = x := ⟨_, rfl⟩
          rw [hx] at r3 HT
          clear hx
          obtain ⟨u, hu⟩ : ∃ u, run t (l.take j) = u := ⟨_, rfl⟩
          rw [hu] at SJ HT
          clear hu
          have hC := take_any R u.1 u.2 x.toNat wr SJ.out.lt SJ.out.box SJ.out.low.1 SJ.out.low.2 x.toNat_lt
          have HS : Aside (∀ W1, Below R wr W1 → Has2 W1 R ((u.1 + x.toNat) % 65521) ((u.2 + (u.1 + x.toNat) % 65521) % 65521) → ES w R W1 (run t (l.take (j + 1)))) := fun W1 hb hh => by rw [HT.out]; exact SJ.out.step HH.out.2.2.2 x hb hh
          clear HT SJ
          generalize x.toNat = z at r3 hC HS
          go_wp2_with (go_at_call 30; refine hC.mono ?_; rintro e w3 ⟨rfl, hb3, hh3⟩)
          have S3 : Aside (ES w R w3 (run t (l.take (j + 1)))) := HS.out w3 hb3 hh3
          clear hC HS hb3 hh3
          go_roundg (m - (j + 1))
          case measure => omega
          case rel => exact ⟨j + 1, by go_num, by omega, by omega, S3.out⟩
        · have hltz2 : ¬ (j : Int) < (m : Int) := by omega
          have S3 : Aside (ES w R wr (run s (flat (ls.take (k + 1))))) := by
            have h := SJ.out
            rw [List.take_of_length_le (by rw [R1.out.2]; omega)] at h
            rw [HF.out]; exact h
          clear SJ
          go_wp2
          go_roundg (n - (k + 1))
          case measure => omega
          case rel => exact ⟨k + 1, by go_num, by omega, by omega, S3.out⟩
    · have hltz : ¬ (k : Int) < (n : Int) := by omega
      have S3 : Aside (ES w R wr (run s (flat ls))) := by
        have h := SK.out
        rwa [List.take_of_length_le (by rw [HH.out.2.1]; omega)] at h
      clear SK
      go_wp2
      go_end0
      exact ⟨rfl, S3.out⟩
end Go.Proofs.Ytimijfibfjlkjaa.sum
