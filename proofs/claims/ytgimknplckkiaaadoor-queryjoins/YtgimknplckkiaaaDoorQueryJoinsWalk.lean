/-
  The walk of QueryJoins: of whatever parts the call answers true.
-/
import Derived.Test.YtgimknplckkiaaaDoorQueryOpen
import Derived.Test.YtgimknplckkiaaaDoorQueryHeavy
import Derived.Test.YtgimknplckkiaaaDoorQueryKnown
namespace Go.Proofs.YtgimknplckkiaaaDoor.query
open Go.ChangeShapes Go.WideShapes Go.ChangeAt Go.RowKit Go.Deep
open Go.Proofs.YtgimknplckkiaaaDoor.dims
open Go.Proofs.YtgimknplckkiaaaDoor.table
open Go.Proofs.YtgimknplckkiaaaDoor.cell (C4 In64)
set_option linter.unusedVariables false
set_option maxRecDepth 100000

/-- what the first parts are like -/
structure JL (ps : List Pt) (n k : Nat) (x : Int) : Prop where
  sm : ∀ i, i < k → ∀ r ∈ (ptn ps i).rs, r.k.length ≤ 2000
  eq : n ≤ 20 → x = (allR ps k).length ∧ (allR ps k).length ≤ 300 * k
theorem JL.start (ps : List Pt) (n : Nat) : JL ps n 0 0 := ⟨fun i hi => by omega, fun _ => by rw [allR_zero]; simp⟩
theorem JL.step {ps : List Pt} {n k : Nat} {x : Int} (h : JL ps n k x) (hk : k < ps.length) (hkn : k < n) (h1 : (ptn ps k).rs.length ≤ 300) (h2 : ∀ r ∈ (ptn ps k).rs, r.k.length ≤ 2000) : JL ps n (k + 1) (wrap64 (x + ((ptn ps k).rs.length : Int))) := by
  refine ⟨fun i hi => ?_, fun hn => ?_⟩
  · by_cases e : i = k
    · subst e; exact h2
    · exact h.sm i (by omega)
  · obtain ⟨e1, e2⟩ := h.eq hn
    rw [allR_succ hk, List.length_append]
    unfold wrap64
    omega

set_option maxHeartbeats 16000000 in
theorem joins_walk (a0 : Option Addr) (n0 c0 : Nat) (ps : List Pt) (w : World) (hp : Pow w) (hI : PartsIn w a0 ps) (e0 : ps.length = n0 ∧ n0 ≤ c0 ∧ c0 ≤ maxLen) (hl : ∀ p ∈ ps, p.rs.length ≤ 9223372036854775807) (hb : ∀ p ∈ ps, ∀ r ∈ p.rs, r.k.length ≤ 17592186044416) :
    Calls Tryd.prog 4 #[.slice a0 n0 c0] w fun e w' => e = .returned (.bool true) ∧ Below w.heap.size w w' := by
  have hn0 : n0 ≤ 9223372036854775807 := Nat.le_trans e0.2.1 (Nat.le_trans e0.2.2 maxLen_le2)
  have HH : Aside (Pow w ∧ PartsIn w a0 ps ∧ ps.length = n0 ∧ (∀ p ∈ ps, p.rs.length ≤ 9223372036854775807) ∧ ∀ p ∈ ps, ∀ r ∈ p.rs, r.k.length ≤ 17592186044416) := ⟨hp, hI, e0.1, hl, hb⟩
  clear hp hI e0 hl hb
  go_enter Tryd.func4, Tryd.ntmps4
  go_wp2_with fail
  go_loopg [3, 4] n0 (fun g1 v vi wr => ∃ (k : Nat) (x : Int), v = .int .i64 x ∧ vi = .int .i64 k ∧ k ≤ n0 ∧ n0 - k ≤ g1 ∧ Aside (JL ps n0 k x ∧ Below w.heap.size w wr))
  case atStart => exact ⟨0, 0, rfl, rfl, Nat.zero_le _, Nat.le_refl _, JL.start ps n0, Below.refl _ _⟩
  case round =>
    obtain ⟨k, x, rfl, rfl, hk, hg1, SK⟩ := hrel
    by_cases hlt : k < n0
    · have hltz : (k : Int) < (n0 : Int) := by omega
      have hkl : k < ps.length := by rw [HH.out.2.2.1]; exact hlt
      have B1 : Aside (Below w.heap.size w wr) := SK.out.2
      obtain ⟨b, off, ha, hc⟩ := (HH.out.2.1.keep B1.out).get hkl
      subst ha
      obtain ⟨r0, hR⟩ := hc k hkl
      clear hc
      have hml := HH.out.2.2.2.1 _ (ptn_mem hkl)
      have C1 := heavy_q none (ptn ps k).a none none none 0 0 (ptn ps k).rs.length (ptn ps k).cap 0 0 0 0 0 0 [] (ptn ps k).rs wr (.inl rfl) rfl (by omega) hR rfl hml (HH.out.2.2.2.2 _ (ptn_mem hkl))
      have SN : Aside ((ptn ps k).rs.length ≤ 300 → (∀ r ∈ (ptn ps k).rs, r.k.length ≤ 2000) → JL ps n0 (k + 1) (wrap64 (x + ((ptn ps k).rs.length : Int)))) := fun h1 h2 => SK.out.1.step hkl hlt h1 h2
      clear hR SK
      have l0 := cell_lt r0
      obtain ⟨m, hm⟩ : ∃ m, (ptn ps k).rs.length = m := ⟨_, rfl⟩
      rw [hm] at r0 C1 SN hml
      generalize (ptn ps k).a = pa at r0 C1
      generalize (ptn ps k).cap = pc at r0 C1
      generalize (ptn ps k).rs = rk at C1 SN hm
      go_wp2_with fail
      refine C1.mono ?_
      rintro e w2 ⟨hh, hb2⟩
      have B2 : Aside (Below w.heap.size w w2) := B1.out.trans (hb2.mono B1.out.size)
      have r1 := (hb2.cell (p := ⟨b, off + k, none⟩) l0).trans r0
      clear hb2 B1 r0 l0 C1
      rcases hh with rfl | ⟨rfl, h300, hsm⟩
      · have CK := known_q w2 (HH.out.1.keep B2.out)
        go_wp2_with (go_at_call 10; refine CK.mono ?_; rintro e wx ⟨rfl, hbx⟩)
        go_ret
        exact ⟨rfl, B2.out.trans (hbx.mono B2.out.size)⟩
      · have S2 : Aside (JL ps n0 (k + 1) (wrap64 (x + (m : Int)))) := SN.out (by omega) (hsm trivial trivial trivial trivial)
        clear SN h300 hsm hm
        go_wp2
        go_roundg (n0 - (k + 1))
        case measure => omega
        case rel => exact ⟨k + 1, _, rfl, by go_num, by omega, by omega, S2.out, B2.out⟩
    · have hltz : ¬ (k : Int) < (n0 : Int) := by omega
      have B1 : Aside (Below w.heap.size w wr) := SK.out.2
      have SL : Aside (JL ps n0 k x) := SK.out.1
      have CK := known_q wr (HH.out.1.keep B1.out)
      clear SK
      by_cases h20 : (20 : Int) < (n0 : Int)
      · go_wp2_with (go_at_call 10; refine CK.mono ?_; rintro e wx ⟨rfl, hbx⟩)
        go_ret
        exact ⟨rfl, B1.out.trans (hbx.mono B1.out.size)⟩
      by_cases h700 : (700 : Int) < x
      · go_wp2_with (go_at_call 10; refine CK.mono ?_; rintro e wx ⟨rfl, hbx⟩)
        go_ret
        exact ⟨rfl, B1.out.trans (hbx.mono B1.out.size)⟩
      have HT : Aside (total ps ≤ 10000 ∧ ∀ p ∈ ps, ∀ r ∈ p.rs, r.k.length ≤ 1000000) := by
        have hke : k = ps.length := by rw [HH.out.2.2.1]; omega
        refine ⟨?_, fun p hp r hr => ?_⟩
        · have := (SL.out.eq (by omega)).1
          unfold total
          rw [← hke]; omega
        · obtain ⟨i, hi, rfl⟩ := List.mem_iff_getElem.1 hp
          have := SL.out.sm i (by omega) r (by rw [ptn_eq hi]; exact hr)
          omega
      have hn20 : n0 ≤ 10000 := by omega
      go_wp2_with (go_at_call 10; refine CK.mono ?_; rintro e w2 ⟨rfl, hbx⟩; refine Hid.out ?_)
      refine Lib.hid ?_
      have B2 : Aside (Below w.heap.size w w2) := B1.out.trans (hbx.mono B1.out.size)
      clear CK hbx B1 SL h700 h20
      go_wp2_with fail
      refine (join_any a0 n0 c0 ps w2 (HH.out.1.keep B2.out) (HH.out.2.1.keep B2.out) HH.out.2.2.1 hn20 HT.out.1 HT.out.2).mono ?_
      rintro e w3 ⟨v1, rfl, hT1, hb3⟩
      have B3 : Aside (Below w.heap.size w w3) := B2.out.trans (hb3.mono B2.out.size)
      have T3 : Aside (TabOut w3 v1 (toldT (joinT (plains ps)))) := hT1
      clear hT1 hb3 B2
      go_wp2_with fail
      refine (refJoin_any a0 n0 c0 ps w3 (HH.out.2.1.keep B3.out) HH.out.2.2.1 hn20 HT.out.1 HT.out.2).mono ?_
      rintro e w4 ⟨v2, rfl, hT2, hb4⟩
      have B4 : Aside (Below w.heap.size w w4) := B3.out.trans (hb4.mono B3.out.size)
      have C1 := same_tabs (T3.out.keep hb4) hT2
      clear hT2 hb4 B3 T3
      go_wp2_with fail
      refine C1.mono ?_
      rintro e w5 ⟨rfl, hb5⟩
      have B5 : Aside (Below w.heap.size w w5) := B4.out.trans (hb5.mono B4.out.size)
      clear C1 hb5 B4
      have hE : toldE (joinT (plains ps)) 0 = 0 ∨ toldE (joinT (plains ps)) 0 = 61 := by unfold toldE; split <;> simp
      generalize toldE (joinT (plains ps)) 0 = E at hE ⊢
      rcases hE with rfl | rfl
      all_goals
        go_wp2
        go_ret
        exact ⟨rfl, B5.out⟩
end Go.Proofs.YtgimknplckkiaaaDoor.query
