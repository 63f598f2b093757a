/-
  The walk of SpansNew: at first all members are one node's; a batch is that node's part.
-/
import Derived.Test.YtfhihkogdnbghaaSpanKnown
import Derived.Test.YtfhihkogdnbghaaSpanOpen
import Derived.Test.YtfhihkogdnbghaaSpanCuts
namespace Go.Proofs.Ytfhihkogdnbghaa.spans
open Go.ChangeShapes Go.WideShapes Go.ChangeAt Go.RowKit Go.Deep
open Go.Proofs.Ytfhihkogdnbghaa.bytes (ret_bool hid nth addr_add cell_lt own_below own_mono)
set_option linter.unusedVariables false
set_option maxRecDepth 100000
set_option linter.unusedSimpArgs false


/-- a fact of a member -/
def memB (f : Ft) : Bool := decide (0 < f.k.length) && decide (0 ≤ key0 f)
def l1 : List Sp := [(0, 0)]
theorem find_l1 (v : Int) : find l1 v = if 0 ≤ v then 0 else -1 := rfl
theorem part_l1 (fs : List Ft) : (partsOf l1 fs 0).length = fs.countP memB ∧ (partsOf l1 fs 1).length = 0 := by
  constructor
  · rw [partsOf, ← List.countP_eq_length_filter]
    congr 1
    funext f
    unfold inPart memB
    rw [find_l1]
    by_cases h : 0 ≤ key0 f
    · rw [if_pos h]; simp [h]
    · rw [if_neg h]; simp [h]
  · rw [List.length_eq_zero_iff, partsOf, List.filter_eq_nil_iff]
    intro f _
    unfold inPart
    rw [find_l1]
    by_cases h : 0 ≤ key0 f
    · rw [if_pos h]; simp
    · rw [if_neg h]; simp
theorem nodes_l1 (v : Int) (h0 : 0 ≤ v) (h1 : v < 10000) : nodesOf l1 v (v + 1) = [0] := by
  refine rise_ext (nodes_rise _ _ _) (List.pairwise_singleton _ _) fun x => ?_
  rw [nodes_mem, List.mem_singleton]
  constructor
  · rintro ⟨_, u, h2, h3, e⟩
    rw [find_l1, if_pos (by omega)] at e
    exact e.symm
  · rintro rfl
    exact ⟨by omega, v, by omega, by omega, by rw [find_l1, if_pos h0]⟩
theorem count_take {α : Type} {p : α → Bool} {l : List α} {k : Nat} (h : k < l.length) : (l.take (k + 1)).countP p = (l.take k).countP p + (if p l[k] = true then 1 else 0) := by
  rw [List.take_succ_eq_append_getElem h, List.countP_append, List.countP_singleton]

set_option maxRecDepth 100000 in
set_option maxHeartbeats 4000000 in
theorem newLaw_walk (v : Int) (a : Option Addr) (n c : Nat) (fs : List Ft) (w : World) (hF : FactsIn w a fs) (hn : fs.length = n) (hn9 : n ≤ 9223372036854775807) (t0 : 0 ≤ v ∧ v ≤ 65535) :
    Calls Try.prog 10 #[.int .u16 v, .slice a n c] w fun e w' => e = .returned (.bool true) ∧ Below w.heap.size w w' := by
  obtain ⟨t00, t01⟩ := t0
  have hK := fun W => known_any W
  have H := asd (show FactsIn w a fs ∧ fs.length = n from ⟨hF, hn⟩)
  clear hF hn
  by_cases h100 : 100 < n
  · have hz : (100 : Int) < (n : Int) := by omega
    go_enter Try.func10, Try.ntmps10
    go_wp2_with (go_at_call 13; refine (hK _).mono ?_; rintro e w1 ⟨rfl, hb1⟩)
    go_ret
    exact ⟨rfl, hb1⟩
  have hz : ¬ (100 : Int) < (n : Int) := by omega
  have hN := fun W => new_any W
  unfold MapOut at hN
  go_enter Try.func10, Try.ntmps10
  go_wp2_with (first
    | (go_at_call 13; refine (hK _).mono ?_; rintro e w1 ⟨rfl, hb1⟩)
    | (go_at_call 28; refine (hN _).mono ?_; rintro e w2 ⟨am, nm, cm, rfl, hsp, hnw, hb2⟩; unfold mapV; refine Hid.out ?_))
  refine hid ?_
  obtain ⟨W1, hW1⟩ : ∃ W1, w2.alloc (.cells (mapC 1 am nm cm) 29) = W1 := ⟨_, rfl⟩
  have ka : Below w2.heap.size w2 W1 := by rw [← hW1]; exact (Below.refl _ w2).alloc (Nat.le_refl _) _
  have hX : Bx W1 w2.heap.size (mapC 1 am nm cm) 29 := by rw [← hW1]; exact Bx.new _ _ _
  have k1 := hb1.trans (hb2.mono hb1.size)
  have HB1 := asd (show Below w.heap.size w W1 from k1.trans (ka.mono k1.size))
  have HS := asd (show Sps W1 am nm cm l1 ∧ nm ≤ maxLen from ⟨hsp.keep ka, by rw [← hsp.len]; decide⟩)
  have HW1 : Hid (w2.alloc (.cells #[.int .u32 1, .slice am nm cm] 29) = W1) := hW1
  obtain ⟨mb, hmb⟩ : ∃ mb, w2.heap.size = mb := ⟨_, rfl⟩
  rw [hmb] at hX
  have HP := asd (show ∀ W, Below W1.heap.size W1 W → W.cell? ⟨mb, 0, none⟩ = some (.int .u32 1) ∧ W.cell? ⟨mb, 1, none⟩ = some (.slice am nm cm) from fun W hb => ⟨(hX.below hb).cell (j := 0) rfl, (hX.below hb).cell (j := 1) rfl⟩)
  clear hb1 hb2 hsp hnw ka hX k1 hW1 hN
  go_upto_region 4 with fail
  rw [HW1.out]
  try rw [hmb]
  clear hmb
  have HF1 := asd (show FactsIn W1 a fs from H.out.1.keep HB1.out)
  go_wp2_with fail
  go_loopg [6, 7] n (fun g1 v6 v7 wr => ∃ (k : Nat), v6 = .int .i64 ((fs.take k).countP memB : Nat) ∧ v7 = .int .i64 k ∧ k ≤ n ∧ n - k ≤ g1 ∧ wr = W1)
  case atStart => exact ⟨0, rfl, rfl, Nat.zero_le _, Nat.le_refl _, rfl⟩
  case round =>
    obtain ⟨k, rfl, rfl, hk, hg1, rfl⟩ := hrel
    by_cases hlt : k < n
    · have hltz : (k : Int) < (n : Int) := by omega
      have hkl : k < fs.length := by rw [H.out.2]; exact hlt
      obtain ⟨b, off, ha, hc⟩ := HF1.out.get hkl
      subst ha
      obtain ⟨r0, r1, hok⟩ := hc k hkl
      clear hc
      have HT := asd (count_take (p := memB) hkl)
      rw [← ftn_eq hkl] at HT
      have hcl : (fs.take k).countP memB ≤ k := Nat.le_trans List.countP_le_length (by rw [List.length_take]; omega)
      generalize (fs.take k).countP memB = m at HT hcl
      obtain ⟨f, hf⟩ : ∃ f, ftn fs k = f := ⟨_, rfl⟩
      rw [hf] at r0 r1 hok HT
      have HK : Aside (FtOk wr f) := hok
      clear hok hf
      obtain ⟨kn, hkn⟩ : ∃ kn, f.k.length = kn := ⟨_, rfl⟩
      have HFN : Hid (f.k.length = kn) := hkn
      rw [hkn] at r0
      clear hkn
      by_cases h0 : kn = 0
      · have hz : ¬ (0 : Int) < (kn : Int) := by omega
        have hzn : ¬ 0 < kn := by omega
        have E := asd (show (fs.take (k + 1)).countP memB = m by
          rw [HT.out, if_neg (by unfold memB; rw [HFN.out, h0]; simp)]; rfl)
        clear h0 HT
        go_wp2
        go_roundg (n - (k + 1))
        case measure => omega
        case rel => exact ⟨k + 1, by rw [E.out], by go_num, by omega, by omega, rfl⟩
      · have hz : (0 : Int) < (kn : Int) := by omega
        have hzn : 0 < kn := by omega
        obtain ⟨kb, ko, hka, hkc⟩ := HK.out.mem.get (k := 0) (by rw [HFN.out]; omega)
        have k0 := hkc 0 (by rw [HFN.out]; omega)
        simp only [Nat.add_zero] at k0
        rw [hka] at r0
        have hmB : memB f = decide (0 ≤ nth f.k 0) := by unfold memB; rw [HFN.out, decide_eq_true hzn]; rfl
        rw [hmB] at HT
        clear hkc hmB hka
        generalize nth f.k 0 = v0 at k0 HT
        by_cases hv : 0 ≤ v0
        · have E := asd (show (fs.take (k + 1)).countP memB = m + 1 by rw [HT.out, if_pos (by simp [hv])])
          clear h0 HT
          go_wp2
          go_roundg (n - (k + 1))
          case measure => omega
          case rel => exact ⟨k + 1, by rw [E.out]; go_num, by go_num, by omega, by omega, rfl⟩
        · have E := asd (show (fs.take (k + 1)).countP memB = m by rw [HT.out, if_neg (by simp [hv])]; rfl)
          clear h0 HT
          go_wp2
          go_roundg (n - (k + 1))
          case measure => omega
          case rel => exact ⟨k + 1, by rw [E.out], by go_num, by omega, by omega, rfl⟩
    · have hltz : ¬ (k : Int) < (n : Int) := by omega
      obtain ⟨m, hm⟩ : ∃ m, (fs.take k).countP memB = m := ⟨_, rfl⟩
      have hm2 : fs.countP memB = m := by rw [← hm, List.take_of_length_le (by rw [H.out.2]; omega)]
      have hm9 : m ≤ n := by rw [← hm2, ← H.out.2]; exact List.countP_le_length
      rw [hm]
      clear hm
      obtain ⟨x, hx⟩ : ∃ x, v % 1000 = x := ⟨_, rfl⟩
      have q0 : 0 ≤ x := by rw [← hx]; exact Int.emod_nonneg _ (by omega)
      have q1 : x < 1000 := by rw [← hx]; exact Int.emod_lt_of_pos _ (by omega)
      have y0 : v.tmod 1000 = x := by rw [Int.tmod_eq_emod_of_nonneg t00, hx]
      have HBW := Below.refl wr.heap.size wr
      have CN : ∀ W, Below wr.heap.size wr W → Calls Try.prog 12 #[.agg #[.int .u32 1, .slice am nm cm], .int .i64 x, .int .i64 (x + 1)] W fun e w' => ∃ g c2, e = .returned (.slice (some ⟨g, 0, none⟩) 1 c2) ∧ Below wr.heap.size wr w' ∧ (∀ W', Below w'.heap.size w' W' → W'.cell? ⟨g, 0, none⟩ = some (.int .i64 0)) := fun W hb => by
        refine (nodes_any 1 am nm cm l1 x (x + 1) W (HS.out.1.keep hb) HS.out.2).mono fun e w' ⟨v2, g1, g2, g3⟩ => ?_
        rw [nodes_l1 x q0 (by omega)] at g2
        rcases g2.2 with ⟨hv, e0⟩ | ⟨g, cap, cur, hv, _⟩
        · simp at e0
        · subst hv
          refine ⟨g, cap, g1, hb.trans (g3.mono hb.size), fun W' hW' => ?_⟩
          have h5 := World.ownsRow.cellAt (g2.keep hW') 0 (by simp)
          simpa [vals] using h5
      have CF : ∀ u W, Below wr.heap.size wr W → Calls Try.prog 19 #[.agg #[.int .u32 1, .slice am nm cm], .int .i64 u] W fun e w' => e = .returned (.int .i64 (find l1 u)) ∧ Below wr.heap.size wr w' ∧ Below W.heap.size W w' := fun u W hb => (find_any 1 am nm cm l1 u W (HS.out.1.keep hb)).mono fun e w' ⟨g1, g2⟩ => ⟨g1, hb.trans (g2.mono hb.size), g2⟩
      have CF0 := CF v
      have CF1 := CF (-1)
      rw [show find l1 v = 0 by rw [find_l1, if_pos t00]] at CF0
      rw [show find l1 (-1) = -1 from rfl] at CF1
      have CSo : ∀ W, Below wr.heap.size wr W → Calls Try.prog 17 #[.agg #[.int .u32 1, .slice am nm cm], .int .i64 1, .int .i64 1] W fun e w' => e = .returned (.bool true) ∧ Below wr.heap.size wr w' := fun W hb => (sound_any 1 am nm cm l1 1 1 W (HS.out.1.keep hb)).mono fun e w' ⟨g1, g2⟩ => ⟨by rw [g1, show sndB 1 1 l1 = true by decide +kernel], hb.trans (g2.mono hb.size)⟩
      have CP : ∀ nd W, Below wr.heap.size wr W → Calls Try.prog 23 #[.agg #[.int .u32 1, .slice am nm cm], .slice a n c, .int .i64 nd] W fun e w' => ∃ a4 c4, e = .returned (.slice a4 (partsOf l1 fs nd).length c4) ∧ Below wr.heap.size wr w' := fun nd W hb => (parts_any 1 am nm cm l1 a n c fs nd W (HS.out.1.keep hb) (HF1.out.keep hb) H.out.2 (by omega)).mono fun e w' ⟨a4, q4, c4, gs, g1, g2, g3, g4, g5, g6⟩ => by
        have e2 : q4 = (partsOf l1 fs nd).length := by rw [g2, ← List.length_map (f := pf), g3, List.length_map]
        subst e2
        exact ⟨a4, c4, g1, hb.trans (g6.mono hb.size)⟩
      have CP0 := CP 0
      have CP1 := CP 1
      rw [(part_l1 fs).1, hm2] at CP0
      rw [(part_l1 fs).2] at CP1
      have HN := asd CN
      have HF0 := asd CF0
      have HF2 := asd CF1
      have HSo := asd CSo
      have HP0 := asd CP0
      have HP1 := asd CP1
      obtain ⟨p0, p1⟩ := HP.out wr HBW
      clear CN CF CF0 CF1 CSo CP CP0 CP1 hm2 hx
      go_upto_region 11 with (go_at_call 12; (with_reducible refine Calls.mono (HN.out _ HBW) ?_); rintro e w3 ⟨g, c2, rfl, hb3, hg3⟩; obtain ⟨p0, p1⟩ := HP.out w3 hb3)
      clear HN HBW
      have HG3 := asd hg3
      clear hg3
      go_wp2_with (first
        | (go_at_call 19; (with_reducible refine Calls.mono (HF0.out _ hb3) ?_); rintro e w4 ⟨rfl, hb4, kb4⟩; obtain ⟨p0, p1⟩ := HP.out w4 hb4)
        | (go_at_call 19; (with_reducible refine Calls.mono (HF2.out _ hb4) ?_); rintro e w5 ⟨rfl, hb5, kb5⟩; obtain ⟨p0, p1⟩ := HP.out w5 hb5; refine Hid.out ?_))
      refine hid ?_
      have g0 := HG3.out w5 (kb4.trans (kb5.mono kb4.size))
      clear HG3 kb4 kb5
      go_wp2_with (first
        | (go_at_call 23; (with_reducible refine Calls.mono (HP0.out _ hb5) ?_); rintro e w6 ⟨a6, c6, rfl, hb6⟩; obtain ⟨p0, p1⟩ := HP.out w6 hb6)
        | (go_at_call 23; (with_reducible refine Calls.mono (HP1.out _ hb6) ?_); rintro e w7 ⟨a7, c7, rfl, hb7⟩; obtain ⟨p0, p1⟩ := HP.out w7 hb7)
        | (go_at_call 17; (with_reducible refine Calls.mono (HSo.out _ hb7) ?_); rintro e w8 ⟨rfl, hb8⟩))
      go_ret
      exact ⟨rfl, HB1.out.trans (hb8.mono HB1.out.size)⟩
end Go.Proofs.Ytfhihkogdnbghaa.spans
