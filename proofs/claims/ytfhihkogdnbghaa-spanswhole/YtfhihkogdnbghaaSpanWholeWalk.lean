/-
  The walk of SpansWhole: each fact is in one node's part.
-/
import Derived.Test.YtfhihkogdnbghaaSpanNewWalk
import Derived.Test.YtfhihkogdnbghaaSpanOf
import Derived.Test.YtfhihkogdnbghaaByteGrows
namespace Go.Proofs.Ytfhihkogdnbghaa.spans
open Go.ChangeShapes Go.WideShapes Go.ChangeAt Go.RowKit Go.Deep
open Go.Proofs.Ytfhihkogdnbghaa.bytes (ret_bool hid nth addr_add cell_lt own_below own_mono Grw wp_region_grow grow_same grow_of)
set_option linter.unusedVariables false
set_option maxRecDepth 100000
set_option linter.unusedSimpArgs false

def sumP (l : List Sp) (fs : List Ft) : Nat → Nat
  | 0 => 0
  | k + 1 => sumP l fs k + (partsOf l fs (k : Int)).length
theorem sumP_le (l : List Sp) (fs : List Ft) : ∀ k, sumP l fs k ≤ k * fs.length
  | 0 => by simp [sumP]
  | k + 1 => by
    have h1 := sumP_le l fs k
    have h2 : (partsOf l fs (k : Int)).length ≤ fs.length := List.length_filter_le _ _
    unfold sumP
    rw [Nat.add_mul, Nat.one_mul]; omega
theorem sum_all {s : Int} {l : List Sp} (h : Snd s 4 l) (fs : List Ft) : sumP l fs 4 = fs.countP memB := by
  induction fs with
  | nil => rfl
  | cons f r ih =>
    have e : ∀ k, (partsOf l (f :: r) k).length = (partsOf l r k).length + (if inPart l k f = true then 1 else 0) := fun k => by
      unfold partsOf
      by_cases h : inPart l k f = true
      · rw [List.filter_cons_of_pos h, if_pos h]; rfl
      · rw [List.filter_cons_of_neg h, if_neg h]; rfl
    have h4 : sumP l (f :: r) 4 = sumP l r 4 + ((if inPart l 0 f = true then 1 else 0) + (if inPart l 1 f = true then 1 else 0) + (if inPart l 2 f = true then 1 else 0) + (if inPart l 3 f = true then 1 else 0)) := by
      simp only [sumP, e]
      simp
      omega
    rw [h4, ih, List.countP_cons]
    congr 1
    unfold inPart memB
    by_cases h0 : 0 < f.k.length
    · by_cases h1 : 0 ≤ key0 f
      · obtain ⟨f1, f2⟩ := h.find_ok h1
        have f3 : find l (key0 f) < 4 := by omega
        generalize find l (key0 f) = z at f1 f3
        have hz : z = 0 ∨ z = 1 ∨ z = 2 ∨ z = 3 := by omega
        rcases hz with rfl | rfl | rfl | rfl <;> simp [h0, h1]
      · have hz := h.can.find_neg (show key0 f < 0 by omega)
        rw [hz]; simp [h1]
    · simp [h0]
theorem part_in {l : List Sp} {fs gs : List Ft} {nd : Int} (h : gs.map pf = (partsOf l fs nd).map pf) {i : Nat} (hi : i < gs.length) : 0 < (ftn gs i).k.length ∧ find l (key0 (ftn gs i)) = nd := by
  have h1 : pf (ftn gs i) ∈ (partsOf l fs nd).map pf := by rw [← h]; exact List.mem_map.2 ⟨_, ftn_mem hi, rfl⟩
  obtain ⟨f, hf, e⟩ := List.mem_map.1 h1
  have e1 : f.k = (ftn gs i).k := congrArg Prod.fst e
  have h2 := (List.mem_filter.1 hf).2
  unfold inPart key0 at h2
  rw [e1] at h2
  simp only [Bool.and_eq_true, decide_eq_true_eq] at h2
  exact h2

set_option maxRecDepth 100000 in
set_option maxHeartbeats 4000000 in
theorem wholeLaw_walk (ca : Option Addr) (cn cc : Nat) (cs : List Ct) (a : Option Addr) (n c : Nat) (fs : List Ft) (w : World) (hC : CutsIn w ca cs) (hcn : cs.length = cn) (hcn9 : cn ≤ 9223372036854775807) (hF : FactsIn w a fs) (hn : fs.length = n) (hn9 : n ≤ 9223372036854775807) :
    Calls Try.prog 9 #[.slice ca cn cc, .slice a n c] w fun e w' => e = .returned (.bool true) ∧ Below w.heap.size w w' := by
  have hK := fun W => known_any W
  have H := asd (show FactsIn w a fs ∧ fs.length = n from ⟨hF, hn⟩)
  by_cases h100 : 100 < n
  · have hz : (100 : Int) < (n : Int) := by omega
    clear hC hcn hF hn
    go_enter Try.func9, Try.ntmps9
    go_wp2_with (go_at_call 13; refine (hK _).mono ?_; rintro e w1 ⟨rfl, hb1⟩)
    go_ret
    exact ⟨rfl, hb1⟩
  have hz : ¬ (100 : Int) < (n : Int) := by omega
  have hok := asd (ofM_ok (s := 100) (n := 4) (by omega) (by omega) (cs.take 30))
  have HOf := asd (show ∀ W, Below w.heap.size w W → Calls Try.prog 11 #[.int .i64 100, .int .i64 4, .slice ca cn cc] W (OfOut W (ofM 100 4 (cs.take 30))) from fun W hb => of_any ca cn cc cs 100 4 W (hC.keep hb) hcn hcn9 (by omega) (by omega))
  generalize ofM 100 4 (cs.take 30) = M at HOf hok
  clear hC hcn hF hn
  go_enter Try.func9, Try.ntmps9
  go_wp2_with (first
    | (go_at_call 13; refine (hK _).mono ?_; rintro e w1 ⟨rfl, hb1⟩)
    | (go_at_call 11; refine Calls.mono (HOf.out _ hb1) ?_; rintro e w2 ⟨am, nm, cm, rfl, hsp, hnm, hb2⟩; unfold mapV; refine Hid.out ?_))
  refine hid ?_
  obtain ⟨ep, hep⟩ : ∃ ep, M.1 = ep := ⟨_, rfl⟩
  rw [hep]
  clear hep
  obtain ⟨W1, hW1⟩ : ∃ W1, w2.alloc (.cells (mapC ep am nm cm) 29) = W1 := ⟨_, rfl⟩
  have ka : Below w2.heap.size w2 W1 := by rw [← hW1]; exact (Below.refl _ w2).alloc (Nat.le_refl _) _
  have hX : Bx W1 w2.heap.size (mapC ep am nm cm) 29 := by rw [← hW1]; exact Bx.new _ _ _
  have k1 := hb1.trans (hb2.mono hb1.size)
  have HB1 := asd (show Below w.heap.size w W1 from k1.trans (ka.mono k1.size))
  have HS := asd (hsp.keep ka)
  have HW1 : Hid (w2.alloc (.cells #[.int .u32 ep, .slice am nm cm] 29) = W1) := hW1
  obtain ⟨mb, hmb⟩ : ∃ mb, w2.heap.size = mb := ⟨_, rfl⟩
  rw [hmb] at hX
  have HP := asd (show ∀ W, Below W1.heap.size W1 W → W.cell? ⟨mb, 0, none⟩ = some (.int .u32 ep) ∧ W.cell? ⟨mb, 1, none⟩ = some (.slice am nm cm) from fun W hb => ⟨(hX.below hb).cell (j := 0) rfl, (hX.below hb).cell (j := 1) rfl⟩)
  clear hb1 hb2 hsp hnm ka hX k1 hW1 HOf
  go_upto_region 4 with fail
  rw [HW1.out]
  try rw [hmb]
  clear hmb
  have HF1 := asd (show FactsIn W1 a fs from H.out.1.keep HB1.out)
  go_wp2_with fail
  go_loopg [7, 8] n (fun g1 v6 v7 wr => ∃ (k : Nat), v6 = .int .i64 ((fs.take k).countP memB : Nat) ∧ v7 = .int .i64 k ∧ k ≤ n ∧ n - k ≤ g1 ∧ wr = W1)
  case atStart => exact ⟨0, rfl, rfl, Nat.zero_le _, Nat.le_refl _, rfl⟩
  case round =>
    obtain ⟨k, rfl, rfl, hk, hg1, rfl⟩ := hrel
    by_cases hlt : k < n
    · have hltz : (k : Int) < (n : Int) := by omega
      have hkl : k < fs.length := by rw [H.out.2]; exact hlt
      obtain ⟨b, off, ha, hc⟩ := HF1.out.get hkl
      subst ha
      obtain ⟨r0, r1, hok⟩ := hc k hkl
      clear hc
      have HT := asd (count_take (p := memB) hkl)
      rw [← ftn_eq hkl] at HT
      have hcl : (fs.take k).countP memB ≤ k := Nat.le_trans List.countP_le_length (by rw [List.length_take]; omega)
      generalize (fs.take k).countP memB = m at HT hcl
      obtain ⟨f, hf⟩ : ∃ f, ftn fs k = f := ⟨_, rfl⟩
      rw [hf] at r0 r1 hok HT
      have HK : Aside (FtOk wr f) := hok
      clear hok hf
      obtain ⟨kn, hkn⟩ : ∃ kn, f.k.length = kn := ⟨_, rfl⟩
      have HFN : Hid (f.k.length = kn) := hkn
      rw [hkn] at r0
      clear hkn
      by_cases h0 : kn = 0
      · have hz : ¬ (0 : Int) < (kn : Int) := by omega
        have hzn : ¬ 0 < kn := by omega
        have E := asd (show (fs.take (k + 1)).countP memB = m by
          rw [HT.out, if_neg (by unfold memB; rw [HFN.out, h0]; simp)]; rfl)
        clear h0 HT
        go_wp2
        go_roundg (n - (k + 1))
        case measure => omega
        case rel => exact ⟨k + 1, by rw [E.out], by go_num, by omega, by omega, rfl⟩
      · have hz : (0 : Int) < (kn : Int) := by omega
        have hzn : 0 < kn := by omega
        obtain ⟨kb, ko, hka, hkc⟩ := HK.out.mem.get (k := 0) (by rw [HFN.out]; omega)
        have k0 := hkc 0 (by rw [HFN.out]; omega)
        simp only [Nat.add_zero] at k0
        rw [hka] at r0
        have hmB : memB f = decide (0 ≤ nth f.k 0) := by unfold memB; rw [HFN.out, decide_eq_true hzn]; rfl
        rw [hmB] at HT
        clear hkc hmB hka
        generalize nth f.k 0 = v0 at k0 HT
        by_cases hv : 0 ≤ v0
        · have E := asd (show (fs.take (k + 1)).countP memB = m + 1 by rw [HT.out, if_pos (by simp [hv])])
          clear h0 HT
          go_wp2
          go_roundg (n - (k + 1))
          case measure => omega
          case rel => exact ⟨k + 1, by rw [E.out]; go_num, by go_num, by omega, by omega, rfl⟩
        · have E := asd (show (fs.take (k + 1)).countP memB = m by rw [HT.out, if_neg (by simp [hv])]; rfl)
          clear h0 HT
          go_wp2
          go_roundg (n - (k + 1))
          case measure => omega
          case rel => exact ⟨k + 1, by rw [E.out], by go_num, by omega, by omega, rfl⟩
    · have hltz : ¬ (k : Int) < (n : Int) := by omega
      obtain ⟨m, hm⟩ : ∃ m, (fs.take k).countP memB = m := ⟨_, rfl⟩
      have HM := asd (show sumP M.2 fs 4 = m by rw [sum_all hok.out.snd, ← hm, List.take_of_length_le (by rw [H.out.2]; omega)])
      rw [hm]
      clear hm
      obtain ⟨W2, hW2⟩ : ∃ W2, wr = W2 := ⟨_, rfl⟩
      rw [hW2] at HS HB1 HP HF1 ⊢
      clear hW2 HW1
      have CP : ∀ nd W, Below W2.heap.size W2 W → Calls Try.prog 23 #[.agg #[.int .u32 ep, .slice am nm cm], .slice a n c, .int .i64 nd] W fun e w' => ∃ a4 q4 c4 gs, e = .returned (.slice a4 q4 c4) ∧ Aside (q4 = gs.length ∧ q4 = (partsOf M.2 fs nd).length ∧ gs.map pf = (partsOf M.2 fs nd).map pf ∧ FactsIn w' a4 gs ∧ Below W2.heap.size W2 w') := fun nd W hb => (parts_any ep am nm cm M.2 a n c fs nd W (HS.out.keep hb) (HF1.out.keep hb) H.out.2 (by omega)).mono fun e w' ⟨a4, q4, c4, gs, g1, g2, g3, g4, g5, g6⟩ => ⟨a4, q4, c4, gs, g1, g2, by rw [g2, ← List.length_map (f := pf), g3, List.length_map], g3, g4, hb.trans (g6.mono hb.size)⟩
      have HCP := asd CP
      clear CP
      go_wp2_with fail
      go_loopg [6, 9, 10, 11] 4 (fun g1 v6 v9 v10 v11 wr => ∃ (q many : Nat), v6 = .int .i64 many ∧ v9 = .int .i64 q ∧ q ≤ 4 ∧ 4 - q ≤ g1 ∧ many ≤ 400 ∧ Aside (many = sumP M.2 fs q ∧ Below W2.heap.size W2 wr))
      case atStart => exact ⟨0, 0, rfl, rfl, by omega, by omega, by omega, rfl, Below.refl _ _⟩
      case round =>
        obtain ⟨q, many, rfl, rfl, hq, hg2, hmany, SQ⟩ := hrel
        obtain ⟨p0, p1⟩ := HP.out wr SQ.out.2
        by_cases hlq : q < 4
        · have hlqz : (q : Int) < 4 := by omega
          go_upto_region 15 with (go_at_call 23; (with_reducible refine Calls.mono (HCP.out _ _ SQ.out.2) ?_); rintro e w3 ⟨a4, q4, c4, gs, rfl, hp4⟩)
          have hq4 : q4 ≤ 100 := by
            rw [hp4.out.2.1]
            have h2 : (partsOf M.2 fs (q : Int)).length ≤ fs.length := List.length_filter_le _ _
            have h3 := H.out.2
            omega
          have hm4 : many + q4 ≤ 400 := by
            have h2 := sumP_le M.2 fs (q + 1)
            have h3 : sumP M.2 fs (q + 1) = many + q4 := by rw [SQ.out.1, hp4.out.2.1]; rfl
            have h4 : (q + 1) * fs.length ≤ 4 * fs.length := Nat.mul_le_mul_right _ (by omega)
            have h5 := H.out.2
            omega
          clear p0 p1
          go_upto_region 16 with fail
          obtain ⟨W3, hW3⟩ : ∃ W3, w3 = W3 := ⟨_, rfl⟩
          rw [hW3] at hp4 ⊢
          clear hW3
          go_wp2_with fail
          go_loopg [11] q4 (fun g1 v11 wr => ∃ (i : Nat), v11 = .int .i64 i ∧ i ≤ q4 ∧ q4 - i ≤ g1 ∧ Aside (Below W3.heap.size W3 wr))
          case atStart => exact ⟨0, rfl, Nat.zero_le _, Nat.le_refl _, Below.refl _ _⟩
          case round =>
            obtain ⟨i, rfl, hi, hg3, SI⟩ := hrel
            have HBW := asd (hp4.out.2.2.2.2.trans (SI.out.mono hp4.out.2.2.2.2.size))
            by_cases hli : i < q4
            · have hliz : (i : Int) < (q4 : Int) := by omega
              have hil : i < gs.length := by rw [← hp4.out.1]; exact hli
              obtain ⟨b4, o4, ha4, hc4⟩ := (hp4.out.2.2.2.1.keep SI.out).get hil
              subst ha4
              obtain ⟨r0, -, hok4⟩ := hc4 i hil
              obtain ⟨h5, h6⟩ := part_in hp4.out.2.2.1 hil
              clear hc4
              obtain ⟨f, hf⟩ : ∃ f, ftn gs i = f := ⟨_, rfl⟩
              rw [hf] at r0 hok4 h5 h6
              clear hf
              obtain ⟨kb, ko, hka, hkc⟩ := hok4.mem.get h5
              have k0 := hkc 0 h5
              simp only [Nat.add_zero] at k0
              obtain ⟨kn, hkn⟩ : ∃ kn, f.k.length = kn := ⟨_, rfl⟩
              rw [hka, hkn] at r0
              rw [hkn] at h5
              have hknz : (0 : Int) < (kn : Int) := by omega
              obtain ⟨p0, p1⟩ := HP.out wr HBW.out
              have cF := fun gw : Grw wr => find_any ep am nm cm M.2 (key0 f) gw.X ((HS.out.keep HBW.out).keep gw.bel)
              rw [h6] at cF
              unfold key0 mapV at cF
              generalize nth f.k 0 = v0 at k0 cF
              clear hkc hka hkn h6 hok4
              have A0 := fun gw : Grw wr => gw.cell p0
              have A1 := fun gw : Grw wr => gw.cell p1
              have A2 := fun gw : Grw wr => gw.cell r0
              have A3 := fun gw : Grw wr => gw.cell k0
              clear p0 p1 r0 k0
              go_upto_region 19 with fail
              have hNE : Nonempty (Grw wr) := ⟨⟨wr, Below.refl _ _⟩⟩
              refine wp_region_grow (by kernel_rfl) (by kernel_rfl) ?_
              repeat (go_big_quiet_step (first | (go_at_call 19; refine grow_of (cF _))))
              refine wpQuiet_nil ?_
              rintro _ ⟨gw, rfl⟩
              have S2 := asd (SI.out.trans (gw.bel.mono SI.out.size))
              go_wp2
              go_roundg (q4 - (i + 1))
              case measure => omega
              case rel => exact ⟨i + 1, by go_num, by omega, by omega, S2.out⟩
            · have hliz : ¬ (i : Int) < (q4 : Int) := by omega
              go_wp2
              go_roundg (4 - (q + 1))
              case measure => omega
              case rel => exact ⟨q + 1, many + q4, by go_num, by go_num, by omega, by omega, hm4, by rw [SQ.out.1, hp4.out.2.1]; rfl, HBW.out⟩
        · have hlqz : ¬ (q : Int) < 4 := by omega
          have E : many = m := by
            rw [← HM.out, SQ.out.1, show q = 4 by omega]
          subst E
          go_wp2
          go_ret
          exact ⟨rfl, HB1.out.trans (SQ.out.2.mono HB1.out.size)⟩
end Go.Proofs.Ytfhihkogdnbghaa.spans
