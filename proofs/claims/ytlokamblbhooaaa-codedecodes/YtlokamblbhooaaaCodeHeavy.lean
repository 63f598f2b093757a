/-
  The contracts of the statements' own heavy and Heavy: how much facts, and a record, weigh (modulo 2^64).
-/
import Derived.Test.YtlokamblbhooaaaCodeRefEnc
import Derived.BigQuiet
namespace Go.Proofs.Ytlokamblbhooaaa.code
open Go.ChangeShapes Go.WideShapes Go.ChangeAt Go.RowKit Go.Deep
open Go.Proofs.Ytlokamblbhooaaa.dims (nth Ints cell_lt vals vals_len vals_get vals_one vals_app own_below own_mono own_out own_apart RowOut ret_bool ret_int)
set_option linter.unusedVariables false
set_option maxRecDepth 100000
set_option linter.unusedSimpArgs false

/-- how much facts weigh -/
def fw : List Ft → Int
  | [] => 0
  | f :: l => 1 + (f.k.length : Int) + fw l
theorem fw_app (a b : List Ft) : fw (a ++ b) = fw a + fw b := by
  induction a with
  | nil => simp [fw]
  | cons x a ih => simp only [List.cons_append, fw, ih]; omega
theorem fw_take (fs : List Ft) (k : Nat) (h : k < fs.length) : fw (fs.take (k + 1)) = fw (fs.take k) + (1 + ((ftn fs k).k.length : Int)) := by
  rw [take_ftn fs k h, fw_app]; simp only [fw]; omega
/-- how much entries weigh -/
def ew : List Et → Int
  | [] => 0
  | e :: l => 1 + fw e.fs + ew l
theorem ew_app (a b : List Et) : ew (a ++ b) = ew a + ew b := by
  induction a with
  | nil => simp [ew]
  | cons x a ih => simp only [List.cons_append, ew, ih]; omega
theorem ew_take (es : List Et) (k : Nat) (h : k < es.length) : ew (es.take (k + 1)) = ew (es.take k) + (1 + fw (etn es k).fs) := by
  rw [take_etn es k h, ew_app]; simp only [ew]; omega
def rw_ (r : Rc) : Int := (r.nodes.length : Int) + r.spans.length + fw r.facts + ew r.ents

theorem w_r (a b : Int) : wrap64 (a + wrap64 b) = wrap64 (a + b) := by unfold wrap64; omega
theorem w_l (a b : Int) : wrap64 (wrap64 a + b) = wrap64 (a + b) := by unfold wrap64; omega

set_option maxHeartbeats 8000000 in
theorem heavy_any (a : Option Addr) (n c : Nat) (fs : List Ft) (w : World) (hI : FactsIn w a fs) (hn : fs.length = n) (hm : n ≤ 9223372036854775807) :
    Calls Try.prog 19 #[.slice a n c] w fun e w' => e = .returned (.int .i64 (wrap64 (fw fs))) ∧ w' = w := by
  have HI : Aside (FactsIn w a fs ∧ fs.length = n) := ⟨hI, hn⟩
  clear hI hn
  go_enter Try.func19, Try.ntmps19
  go_wp2_with fail
  go_loopg [3, 4] n (fun g1 vx vi wr => ∃ (k : Nat) (x : Int), vx = .int .i64 x ∧ vi = .int .i64 k ∧ k ≤ n ∧ n - k ≤ g1 ∧ wr = w ∧ Aside (x = wrap64 (fw (fs.take k))))
  case atStart => exact ⟨0, 0, rfl, rfl, Nat.zero_le _, Nat.le_refl _, rfl, (by simp only [List.take_zero, fw]; unfold wrap64; omega : (0 : Int) = wrap64 (fw (fs.take 0)))⟩
  case round =>
    obtain ⟨k, x, rfl, rfl, hk, hg1, hwr, SK⟩ := hrel
    have hwr2 := hwr.symm
    clear hwr
    subst hwr2
    by_cases hlt : k < n
    · have hltz : (k : Int) < (n : Int) := by omega
      have hkl : k < fs.length := by rw [HI.out.2]; exact hlt
      obtain ⟨b, off, ha, hc⟩ := HI.out.1.get hkl
      subst ha
      obtain ⟨r0, r1, r2⟩ := hc k hkl
      have hml := r2.len
      have HT : Aside (fw (fs.take (k + 1)) = fw (fs.take k) + (1 + ((ftn fs k).k.length : Int))) := fw_take fs k hkl
      clear hc r1 r2
      generalize (ftn fs k).k.length = t1 at r0 hml HT
      go_wp2
      go_roundg (n - (k + 1))
      case measure => omega
      case rel =>
        refine ⟨k + 1, _, rfl, by go_num, by omega, by omega, rfl, ?_⟩
        show _ = _
        rw [HT.out]
        have e := SK.out
        generalize fw (fs.take k) = y at e ⊢
        rw [e]
        unfold wrap64
        omega
    · have hltz : ¬ (k : Int) < (n : Int) := by omega
      have S2 : Aside (x = wrap64 (fw fs)) := by
        have h := SK.out
        rwa [List.take_of_length_le (by rw [HI.out.2]; omega)] at h
      clear SK
      go_wp2
      go_ret
      exact ⟨by rw [S2.out]; rfl, rfl⟩

set_option maxHeartbeats 8000000 in
theorem Heavy_any (w : World) (r : Rc) (hR : RecIn w r) :
    Calls Try.prog 9 #[rcV r] w fun e w' => e = .returned (.int .i64 (wrap64 (rw_ r))) ∧ Below w.heap.size w w' := by
  have hB : Below w.heap.size w (w.alloc (.cells (rcC r) 30)) := (Below.refl _ _).alloc (Nat.le_refl _) _
  have hx := Boxed.new w (rcC r) 30
  have hR0 := hR.keep hB
  have hlt0 : w.heap.size < (w.alloc (.cells (rcC r) 30)).heap.size := by simp
  generalize hW0 : w.alloc (.cells (rcC r) 30) = W0 at hB hR0 hx hlt0
  have hW1 : w.alloc (.cells #[.int .u8 r.kind, .int .u32 r.id, .int .u32 r.at_, .slice r.na r.nodes.length r.nc, .slice r.fa r.facts.length r.fc, .int .u32 r.epoch, .slice r.sa r.spans.length r.sc, .int .i64 r.frm, .int .i64 r.til, .slice r.ea r.ents.length r.ec] 30) = W0 := hW0
  have HR : Aside (RecIn W0 r ∧ Below w.heap.size w W0) := ⟨hR0, hB⟩
  have q3 : W0.cell? ⟨w.heap.size, 3, none⟩ = some (.slice r.na r.nodes.length r.nc) := hx.cell (j := 3) rfl
  have q4 : W0.cell? ⟨w.heap.size, 4, none⟩ = some (.slice r.fa r.facts.length r.fc) := hx.cell (j := 4) rfl
  have q6 : W0.cell? ⟨w.heap.size, 6, none⟩ = some (.slice r.sa r.spans.length r.sc) := hx.cell (j := 6) rfl
  have q9 : W0.cell? ⟨w.heap.size, 9, none⟩ = some (.slice r.ea r.ents.length r.ec) := hx.cell (j := 9) rfl
  have m1 := hR.nlen
  have m2 := hR.slen
  have m3 := hR.elen
  have hV : ∀ q, Calls Try.prog 19 #[.slice r.fa r.facts.length r.fc] (W0.drewN q) fun e w' => e = .returned (.int .i64 (wrap64 (fw r.facts))) ∧ w' = W0.drewN q := fun q =>
    heavy_any r.fa r.facts.length r.fc r.facts (W0.drewN q) (hR0.facts.keep (below_drewN (Below.refl _ _) q)) rfl hR.flen
  have HX : Aside (Boxed W0 w.heap.size (rcC r) 30) := hx
  obtain ⟨F, hF⟩ : ∃ F, fw r.facts = F := ⟨_, rfl⟩
  rw [hF] at hV
  obtain ⟨nn, hnn⟩ : ∃ nn, r.nodes.length = nn := ⟨_, rfl⟩
  obtain ⟨sn, hsn⟩ : ∃ sn, r.spans.length = sn := ⟨_, rfl⟩
  obtain ⟨en, hen⟩ : ∃ en, r.ents.length = en := ⟨_, rfl⟩
  have HF : Aside (rw_ r = (nn : Int) + sn + F + ew r.ents) := by show _ = _; unfold rw_; rw [hF, hnn, hsn]
  have HE : Aside (r.ents.length = en) := hen
  rw [hnn] at q3 m1
  rw [hsn] at q6 m2
  rw [hen] at q9 m3
  rw [hnn, hsn, hen] at hW1
  have HW : Hid (_ = W0) := hW1
  show Calls _ _ #[.agg #[.int .u8 r.kind, .int .u32 r.id, .int .u32 r.at_, .slice r.na r.nodes.length r.nc, .slice r.fa r.facts.length r.fc, .int .u32 r.epoch, .slice r.sa r.spans.length r.sc, .int .i64 r.frm, .int .i64 r.til, .slice r.ea r.ents.length r.ec]] _ _
  rw [hnn, hsn, hen]
  clear hW0 hW1 hR hR0 hB hx hF hnn hsn hen
  go_enter Try.func9, Try.ntmps9
  go_upto_region 1 with fail
  rw [HW.out]
  go_quiet ((go_at_call 19; refine Calls.quiet_of_same (hV _)))
  have SB : Aside (Below W0.heap.size W0 (W0.drewN nq)) := below_drewN (Below.refl _ _) nq
  generalize hW2 : W0.drewN nq = W2 at SB
  clear hV q3 q4 q6 q9
  have S0 : Aside (∀ x : Int, x = wrap64 (wrap64 ((nn : Int) + sn) + wrap64 F) → x = wrap64 ((nn : Int) + sn + F + ew (r.ents.take 0))) := fun x hx => by
    rw [hx, w_l, w_r]; simp only [List.take_zero, ew, Int.add_zero]
  go_wp2_with fail
  go_loopg [3, 4] en (fun g1 vx vi wr => ∃ (k : Nat) (x : Int), vx = .int .i64 x ∧ vi = .int .i64 k ∧ k ≤ en ∧ en - k ≤ g1 ∧ Aside (Below W0.heap.size W0 wr ∧ x = wrap64 ((nn : Int) + sn + F + ew (r.ents.take k))))
  case atStart => exact ⟨0, _, rfl, rfl, Nat.zero_le _, Nat.le_refl _, SB.out, S0.out _ rfl⟩
  case round =>
    clear S0 SB
    obtain ⟨k, x, rfl, rfl, hk, hg1, SK⟩ := hrel
    have q9 : wr.cell? ⟨w.heap.size, 9, none⟩ = some (.slice r.ea r.ents.length r.ec) := (HX.out.below SK.out.1).cell (j := 9) rfl
    rw [HE.out] at q9
    by_cases hlt : k < en
    · have hltz : (k : Int) < (en : Int) := by omega
      have hkl : k < r.ents.length := by rw [HE.out]; exact hlt
      obtain ⟨b, off, ha, hc⟩ := (HR.out.1.ents.keep SK.out.1).get hkl
      rw [ha] at q9
      clear ha
      obtain ⟨r0, r1, r2⟩ := hc k hkl
      have HT : Aside (ew (r.ents.take (k + 1)) = ew (r.ents.take k) + (1 + fw (etn r.ents k).fs)) := ew_take r.ents k hkl
      have hV := heavy_any (etn r.ents k).a (etn r.ents k).fs.length (etn r.ents k).cap (etn r.ents k).fs wr r2.mem rfl r2.len
      obtain ⟨z, hz⟩ : ∃ z, fw (etn r.ents k).fs = z := ⟨_, rfl⟩
      rw [hz] at hV HT
      clear hc r2 hz
      generalize (etn r.ents k).fs.length = t1 at r1 hV
      generalize (etn r.ents k).cap = t2 at r1 hV
      generalize (etn r.ents k).a = t3 at r1 hV
      generalize (etn r.ents k).t = t4 at r0
      go_wp2_with (go_at_call 19; refine hV.mono ?_; rintro e w3 ⟨rfl, hww⟩; have hww2 := hww.symm; clear hww; subst hww2)
      go_roundg (en - (k + 1))
      case measure => omega
      case rel =>
        refine ⟨k + 1, _, rfl, by go_num, by omega, by omega, SK.out.1, ?_⟩
        rw [HT.out]
        have e := SK.out.2
        generalize ew (r.ents.take k) = y at e ⊢
        rw [e, w_r, ← Int.add_assoc, w_r, Int.add_assoc, w_l]
        congr 1
        omega
    · have hltz : ¬ (k : Int) < (en : Int) := by omega
      have S2 : Aside (x = wrap64 (rw_ r)) := by
        have h := SK.out.2
        rw [List.take_of_length_le (by rw [HE.out]; omega)] at h
        rw [HF.out]; exact h
      go_wp2
      go_ret
      exact ⟨by rw [S2.out]; rfl, HR.out.2.trans (SK.out.1.mono HR.out.2.size)⟩
end Go.Proofs.Ytlokamblbhooaaa.code
