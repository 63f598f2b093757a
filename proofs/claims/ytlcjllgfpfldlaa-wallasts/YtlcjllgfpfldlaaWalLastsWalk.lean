/-
 The walk of WalLasts.
-/
import Derived.Test.YtlcjllgfpfldlaaWalShare
import Derived.Deep.RegionHeld3
namespace Go.Proofs.Ytlcjllgfpfldlaa.wal
open Go.ChangeShapes Go.WideShapes Go.ChangeAt Go.RowKit Go.Deep
open Go.Proofs.Ytlcjllgfpfldlaa.code (Rc PRec pr rcC rcV RecIn OwnIn sndRec recB dec dec_recB Far far_row I64)
open Go.Proofs.Ytlcjllgfpfldlaa.bytes
open Go.Proofs.Ytlcjllgfpfldlaa.disk
open Go.Proofs.Ytlcjllgfpfldlaa.frame (scanB rowsB wrapB wrapB_len)
set_option linter.unusedVariables false
set_option maxRecDepth 100000
set_option linter.unusedSimpArgs false

theorem force_halts {rs : List PRec} {d : Dk} (h : LogIs recB rs d) (hf : -1 ≤ d.left) (x : PRec) :
  ((forceR x d).2 = 0 ∧ encN x = 0 ∧ LogIs recB (rs ++ [x]) (forceR x d).1) ∨ ((forceR x d).2 ≠ 0 ∧ LogIs recB rs (forceR x d).1) ∨
  ((forceR x d).2 ≠ 0 ∧ (forceR x d).1.left = 0 ∧ (forceR x d).1.b = logB recB (rs ++ [x]) ∧ (forceR x d).1.lasts = (logB recB rs).length ∧ encN x = 0) := by
 by_cases he : encN x = 0
 ·rw [forceR_ok he]
  rcases force_is h hf x with ⟨h1, h2, -⟩ | ⟨h1, h2, -⟩ | ⟨h1, h2, h3, h4, -⟩
  ·exact .inl ⟨h1, he, h2⟩
  ·exact .inr (.inl ⟨by omega, h2⟩)
  ·exact .inr (.inr ⟨by omega, h2, h3, h4, he⟩)
 ·rw [forceR_no he]
  exact .inr (.inl ⟨he, h⟩)
/-- what is read behind a crash: what was forced, and one more at most -/
theorem lasts_reads {rs : List Rc} {nx : Rc} {d : Dk} {W : World} (ho : ∀ r ∈ rs, OwnIn W r) (he : ∀ x ∈ rs.map pr, encN x = 0) (hf : Fit d)
  (h : LogIs recB (rs.map pr) d ∨ (d.left = 0 ∧ d.b = logB recB (rs.map pr ++ [pr nx]) ∧ d.lasts = (logB recB (rs.map pr)).length ∧ OwnIn W nx ∧ encN (pr nx) = 0)) (keep : Int) :
  recs dec (scanB (crash keep d).b) = rs.map pr ∨ (recs dec (scanB (crash keep d).b) = rs.map pr ++ [pr nx] ∧ OwnIn W nx ∧ encN (pr nx) = 0) := by
 rcases h with h | ⟨-, hb, hl, hn, hx⟩
 ·exact .inl (crash_whole (good_of ho he) h keep).2
 ·have hg : Good dec recB (rs.map pr ++ [pr nx]) := by
   have := good_of (rs := rs ++ [nx]) (W := W) (fun r hr => by
    rcases List.mem_append.1 hr with hr | hr
    ·exact ho r hr
    ·simp at hr; subst hr; exact hn) (fun x hx' => by
    rw [List.map_append] at hx'
    rcases List.mem_append.1 hx' with hx' | hx'
    ·exact he x hx'
    ·simp at hx'; subst hx'; exact hx)
   rw [List.map_append] at this
   exact this
  obtain ⟨m, hm, hr⟩ := crash_reads hg hb (by rw [hl]; exact Nat.le_refl _) hf.lasts keep
  match m, hm with
  | 0, _ => left; rw [hr]; simp
  | 1, _ => right; exact ⟨by rw [hr]; rfl, hn, hx⟩
theorem RsOwn.box {w w' : World} {v : Value} {rs : List Rc} {X : Nat} {cs : Array Value} (h : RsOwn (X + 1) w v rs) (hg : w.grownBy w' (some X)) (hx : bytes.Boxed w X cs 44) : RsOwn (X + 1) w' v rs :=
 ⟨own_grown h.own hg fun g hq e => by have := (World.ownsRow.lt h.own g hq).1; injection e with e; omega, fun r hr => rc_far (h.all r hr) hg (boxed_far hx (by decide)) (boxed_far hx (by decide)) (boxed_far hx (by decide)) (boxed_far hx (by decide))⟩
theorem box_ne {w w' : World} {b : Nat} {cs : Array Value} {t : TypeId} {row : Option Nat} (h : bytes.Boxed w b cs t) (hg : w.grownBy w' row) (hne : some b ≠ row) : bytes.Boxed w' b cs t := (hg.block b h.lt hne).trans h
theorem store_box {w : World} {X : Nat} {nx : Rc} (r : Rc) (h : bytes.Boxed w X (rcC nx) 44) : bytes.Boxed ((((((((((w.setCell ⟨X, 0, none⟩ (.int .u8 r.kind)).setCell ⟨X, 1, none⟩ (.int .u32 r.id)).setCell ⟨X, 2, none⟩ (.int .u32 r.at_)).setCell ⟨X, 3, none⟩ (.slice r.na r.nodes.length r.nc)).setCell ⟨X, 4, none⟩ (.slice r.fa r.facts.length r.fc)).setCell ⟨X, 5, none⟩ (.int .u32 r.epoch)).setCell ⟨X, 6, none⟩ (.slice r.sa r.spans.length r.sc)).setCell ⟨X, 7, none⟩ (.int .i64 r.frm)).setCell ⟨X, 8, none⟩ (.int .i64 r.til)).setCell ⟨X, 9, none⟩ (.slice r.ea r.ents.length r.ec)) X (rcC r) 44 := by
 have := (((((((((h.put 0 (.int .u8 r.kind)).put 1 (.int .u32 r.id)).put 2 (.int .u32 r.at_)).put 3 (.slice r.na r.nodes.length r.nc)).put 4 (.slice r.fa r.facts.length r.fc)).put 5 (.int .u32 r.epoch)).put 6 (.slice r.sa r.spans.length r.sc)).put 7 (.int .i64 r.frm)).put 8 (.int .i64 r.til)).put 9 (.slice r.ea r.ents.length r.ec)
 simpa [rcC] using this
theorem store_grown (w : World) (X : Nat) (r : Rc) : w.grownBy ((((((((((w.setCell ⟨X, 0, none⟩ (.int .u8 r.kind)).setCell ⟨X, 1, none⟩ (.int .u32 r.id)).setCell ⟨X, 2, none⟩ (.int .u32 r.at_)).setCell ⟨X, 3, none⟩ (.slice r.na r.nodes.length r.nc)).setCell ⟨X, 4, none⟩ (.slice r.fa r.facts.length r.fc)).setCell ⟨X, 5, none⟩ (.int .u32 r.epoch)).setCell ⟨X, 6, none⟩ (.slice r.sa r.spans.length r.sc)).setCell ⟨X, 7, none⟩ (.int .i64 r.frm)).setCell ⟨X, 8, none⟩ (.int .i64 r.til)).setCell ⟨X, 9, none⟩ (.slice r.ea r.ents.length r.ec)) (some X) := by
 iterate 9 (refine code.grown_trans ?_ (code.grown_at _ _ _ _))
 exact code.grown_at _ _ _ _

set_option maxHeartbeats 16000000 in
theorem lasts_walk (n c : Nat) (a : Option Addr) (os : List Wop) (hh keep : Int) (w : World) (hO : OpsIn w a os) (hn : os.length = n) (hn2 : n ≤ 9223372036854775807) (hhr : 0 ≤ hh ∧ hh ≤ 255) :
  Calls Try.prog 4 #[.slice a n c, .int .u8 hh, .int .i64 keep] w fun e w' => e = .returned (.bool true) ∧ Below w.heap.size w w' := by
 obtain ⟨i0, hi, hz0, hz1, hz2⟩ := info_parts info_rec
 have H : Aside (OpsIn w a os ∧ os.length = n) := ⟨hO, hn⟩
 have hC1 := heavy_any n c a os w hO hn hn2
 clear hO hn
 obtain ⟨m, hm, hm2⟩ : ∃ m : Nat, hh.tmod 60 = (m : Int) ∧ m < 60 := by
  rw [Int.tmod_eq_emod_of_nonneg hhr.1]
  exact ⟨(hh % 60).toNat, by omega, by omega⟩
 have hm3 : IntKind.i64.wrap (m : Int) = (m : Int) := by rw [IntKind.wrap_i64]; omega
 go_enter Try.func4, Try.ntmps4
 go_wp2_with (go_at_call 6; refine hC1.mono ?_; rintro e w1 ⟨t, rfl, ht, g1⟩; refine Hid.out ?_)
 refine hid ?_
 clear hC1
 have hK := known_any w1
 have G1 : Aside (Below w.heap.size w w1) := g1
 clear g1
 cases t with
 | true =>
  go_wp2_with (go_at_call 7; refine hK.mono ?_; rintro e w2 ⟨rfl, g2⟩)
  go_ret
  exact ⟨rfl, G1.out.trans (g2.mono G1.out.size)⟩
 | false =>
 have hn40 : n ≤ 40 := ht rfl
 clear ht
 go_wp2_with (go_at_call 7; refine hK.mono ?_; rintro e w2 ⟨rfl, g2⟩; refine Hid.out ?_)
 refine hid ?_
 have G2 : Aside (Below w.heap.size w w2) := G1.out.trans (g2.mono G1.out.size)
 have hC2 := new_one (B := w.heap.size) (w := w2) 524288 (by omega) G2.out.size
 clear hK g2 G1
 obtain ⟨K, hKK⟩ : ∃ K, w2.heap.size = K := ⟨_, rfl⟩
 rw [hKK] at hC2
 have HKK : Aside (w.heap.size ≤ K) := by have := G2.out.size; show _ ≤ _; omega
 clear hKK
 go_wp2_with (go_at_call 8; refine hC2.mono ?_; rintro e w3 ⟨rfl, hp3, g3⟩; refine Hid.out ?_)
 refine hid ?_
 have hC3 := open_yes (dsk_one _ _) w3 (new 524288) hp3 _ (open_new 524288)
 have G3 : Aside (Below w.heap.size w w3) := G2.out.trans (g3.mono HKK.out)
 clear hC2 hp3 g3
 go_wp2_with (go_at_call 9; refine hC3.mono ?_; rintro e w4 ⟨h, va, vc, rs0, rfl, hx, -, -, hp4, s4⟩; refine Hid.out ?_)
 refine hid ?_
 have S4 : Aside (bytes.Boxed w4 h #[.pointer (some ⟨K, 0, none⟩)] 60 ∧ Below w.heap.size w w4) := ⟨hx, G3.out.trans s4.below⟩
 have hC4 := halt_one hp4 (m : Nat) (by omega)
 generalize rs0.length = z0
 clear hC3 hx hp4 s4 G2 G3
 go_wp2_with (go_at_call 15; refine hC4.mono ?_; rintro e w5 ⟨rfl, hp5, s5⟩; refine Hid.out ?_)
 refine hid ?_
 have H5 : Aside (One w.heap.size K w5 (halt (m : Nat) ⟨[], 0, 524288, -1⟩) ∧ bytes.Boxed w5 h #[.pointer (some ⟨K, 0, none⟩)] 60 ∧ Below w.heap.size w w5) := ⟨hp5, s5.boxes _ _ _ S4.out.1 kt_log, S4.out.2.trans s5.below⟩
 clear hC4 hp5 s5 S4 hm hm2 hm3
 go_upto_region 12 with fail
 have hb6 : Below w5.heap.size w5 (w5.alloc (.cells #[.int .u8 0, .int .u32 0, .int .u32 0, .slice none 0 0, .slice none 0 0, .int .u32 0, .slice none 0 0, .int .i64 0, .int .i64 0, .slice none 0 0] 44)) := (Below.refl _ _).alloc (Nat.le_refl _) _
 have hx6 := bytes.Boxed.new w5 #[.int .u8 0, .int .u32 0, .int .u32 0, .slice none 0 0, .slice none 0 0, .int .u32 0, .slice none 0 0, .int .i64 0, .int .i64 0, .slice none 0 0] 44
 obtain ⟨X, hX⟩ : ∃ X, w5.heap.size = X := ⟨_, rfl⟩
 have hXl : w.heap.size ≤ X := by have := H5.out.2.2.size; omega
 have hs6 : X + 1 ≤ (w5.alloc (.cells #[.int .u8 0, .int .u32 0, .int .u32 0, .slice none 0 0, .slice none 0 0, .int .u32 0, .slice none 0 0, .int .i64 0, .int .i64 0, .slice none 0 0] 44)).heap.size := by simp [hX]
 have S0 : Aside (One w.heap.size K (w5.alloc (.cells #[.int .u8 0, .int .u32 0, .int .u32 0, .slice none 0 0, .slice none 0 0, .int .u32 0, .slice none 0 0, .int .i64 0, .int .i64 0, .slice none 0 0] 44)) (halt (m : Nat) ⟨[], 0, 524288, -1⟩) ∧ bytes.Boxed (w5.alloc (.cells #[.int .u8 0, .int .u32 0, .int .u32 0, .slice none 0 0, .slice none 0 0, .int .u32 0, .slice none 0 0, .int .i64 0, .int .i64 0, .slice none 0 0] 44)) h #[.pointer (some ⟨K, 0, none⟩)] 60 ∧ bytes.Boxed (w5.alloc (.cells #[.int .u8 0, .int .u32 0, .int .u32 0, .slice none 0 0, .slice none 0 0, .int .u32 0, .slice none 0 0, .int .i64 0, .int .i64 0, .slice none 0 0] 44)) X (rcC rc0) 44 ∧ Below w.heap.size w (w5.alloc (.cells #[.int .u8 0, .int .u32 0, .int .u32 0, .slice none 0 0, .slice none 0 0, .int .u32 0, .slice none 0 0, .int .i64 0, .int .i64 0, .slice none 0 0] 44)) ∧ X + 1 ≤ (w5.alloc (.cells #[.int .u8 0, .int .u32 0, .int .u32 0, .slice none 0 0, .slice none 0 0, .int .u32 0, .slice none 0 0, .int .i64 0, .int .i64 0, .slice none 0 0] 44)).heap.size) := ⟨(dsk_one _ _).keep _ _ _ H5.out.1 hb6, H5.out.2.1.below hb6, by rw [← hX]; exact hx6, H5.out.2.2.trans (hb6.mono H5.out.2.2.size), hs6⟩
 rw [hX]
 clear hb6 hx6 hs6 hX H5
 generalize w5.alloc (.cells #[.int .u8 0, .int .u32 0, .int .u32 0, .slice none 0 0, .slice none 0 0, .int .u32 0, .slice none 0 0, .int .i64 0, .int .i64 0, .slice none 0 0] 44) = w6 at S0 ⊢
 go_wp2_with fail
 go_loopg [11, 13] n (fun g1 vl vi wr => ∃ (k j : Nat) (la : Option Addr) (lc : Nat), vi = .int .i64 k ∧ vl = .slice la j lc ∧ k ≤ n ∧ n - k ≤ g1 ∧ j ≤ k ∧ Aside (∃ rs d nx, RsOwn (X + 1) wr (.slice la j lc) rs ∧ One w.heap.size K wr d ∧ bytes.Boxed wr h #[.pointer (some ⟨K, 0, none⟩)] 60 ∧ bytes.Boxed wr X (rcC nx) 44 ∧ Below w.heap.size w wr ∧ X + 1 ≤ wr.heap.size ∧ (∀ x ∈ rs.map pr, encN x = 0) ∧ (LogIs recB (rs.map pr) d ∨ (d.left = 0 ∧ d.b = logB recB (rs.map pr ++ [pr nx]) ∧ d.lasts = (logB recB (rs.map pr)).length ∧ OwnIn wr nx ∧ encN (pr nx) = 0))))
 case atStart => exact ⟨0, 0, none, 0, rfl, rfl, Nat.zero_le _, Nat.le_refl _, Nat.le_refl _, [], _, rc0, RsOwn.nil _ _, S0.out.1, S0.out.2.1, S0.out.2.2.1, S0.out.2.2.2.1, S0.out.2.2.2.2, by simp, .inl ⟨rfl, rfl⟩⟩
 case round =>
  clear S0
  obtain ⟨k, j, la, lc, rfl, rfl, hk, hg1, hj, SK⟩ := hrel
  obtain ⟨rs, d, nx, hrs, hp, hx, hbx, hb, hsz, henc, hst⟩ := SK.out
  clear SK
  by_cases hlt : k < n
  rotate_left
  ·have hltz : ¬ (k : Int) < (n : Int) := by omega
   have hf := (dsk_one _ _).fit _ _ hp
   have hC4 := crash_one hp keep
   have hrd := lasts_reads hrs.all henc hf hst keep
   have HS : Aside (RsOwn (X + 1) wr (.slice la j lc) rs ∧ (∀ x ∈ rs.map pr, sndRec x = true) ∧ Below w.heap.size w wr ∧ bytes.Boxed wr X (rcC nx) 44 ∧ Fit d) := ⟨hrs, snd_enc henc, hb, hbx, hf⟩
   clear hrs hp henc hx hb hf hst hbx hsz
   go_wp2_with (go_at_call 13; refine hC4.mono ?_; rintro e w5 ⟨rfl, hp5, s5⟩; refine Hid.out ?_)
   refine hid ?_
   have hC5 := open_yes (dsk_one _ _) w5 _ hp5 _ (open_crash HS.out.2.2.2.2 keep)
   have H5 : Aside (Stay w.heap.size wr w5) := s5
   clear hC4 hp5 s5
   rcases hrd with hrd | ⟨hrd, hnx, hne⟩
   ·rw [hrd] at hC5
    clear hrd
    go_wp2_with (go_at_call 9; refine hC5.mono ?_; rintro e w6 ⟨h6, ga, gc, gs, rfl, -, hgs, hpr6, -, s6⟩; refine Hid.out ?_)
    refine hid ?_
    have s06 := H5.out.trans s6
    have hr6 := HS.out.1.stay s06
    obtain ⟨hj6, hi6⟩ := hr6.at_
    obtain ⟨a6, c6, he6, hqc, hcm, -⟩ := hgs.rsIn
    injection he6 with hc1 hc2 hc3
    clear hc2
    subst hc1 hc3
    have hgl : gs.length = j := by have := congrArg List.length hpr6; rw [List.length_map, List.length_map] at this; omega
    have hC7 := lawSame_any gs.length j gc lc ga la gs rs w6 hgs.at_.2 hi6 rfl hj6.symm (by omega) (by omega) (snd_all hpr6 HS.out.2.1) (snd_all rfl HS.out.2.1)
    have H6 : Aside (gs.map pr = rs.map pr ∧ Below w.heap.size w w6) := ⟨hpr6, HS.out.2.2.1.trans s06.below⟩
    rw [hgl] at hC7 hqc ⊢
    have hjc : (j : Int) ≤ (gc : Int) := by omega
    have hj0 : (0 : Int) ≤ (j : Int) := by omega
    have hj1 : ¬ (j : Int) + 1 < (j : Int) := by omega
    have hjd : decide ((j : Int) = (j : Int)) = true := decide_eq_true rfl
    clear hC5 hgs hpr6 s6 s06 hr6 hj6 hi6 H5 HS hgl hcm
    go_wp2_with (go_at_call 14; refine hC7.mono ?_; rintro e w7 ⟨t, rfl, ht, g7⟩; obtain rfl := ht.2 H6.out.1; refine Hid.out ?_)
    refine hid ?_
    have H7 : Aside (Below w.heap.size w w7) := H6.out.2.trans (g7.mono H6.out.2.size)
    clear hC7 ht g7 H6
    go_upto_region 23 with fail
    go_quiet (fail)
    have S7 : Aside (Below w.heap.size w (w7.drewN nq)) := ⟨H7.out.os, H7.out.tape, H7.out.output, H7.out.size, H7.out.block⟩
    generalize w7.drewN nq = w8 at S7 ⊢
    go_wp2
    go_ret
    exact ⟨rfl, S7.out⟩
   ·rw [hrd] at hC5
    have HN : Aside (OwnIn wr nx ∧ encN (pr nx) = 0) := ⟨hnx, hne⟩
    clear hrd hnx hne
    go_wp2_with (go_at_call 9; refine hC5.mono ?_; rintro e w6 ⟨h6, ga, gc, gs, rfl, -, hgs, hpr6, -, s6⟩; refine Hid.out ?_)
    refine hid ?_
    have s06 := H5.out.trans s6
    have hr6 := HS.out.1.stay s06
    obtain ⟨hj6, hi6⟩ := hr6.at_
    obtain ⟨a6, c6, he6, hqc, hcm, hig⟩ := hgs.rsIn
    injection he6 with hc1 hc2 hc3
    clear hc2
    subst hc1 hc3
    have hgl : gs.length = j + 1 := by have := congrArg List.length hpr6; rw [List.length_map, List.length_append, List.length_map] at this; simp at this; omega
    have hsn : ∀ x ∈ rs.map pr ++ [pr nx], sndRec x = true := fun x hx => by
     rcases List.mem_append.1 hx with hx | hx
     ·exact HS.out.2.1 x hx
     ·simp at hx; subst hx; exact (encN_ok HN.out.2).1
    have hsg : ∀ r ∈ gs, sndRec (pr r) = true := snd_all hpr6 hsn
    have htk : (gs.take j).map pr = rs.map pr := by
     rw [List.map_take, hpr6, List.take_append_of_le_length (by rw [List.length_map]; omega), List.take_of_length_le (by rw [List.length_map]; omega)]
    have hC7 := lawSame_any j j gc lc ga la (gs.take j) rs w6 (hig.take j) hi6 (by rw [List.length_take]; omega) hj6.symm (by omega) (by omega) (fun r hr => hsg r (List.mem_of_mem_take hr)) (snd_all rfl HS.out.2.1)
    obtain ⟨gb, go, hga, hcg⟩ := hig.get (k := j) (by omega)
    subst hga
    obtain ⟨hcg, hRg⟩ := hcg j (by omega)
    have hprg : pr (rsn gs j) = pr nx := by
     have hlt : j < gs.length := by omega
     rw [rsn_eq hlt]
     have := congrArg (fun l => l[j]?) hpr6
     simp only [List.getElem?_map, List.getElem?_eq_getElem hlt, Option.map_some] at this
     rw [List.getElem?_append_right (by rw [List.length_map]; omega), List.length_map, ← hj6, Nat.sub_self] at this
     simpa using this
    obtain ⟨g, hg0⟩ : ∃ g, rsn gs j = g := ⟨_, rfl⟩
    rw [hg0] at hcg hRg hprg
    have hbx6 := s06.boxes _ _ _ HS.out.2.2.2.1 kt_rec
    have hnx6 := (rc_stay HN.out.1 s06).recIn
    have H6 : Aside ((gs.take j).map pr = rs.map pr ∧ Below w.heap.size w w6 ∧ bytes.Boxed w6 X (rcC nx) 44 ∧ RecIn w6 nx ∧ RecIn w6 g ∧ sndRec (pr g) = true ∧ sndRec (pr nx) = true ∧ pr g = pr nx ∧ (∀ i x, (rcL g)[i]? = some x → w6.cell? ⟨gb, go + j * 10 + i, none⟩ = some x)) := ⟨htk, HS.out.2.2.1.trans s06.below, hbx6, hnx6, hRg, by rw [hprg]; exact (encN_ok HN.out.2).1, (encN_ok HN.out.2).1, hprg, hcg⟩
    obtain ⟨z, hz⟩ : ∃ z, gs.length = z := ⟨_, rfl⟩
    rw [hz] at hqc ⊢
    have hz1 : ¬ (z : Int) < (j : Int) := by omega
    have hz2 : ¬ (j : Int) + 1 < (z : Int) := by omega
    have hz3 : (j : Int) ≤ (gc : Int) := by omega
    have hz4 : (0 : Int) ≤ (j : Int) := by omega
    have hz5 : ¬ (z : Int) = (j : Int) := by omega
    have hz6 : decide ((z : Int) = (j : Int)) = false := decide_eq_false hz5
    have hz7 : (j : Int) < (z : Int) := by omega
    have hz8 : j < z := by omega
    clear hC5 hgs hpr6 s6 s06 hr6 hj6 hi6 hig H5 HS hgl hcm hsn hsg htk hcg hRg hprg hg0 hbx6 hnx6 HN hz
    go_wp2_with (go_at_call 14; refine hC7.mono ?_; rintro e w7 ⟨t, rfl, ht, g7⟩; obtain rfl := ht.2 H6.out.1; refine Hid.out ?_)
    refine hid ?_
    have hS : ∀ W, Below w7.heap.size w7 W → Calls Try.prog 17 #[.agg #[.int .u8 g.kind, .int .u32 g.id, .int .u32 g.at_, .slice g.na g.nodes.length g.nc, .slice g.fa g.facts.length g.fc, .int .u32 g.epoch, .slice g.sa g.spans.length g.sc, .int .i64 g.frm, .int .i64 g.til, .slice g.ea g.ents.length g.ec], .agg #[.int .u8 nx.kind, .int .u32 nx.id, .int .u32 nx.at_, .slice nx.na nx.nodes.length nx.nc, .slice nx.fa nx.facts.length nx.fc, .int .u32 nx.epoch, .slice nx.sa nx.spans.length nx.sc, .int .i64 nx.frm, .int .i64 nx.til, .slice nx.ea nx.ents.length nx.ec]] W fun e w' => e = .returned (.bool true) ∧ Aside (Below w7.heap.size w7 w') := fun W hW => by
     have g67 := g7.trans (hW.mono g7.size)
     have := code.same_mk W g nx ⟨H6.out.2.2.2.2.1.keep g67, H6.out.2.2.2.2.2.1⟩ ⟨H6.out.2.2.2.1.keep g67, H6.out.2.2.2.2.2.2.1⟩ true (by simp [H6.out.2.2.2.2.2.2.2.1])
     exact this.mono fun e w' ⟨h1, h2⟩ => ⟨h1, hW.trans (h2.mono hW.size)⟩
    have HC : Aside (∀ W, Below w7.heap.size w7 W → Below w7.heap.size w7 W ∧ W.cell? ⟨gb, go + j * 10, none⟩ = some (.int .u8 g.kind) ∧ W.cell? ⟨gb, go + j * 10 + 1, none⟩ = some (.int .u32 g.id) ∧ W.cell? ⟨gb, go + j * 10 + 2, none⟩ = some (.int .u32 g.at_) ∧ W.cell? ⟨gb, go + j * 10 + 3, none⟩ = some (.slice g.na g.nodes.length g.nc) ∧ W.cell? ⟨gb, go + j * 10 + 4, none⟩ = some (.slice g.fa g.facts.length g.fc) ∧ W.cell? ⟨gb, go + j * 10 + 5, none⟩ = some (.int .u32 g.epoch) ∧ W.cell? ⟨gb, go + j * 10 + 6, none⟩ = some (.slice g.sa g.spans.length g.sc) ∧ W.cell? ⟨gb, go + j * 10 + 7, none⟩ = some (.int .i64 g.frm) ∧ W.cell? ⟨gb, go + j * 10 + 8, none⟩ = some (.int .i64 g.til) ∧ W.cell? ⟨gb, go + j * 10 + 9, none⟩ = some (.slice g.ea g.ents.length g.ec) ∧ W.cell? ⟨X, 0, none⟩ = some (.int .u8 nx.kind) ∧ W.cell? ⟨X, 1, none⟩ = some (.int .u32 nx.id) ∧ W.cell? ⟨X, 2, none⟩ = some (.int .u32 nx.at_) ∧ W.cell? ⟨X, 3, none⟩ = some (.slice nx.na nx.nodes.length nx.nc) ∧ W.cell? ⟨X, 4, none⟩ = some (.slice nx.fa nx.facts.length nx.fc) ∧ W.cell? ⟨X, 5, none⟩ = some (.int .u32 nx.epoch) ∧ W.cell? ⟨X, 6, none⟩ = some (.slice nx.sa nx.spans.length nx.sc) ∧ W.cell? ⟨X, 7, none⟩ = some (.int .i64 nx.frm) ∧ W.cell? ⟨X, 8, none⟩ = some (.int .i64 nx.til) ∧ W.cell? ⟨X, 9, none⟩ = some (.slice nx.ea nx.ents.length nx.ec)) := fun W hW => by
     have g67 := g7.trans (hW.mono g7.size)
     have hb := H6.out.2.2.1.below g67
     have hc := fun i x hx => (g67.cell (p := ⟨gb, go + j * 10 + i, none⟩) (cell_lt (H6.out.2.2.2.2.2.2.2.2 i x hx))).trans (H6.out.2.2.2.2.2.2.2.2 i x hx)
     exact ⟨hW, hc 0 _ rfl, hc 1 _ rfl, hc 2 _ rfl, hc 3 _ rfl, hc 4 _ rfl, hc 5 _ rfl, hc 6 _ rfl, hc 7 _ rfl, hc 8 _ rfl, hc 9 _ rfl, hb.cell (j := 0) rfl, hb.cell (j := 1) rfl, hb.cell (j := 2) rfl, hb.cell (j := 3) rfl, hb.cell (j := 4) rfl, hb.cell (j := 5) rfl, hb.cell (j := 6) rfl, hb.cell (j := 7) rfl, hb.cell (j := 8) rfl, hb.cell (j := 9) rfl⟩
    have H7 : Aside (Below w.heap.size w w7) := H6.out.2.1.trans (g7.mono H6.out.2.1.size)
    clear hC7 ht g7 H6
    go_upto_region 23 with fail
    have HBd : Aside (Below w7.heap.size w7 w7.drew) := (Below.refl _ _).drew
    have q0 := (HC.out _ HBd.out).2
    have hz9 : ((z : Int) == (j : Int)) = false := by simpa using hz5
    refine wp_region_held_drew (S := fun W => W.cell? ⟨gb, go + j * 10, none⟩ = some (.int .u8 g.kind) ∧ W.cell? ⟨gb, go + j * 10 + 1, none⟩ = some (.int .u32 g.id) ∧ W.cell? ⟨gb, go + j * 10 + 2, none⟩ = some (.int .u32 g.at_) ∧ W.cell? ⟨gb, go + j * 10 + 3, none⟩ = some (.slice g.na g.nodes.length g.nc) ∧ W.cell? ⟨gb, go + j * 10 + 4, none⟩ = some (.slice g.fa g.facts.length g.fc) ∧ W.cell? ⟨gb, go + j * 10 + 5, none⟩ = some (.int .u32 g.epoch) ∧ W.cell? ⟨gb, go + j * 10 + 6, none⟩ = some (.slice g.sa g.spans.length g.sc) ∧ W.cell? ⟨gb, go + j * 10 + 7, none⟩ = some (.int .i64 g.frm) ∧ W.cell? ⟨gb, go + j * 10 + 8, none⟩ = some (.int .i64 g.til) ∧ W.cell? ⟨gb, go + j * 10 + 9, none⟩ = some (.slice g.ea g.ents.length g.ec) ∧ W.cell? ⟨X, 0, none⟩ = some (.int .u8 nx.kind) ∧ W.cell? ⟨X, 1, none⟩ = some (.int .u32 nx.id) ∧ W.cell? ⟨X, 2, none⟩ = some (.int .u32 nx.at_) ∧ W.cell? ⟨X, 3, none⟩ = some (.slice nx.na nx.nodes.length nx.nc) ∧ W.cell? ⟨X, 4, none⟩ = some (.slice nx.fa nx.facts.length nx.fc) ∧ W.cell? ⟨X, 5, none⟩ = some (.int .u32 nx.epoch) ∧ W.cell? ⟨X, 6, none⟩ = some (.slice nx.sa nx.spans.length nx.sc) ∧ W.cell? ⟨X, 7, none⟩ = some (.int .i64 nx.frm) ∧ W.cell? ⟨X, 8, none⟩ = some (.int .i64 nx.til) ∧ W.cell? ⟨X, 9, none⟩ = some (.slice nx.ea nx.ents.length nx.ec)) (by kernel_rfl) ?_ (fun hHeld => ?_)
    ·(try dsimp only); exact q0
    change wpAnyH _ _ _ _ _ 15 #[false, false, false, false, false, false, false, false, false, false, false, false, false, false, false] _ _
    refine wpAnyH_take (i := 0) (oi := { dst := some 105, op := Op.move (Operand.tmp 15), type := 29, pos := "law.go:156", after := #[], guard := none }) (v := ?_) rfl (by kernel_rfl) (by kernel_rfl) (by kernel_rfl) (fun _ _ _ h => h) (Or.inl ⟨by kernel_rfl, ?_⟩) (by assumption) ?_
    rotate_left
    focus
     intro w hSw
     (try dsimp only at hSw)
     go_simp
     all_goals (try with_reducible rfl)
    simp only [Act.put, List.setIfInBounds_toArray, List.set_cons_zero, List.set_cons_succ]
    refine wpAnyH_take (i := 1) (oi := { dst := some 106, op := Op.call { callee := Callee.builtin Builtin.len, args := #[Operand.tmp 105], argTypes := #[29] }, type := 3, pos := "law.go:156", after := #[{ on := 0, ground := Ground.data }], guard := none }) (v := ?_) rfl (by kernel_rfl) (by kernel_rfl) (by kernel_rfl) (fun _ _ _ h => h) (Or.inl ⟨by kernel_rfl, ?_⟩) (by assumption) ?_
    rotate_left
    focus
     intro w hSw
     (try dsimp only at hSw)
     go_simp
     all_goals (try with_reducible rfl)
    simp only [Act.put, List.setIfInBounds_toArray, List.set_cons_zero, List.set_cons_succ]
    refine wpAnyH_take (i := 2) (oi := { dst := some 107, op := Op.move (Operand.tmp 11), type := 29, pos := "law.go:156", after := #[], guard := none }) (v := ?_) rfl (by kernel_rfl) (by kernel_rfl) (by kernel_rfl) (fun _ _ _ h => h) (Or.inl ⟨by kernel_rfl, ?_⟩) (by assumption) ?_
    rotate_left
    focus
     intro w hSw
     (try dsimp only at hSw)
     go_simp
     all_goals (try with_reducible rfl)
    simp only [Act.put, List.setIfInBounds_toArray, List.set_cons_zero, List.set_cons_succ]
    refine wpAnyH_take (i := 3) (oi := { dst := some 108, op := Op.call { callee := Callee.builtin Builtin.len, args := #[Operand.tmp 107], argTypes := #[29] }, type := 3, pos := "law.go:156", after := #[{ on := 2, ground := Ground.data }], guard := none }) (v := ?_) rfl (by kernel_rfl) (by kernel_rfl) (by kernel_rfl) (fun _ _ _ h => h) (Or.inl ⟨by kernel_rfl, ?_⟩) (by assumption) ?_
    rotate_left
    focus
     intro w hSw
     (try dsimp only at hSw)
     go_simp
     all_goals (try with_reducible rfl)
    simp only [Act.put, List.setIfInBounds_toArray, List.set_cons_zero, List.set_cons_succ]
    refine wpAnyH_take (i := 4) (oi := { dst := some 109, op := Op.binOp BinOp.eql 3 (Operand.tmp 106) (Operand.tmp 108) 3, type := 4, pos := "law.go:156", after := #[{ on := 1, ground := Ground.data }, { on := 3, ground := Ground.data }], guard := none }) (v := ?_) rfl (by kernel_rfl) (by kernel_rfl) (by kernel_rfl) (fun _ _ _ h => h) (Or.inl ⟨by kernel_rfl, ?_⟩) (by assumption) ?_
    rotate_left
    focus
     intro w hSw
     (try dsimp only at hSw)
     go_simp
     all_goals (try with_reducible rfl)
    simp only [Act.put, List.setIfInBounds_toArray, List.set_cons_zero, List.set_cons_succ]
    refine wpAnyH_take (i := 5) (oi := { dst := some 110, op := Op.move (Operand.tmp 109), type := 4, pos := "law.go:156", after := #[{ on := 4, ground := Ground.data }], guard := none }) (v := ?_) rfl (by kernel_rfl) (by kernel_rfl) (by kernel_rfl) (fun _ _ _ h => h) (Or.inl ⟨by kernel_rfl, ?_⟩) (by assumption) ?_
    rotate_left
    focus
     intro w hSw
     (try dsimp only at hSw)
     go_simp
     all_goals (try with_reducible rfl)
    simp only [Act.put, List.setIfInBounds_toArray, List.set_cons_zero, List.set_cons_succ]
    refine wpAnyH_take (i := 6) (oi := { dst := some 111, op := Op.move (Operand.tmp 15), type := 29, pos := "law.go:156", after := #[{ on := 5, ground := Ground.guard }], guard := some (5, false) }) (v := ?_) rfl (by kernel_rfl) (by kernel_rfl) (by kernel_rfl) (fun _ _ _ h => h) (Or.inl ⟨by kernel_rfl, ?_⟩) (by assumption) ?_
    rotate_left
    focus
     intro w hSw
     (try dsimp only at hSw)
     go_simp
     all_goals (try with_reducible rfl)
    simp only [Act.put, List.setIfInBounds_toArray, List.set_cons_zero, List.set_cons_succ]
    refine wpAnyH_take (i := 7) (oi := { dst := some 112, op := Op.move (Operand.tmp 11), type := 29, pos := "law.go:156", after := #[{ on := 5, ground := Ground.guard }], guard := some (5, false) }) (v := ?_) rfl (by kernel_rfl) (by kernel_rfl) (by kernel_rfl) (fun _ _ _ h => h) (Or.inl ⟨by kernel_rfl, ?_⟩) (by assumption) ?_
    rotate_left
    focus
     intro w hSw
     (try dsimp only at hSw)
     go_simp
     all_goals (try with_reducible rfl)
    simp only [Act.put, List.setIfInBounds_toArray, List.set_cons_zero, List.set_cons_succ]
    refine wpAnyH_take (i := 8) (oi := { dst := some 113, op := Op.call { callee := Callee.builtin Builtin.len, args := #[Operand.tmp 112], argTypes := #[29] }, type := 3, pos := "law.go:156", after := #[{ on := 7, ground := Ground.data }, { on := 5, ground := Ground.guard }], guard := some (5, false) }) (v := ?_) rfl (by kernel_rfl) (by kernel_rfl) (by kernel_rfl) (fun _ _ _ h => h) (Or.inl ⟨by kernel_rfl, ?_⟩) (by assumption) ?_
    rotate_left
    focus
     intro w hSw
     (try dsimp only at hSw)
     go_simp
     all_goals (try with_reducible rfl)
    simp only [Act.put, List.setIfInBounds_toArray, List.set_cons_zero, List.set_cons_succ]
    refine wpAnyH_take (i := 9) (oi := { dst := some 114, op := Op.indexAddr 29 (Operand.tmp 111) (Operand.tmp 113), type := 0, pos := "law.go:156", after := #[{ on := 6, ground := Ground.data }, { on := 8, ground := Ground.data }, { on := 5, ground := Ground.guard }], guard := some (5, false) }) (v := ?_) rfl (by kernel_rfl) (by kernel_rfl) (by kernel_rfl) (fun _ _ _ h => h) (Or.inl ⟨by kernel_rfl, ?_⟩) (by assumption) ?_
    rotate_left
    focus
     intro w hSw
     (try dsimp only at hSw)
     go_simp
     all_goals (try with_reducible rfl)
    simp only [Act.put, List.setIfInBounds_toArray, List.set_cons_zero, List.set_cons_succ]
    refine wpAnyH_take (i := 10) (oi := { dst := some 115, op := Op.load 44 (Operand.tmp 114), type := 44, pos := "law.go:156", after := #[{ on := 9, ground := Ground.data }, { on := 5, ground := Ground.guard }], guard := some (5, false) }) (v := ?_) rfl (by kernel_rfl) (by kernel_rfl) (by kernel_rfl) (fun _ _ _ h => h) (Or.inl ⟨by kernel_rfl, ?_⟩) (by assumption) ?_
    rotate_left
    focus
     intro w hSw
     (try dsimp only at hSw)
     go_simp
     all_goals (try with_reducible rfl)
    simp only [Act.put, List.setIfInBounds_toArray, List.set_cons_zero, List.set_cons_succ]
    refine wpAnyH_take (i := 11) (oi := { dst := some 116, op := Op.load 44 (Operand.tmp 12), type := 44, pos := "law.go:156", after := #[{ on := 5, ground := Ground.guard }], guard := some (5, false) }) (v := ?_) rfl (by kernel_rfl) (by kernel_rfl) (by kernel_rfl) (fun _ _ _ h => h) (Or.inl ⟨by kernel_rfl, ?_⟩) (by assumption) ?_
    rotate_left
    focus
     intro w hSw
     (try dsimp only at hSw)
     go_simp
     all_goals (try with_reducible rfl)
    simp only [Act.put, List.setIfInBounds_toArray, List.set_cons_zero, List.set_cons_succ]
    refine wpAnyH_ready (rs := [12]) (by kernel_rfl) (by simp) ?_
    refine AllReadyH.cons (o := { dst := some 117, op := Op.call { callee := Callee.value (Operand.func 17), args := #[Operand.tmp 115, Operand.tmp 116], argTypes := #[44, 44] }, type := 4, pos := "law.go:156", after := #[{ on := 10, ground := Ground.data }, { on := 11, ground := Ground.data }, { on := 5, ground := Ground.chain }, { on := 5, ground := Ground.guard }], guard := some (5, false) }) rfl (fun K hK => ?_) AllReadyH.nil
    go_simp
    refine (hS _ HBd.out).mono ?_
    (rintro e wa ⟨rfl, hbA⟩)
    go_wp2_with fail
    refine hK.out _ _ ?_ (fun hHeld2 => ?_)
    ·(try dsimp only); exact (HC.out _ hbA.out).2
    clear hK K hHeld
    have hHeld := hHeld2
    clear hHeld2
    simp only [List.setIfInBounds_toArray, List.set_cons_zero, List.set_cons_succ]
    refine wpAnyH_take (i := 13) (oi := { dst := some 118, op := Op.pick (Operand.tmp 110) (Operand.const (Value.bool true)) (Operand.tmp 117), type := 4, pos := "law.go:156", after := #[{ on := 5, ground := Ground.data }, { on := 12, ground := Ground.data }], guard := none }) (v := ?_) rfl (by kernel_rfl) (by kernel_rfl) (by kernel_rfl) (fun _ _ _ h => h) (Or.inl ⟨by kernel_rfl, ?_⟩) (by assumption) ?_
    rotate_left
    focus
     intro w hSw
     (try dsimp only at hSw)
     go_simp
     all_goals (try with_reducible rfl)
    simp only [Act.put, List.setIfInBounds_toArray, List.set_cons_zero, List.set_cons_succ]
    refine wpAnyH_take (i := 14) (oi := { dst := some 6, op := Op.assign (Operand.tmp 118), type := 4, pos := "law.go:156", after := #[{ on := 13, ground := Ground.data }, { on := 12, ground := Ground.chain }, { on := 0, ground := Ground.phase }, { on := 1, ground := Ground.phase }, { on := 2, ground := Ground.phase }, { on := 3, ground := Ground.phase }, { on := 4, ground := Ground.phase }, { on := 5, ground := Ground.phase }, { on := 6, ground := Ground.phase }, { on := 7, ground := Ground.phase }, { on := 8, ground := Ground.phase }, { on := 9, ground := Ground.phase }, { on := 10, ground := Ground.phase }, { on := 11, ground := Ground.phase }, { on := 12, ground := Ground.phase }, { on := 13, ground := Ground.phase }], guard := none }) (v := ?_) rfl (by kernel_rfl) (by kernel_rfl) (by kernel_rfl) (fun _ _ _ h => h) (Or.inl ⟨by kernel_rfl, ?_⟩) (by assumption) ?_
    rotate_left
    focus
     intro w hSw
     (try dsimp only at hSw)
     go_simp
     all_goals (try with_reducible rfl)
    simp only [Act.put, List.setIfInBounds_toArray, List.set_cons_zero, List.set_cons_succ]
    refine wpAnyH_done (by kernel_rfl) ?_ _
    go_wp2
    go_ret
    exact ⟨rfl, H7.out.trans (hbA.out.mono H7.out.size)⟩
  have hltz : (k : Int) < (n : Int) := by omega
  by_cases hha : d.left = 0
  ·have hC0 := halted_one hp
   rw [decide_eq_true hha] at hC0
   clear hha
   go_wp2_with (go_at_call 16; refine hC0.mono ?_; rintro e w0' ⟨rfl, hw0⟩; have hw0 := hw0.symm; subst hw0; refine Hid.out ?_)
   refine hid ?_
   clear hC0
   have hf := (dsk_one _ _).fit _ _ hp
   have hC4 := crash_one hp keep
   have hrd := lasts_reads hrs.all henc hf hst keep
   have HS : Aside (RsOwn (X + 1) wr (.slice la j lc) rs ∧ (∀ x ∈ rs.map pr, sndRec x = true) ∧ Below w.heap.size w wr ∧ bytes.Boxed wr X (rcC nx) 44 ∧ Fit d) := ⟨hrs, snd_enc henc, hb, hbx, hf⟩
   clear hrs hp henc hx hb hf hst hbx hsz
   go_wp2_with (go_at_call 13; refine hC4.mono ?_; rintro e w5 ⟨rfl, hp5, s5⟩; refine Hid.out ?_)
   refine hid ?_
   have hC5 := open_yes (dsk_one _ _) w5 _ hp5 _ (open_crash HS.out.2.2.2.2 keep)
   have H5 : Aside (Stay w.heap.size wr w5) := s5
   clear hC4 hp5 s5
   rcases hrd with hrd | ⟨hrd, hnx, hne⟩
   ·rw [hrd] at hC5
    clear hrd
    go_wp2_with (go_at_call 9; refine hC5.mono ?_; rintro e w6 ⟨h6, ga, gc, gs, rfl, -, hgs, hpr6, -, s6⟩; refine Hid.out ?_)
    refine hid ?_
    have s06 := H5.out.trans s6
    have hr6 := HS.out.1.stay s06
    obtain ⟨hj6, hi6⟩ := hr6.at_
    obtain ⟨a6, c6, he6, hqc, hcm, -⟩ := hgs.rsIn
    injection he6 with hc1 hc2 hc3
    clear hc2
    subst hc1 hc3
    have hgl : gs.length = j := by have := congrArg List.length hpr6; rw [List.length_map, List.length_map] at this; omega
    have hC7 := lawSame_any gs.length j gc lc ga la gs rs w6 hgs.at_.2 hi6 rfl hj6.symm (by omega) (by omega) (snd_all hpr6 HS.out.2.1) (snd_all rfl HS.out.2.1)
    have H6 : Aside (gs.map pr = rs.map pr ∧ Below w.heap.size w w6) := ⟨hpr6, HS.out.2.2.1.trans s06.below⟩
    rw [hgl] at hC7 hqc ⊢
    have hjc : (j : Int) ≤ (gc : Int) := by omega
    have hj0 : (0 : Int) ≤ (j : Int) := by omega
    have hj1 : ¬ (j : Int) + 1 < (j : Int) := by omega
    have hjd : decide ((j : Int) = (j : Int)) = true := decide_eq_true rfl
    clear hC5 hgs hpr6 s6 s06 hr6 hj6 hi6 H5 HS hgl hcm
    go_wp2_with (go_at_call 14; refine hC7.mono ?_; rintro e w7 ⟨t, rfl, ht, g7⟩; obtain rfl := ht.2 H6.out.1; refine Hid.out ?_)
    refine hid ?_
    have H7 : Aside (Below w.heap.size w w7) := H6.out.2.trans (g7.mono H6.out.2.size)
    clear hC7 ht g7 H6
    go_upto_region 23 with fail
    go_quiet (fail)
    have S7 : Aside (Below w.heap.size w (w7.drewN nq)) := ⟨H7.out.os, H7.out.tape, H7.out.output, H7.out.size, H7.out.block⟩
    generalize w7.drewN nq = w8 at S7 ⊢
    go_wp2
    go_ret
    exact ⟨rfl, S7.out⟩
   ·rw [hrd] at hC5
    have HN : Aside (OwnIn wr nx ∧ encN (pr nx) = 0) := ⟨hnx, hne⟩
    clear hrd hnx hne
    go_wp2_with (go_at_call 9; refine hC5.mono ?_; rintro e w6 ⟨h6, ga, gc, gs, rfl, -, hgs, hpr6, -, s6⟩; refine Hid.out ?_)
    refine hid ?_
    have s06 := H5.out.trans s6
    have hr6 := HS.out.1.stay s06
    obtain ⟨hj6, hi6⟩ := hr6.at_
    obtain ⟨a6, c6, he6, hqc, hcm, hig⟩ := hgs.rsIn
    injection he6 with hc1 hc2 hc3
    clear hc2
    subst hc1 hc3
    have hgl : gs.length = j + 1 := by have := congrArg List.length hpr6; rw [List.length_map, List.length_append, List.length_map] at this; simp at this; omega
    have hsn : ∀ x ∈ rs.map pr ++ [pr nx], sndRec x = true := fun x hx => by
     rcases List.mem_append.1 hx with hx | hx
     ·exact HS.out.2.1 x hx
     ·simp at hx; subst hx; exact (encN_ok HN.out.2).1
    have hsg : ∀ r ∈ gs, sndRec (pr r) = true := snd_all hpr6 hsn
    have htk : (gs.take j).map pr = rs.map pr := by
     rw [List.map_take, hpr6, List.take_append_of_le_length (by rw [List.length_map]; omega), List.take_of_length_le (by rw [List.length_map]; omega)]
    have hC7 := lawSame_any j j gc lc ga la (gs.take j) rs w6 (hig.take j) hi6 (by rw [List.length_take]; omega) hj6.symm (by omega) (by omega) (fun r hr => hsg r (List.mem_of_mem_take hr)) (snd_all rfl HS.out.2.1)
    obtain ⟨gb, go, hga, hcg⟩ := hig.get (k := j) (by omega)
    subst hga
    obtain ⟨hcg, hRg⟩ := hcg j (by omega)
    have hprg : pr (rsn gs j) = pr nx := by
     have hlt : j < gs.length := by omega
     rw [rsn_eq hlt]
     have := congrArg (fun l => l[j]?) hpr6
     simp only [List.getElem?_map, List.getElem?_eq_getElem hlt, Option.map_some] at this
     rw [List.getElem?_append_right (by rw [List.length_map]; omega), List.length_map, ← hj6, Nat.sub_self] at this
     simpa using this
    obtain ⟨g, hg0⟩ : ∃ g, rsn gs j = g := ⟨_, rfl⟩
    rw [hg0] at hcg hRg hprg
    have hbx6 := s06.boxes _ _ _ HS.out.2.2.2.1 kt_rec
    have hnx6 := (rc_stay HN.out.1 s06).recIn
    have H6 : Aside ((gs.take j).map pr = rs.map pr ∧ Below w.heap.size w w6 ∧ bytes.Boxed w6 X (rcC nx) 44 ∧ RecIn w6 nx ∧ RecIn w6 g ∧ sndRec (pr g) = true ∧ sndRec (pr nx) = true ∧ pr g = pr nx ∧ (∀ i x, (rcL g)[i]? = some x → w6.cell? ⟨gb, go + j * 10 + i, none⟩ = some x)) := ⟨htk, HS.out.2.2.1.trans s06.below, hbx6, hnx6, hRg, by rw [hprg]; exact (encN_ok HN.out.2).1, (encN_ok HN.out.2).1, hprg, hcg⟩
    obtain ⟨z, hz⟩ : ∃ z, gs.length = z := ⟨_, rfl⟩
    rw [hz] at hqc ⊢
    have hz1 : ¬ (z : Int) < (j : Int) := by omega
    have hz2 : ¬ (j : Int) + 1 < (z : Int) := by omega
    have hz3 : (j : Int) ≤ (gc : Int) := by omega
    have hz4 : (0 : Int) ≤ (j : Int) := by omega
    have hz5 : ¬ (z : Int) = (j : Int) := by omega
    have hz6 : decide ((z : Int) = (j : Int)) = false := decide_eq_false hz5
    have hz7 : (j : Int) < (z : Int) := by omega
    have hz8 : j < z := by omega
    clear hC5 hgs hpr6 s6 s06 hr6 hj6 hi6 hig H5 HS hgl hcm hsn hsg htk hcg hRg hprg hg0 hbx6 hnx6 HN hz
    go_wp2_with (go_at_call 14; refine hC7.mono ?_; rintro e w7 ⟨t, rfl, ht, g7⟩; obtain rfl := ht.2 H6.out.1; refine Hid.out ?_)
    refine hid ?_
    have hS : ∀ W, Below w7.heap.size w7 W → Calls Try.prog 17 #[.agg #[.int .u8 g.kind, .int .u32 g.id, .int .u32 g.at_, .slice g.na g.nodes.length g.nc, .slice g.fa g.facts.length g.fc, .int .u32 g.epoch, .slice g.sa g.spans.length g.sc, .int .i64 g.frm, .int .i64 g.til, .slice g.ea g.ents.length g.ec], .agg #[.int .u8 nx.kind, .int .u32 nx.id, .int .u32 nx.at_, .slice nx.na nx.nodes.length nx.nc, .slice nx.fa nx.facts.length nx.fc, .int .u32 nx.epoch, .slice nx.sa nx.spans.length nx.sc, .int .i64 nx.frm, .int .i64 nx.til, .slice nx.ea nx.ents.length nx.ec]] W fun e w' => e = .returned (.bool true) ∧ Aside (Below w7.heap.size w7 w') := fun W hW => by
     have g67 := g7.trans (hW.mono g7.size)
     have := code.same_mk W g nx ⟨H6.out.2.2.2.2.1.keep g67, H6.out.2.2.2.2.2.1⟩ ⟨H6.out.2.2.2.1.keep g67, H6.out.2.2.2.2.2.2.1⟩ true (by simp [H6.out.2.2.2.2.2.2.2.1])
     exact this.mono fun e w' ⟨h1, h2⟩ => ⟨h1, hW.trans (h2.mono hW.size)⟩
    have HC : Aside (∀ W, Below w7.heap.size w7 W → Below w7.heap.size w7 W ∧ W.cell? ⟨gb, go + j * 10, none⟩ = some (.int .u8 g.kind) ∧ W.cell? ⟨gb, go + j * 10 + 1, none⟩ = some (.int .u32 g.id) ∧ W.cell? ⟨gb, go + j * 10 + 2, none⟩ = some (.int .u32 g.at_) ∧ W.cell? ⟨gb, go + j * 10 + 3, none⟩ = some (.slice g.na g.nodes.length g.nc) ∧ W.cell? ⟨gb, go + j * 10 + 4, none⟩ = some (.slice g.fa g.facts.length g.fc) ∧ W.cell? ⟨gb, go + j * 10 + 5, none⟩ = some (.int .u32 g.epoch) ∧ W.cell? ⟨gb, go + j * 10 + 6, none⟩ = some (.slice g.sa g.spans.length g.sc) ∧ W.cell? ⟨gb, go + j * 10 + 7, none⟩ = some (.int .i64 g.frm) ∧ W.cell? ⟨gb, go + j * 10 + 8, none⟩ = some (.int .i64 g.til) ∧ W.cell? ⟨gb, go + j * 10 + 9, none⟩ = some (.slice g.ea g.ents.length g.ec) ∧ W.cell? ⟨X, 0, none⟩ = some (.int .u8 nx.kind) ∧ W.cell? ⟨X, 1, none⟩ = some (.int .u32 nx.id) ∧ W.cell? ⟨X, 2, none⟩ = some (.int .u32 nx.at_) ∧ W.cell? ⟨X, 3, none⟩ = some (.slice nx.na nx.nodes.length nx.nc) ∧ W.cell? ⟨X, 4, none⟩ = some (.slice nx.fa nx.facts.length nx.fc) ∧ W.cell? ⟨X, 5, none⟩ = some (.int .u32 nx.epoch) ∧ W.cell? ⟨X, 6, none⟩ = some (.slice nx.sa nx.spans.length nx.sc) ∧ W.cell? ⟨X, 7, none⟩ = some (.int .i64 nx.frm) ∧ W.cell? ⟨X, 8, none⟩ = some (.int .i64 nx.til) ∧ W.cell? ⟨X, 9, none⟩ = some (.slice nx.ea nx.ents.length nx.ec)) := fun W hW => by
     have g67 := g7.trans (hW.mono g7.size)
     have hb := H6.out.2.2.1.below g67
     have hc := fun i x hx => (g67.cell (p := ⟨gb, go + j * 10 + i, none⟩) (cell_lt (H6.out.2.2.2.2.2.2.2.2 i x hx))).trans (H6.out.2.2.2.2.2.2.2.2 i x hx)
     exact ⟨hW, hc 0 _ rfl, hc 1 _ rfl, hc 2 _ rfl, hc 3 _ rfl, hc 4 _ rfl, hc 5 _ rfl, hc 6 _ rfl, hc 7 _ rfl, hc 8 _ rfl, hc 9 _ rfl, hb.cell (j := 0) rfl, hb.cell (j := 1) rfl, hb.cell (j := 2) rfl, hb.cell (j := 3) rfl, hb.cell (j := 4) rfl, hb.cell (j := 5) rfl, hb.cell (j := 6) rfl, hb.cell (j := 7) rfl, hb.cell (j := 8) rfl, hb.cell (j := 9) rfl⟩
    have H7 : Aside (Below w.heap.size w w7) := H6.out.2.1.trans (g7.mono H6.out.2.1.size)
    clear hC7 ht g7 H6
    go_upto_region 23 with fail
    have HBd : Aside (Below w7.heap.size w7 w7.drew) := (Below.refl _ _).drew
    have q0 := (HC.out _ HBd.out).2
    have hz9 : ((z : Int) == (j : Int)) = false := by simpa using hz5
    refine wp_region_held_drew (S := fun W => W.cell? ⟨gb, go + j * 10, none⟩ = some (.int .u8 g.kind) ∧ W.cell? ⟨gb, go + j * 10 + 1, none⟩ = some (.int .u32 g.id) ∧ W.cell? ⟨gb, go + j * 10 + 2, none⟩ = some (.int .u32 g.at_) ∧ W.cell? ⟨gb, go + j * 10 + 3, none⟩ = some (.slice g.na g.nodes.length g.nc) ∧ W.cell? ⟨gb, go + j * 10 + 4, none⟩ = some (.slice g.fa g.facts.length g.fc) ∧ W.cell? ⟨gb, go + j * 10 + 5, none⟩ = some (.int .u32 g.epoch) ∧ W.cell? ⟨gb, go + j * 10 + 6, none⟩ = some (.slice g.sa g.spans.length g.sc) ∧ W.cell? ⟨gb, go + j * 10 + 7, none⟩ = some (.int .i64 g.frm) ∧ W.cell? ⟨gb, go + j * 10 + 8, none⟩ = some (.int .i64 g.til) ∧ W.cell? ⟨gb, go + j * 10 + 9, none⟩ = some (.slice g.ea g.ents.length g.ec) ∧ W.cell? ⟨X, 0, none⟩ = some (.int .u8 nx.kind) ∧ W.cell? ⟨X, 1, none⟩ = some (.int .u32 nx.id) ∧ W.cell? ⟨X, 2, none⟩ = some (.int .u32 nx.at_) ∧ W.cell? ⟨X, 3, none⟩ = some (.slice nx.na nx.nodes.length nx.nc) ∧ W.cell? ⟨X, 4, none⟩ = some (.slice nx.fa nx.facts.length nx.fc) ∧ W.cell? ⟨X, 5, none⟩ = some (.int .u32 nx.epoch) ∧ W.cell? ⟨X, 6, none⟩ = some (.slice nx.sa nx.spans.length nx.sc) ∧ W.cell? ⟨X, 7, none⟩ = some (.int .i64 nx.frm) ∧ W.cell? ⟨X, 8, none⟩ = some (.int .i64 nx.til) ∧ W.cell? ⟨X, 9, none⟩ = some (.slice nx.ea nx.ents.length nx.ec)) (by kernel_rfl) ?_ (fun hHeld => ?_)
    ·(try dsimp only); exact q0
    change wpAnyH _ _ _ _ _ 15 #[false, false, false, false, false, false, false, false, false, false, false, false, false, false, false] _ _
    refine wpAnyH_take (i := 0) (oi := { dst := some 105, op := Op.move (Operand.tmp 15), type := 29, pos := "law.go:156", after := #[], guard := none }) (v := ?_) rfl (by kernel_rfl) (by kernel_rfl) (by kernel_rfl) (fun _ _ _ h => h) (Or.inl ⟨by kernel_rfl, ?_⟩) (by assumption) ?_
    rotate_left
    focus
     intro w hSw
     (try dsimp only at hSw)
     go_simp
     all_goals (try with_reducible rfl)
    simp only [Act.put, List.setIfInBounds_toArray, List.set_cons_zero, List.set_cons_succ]
    refine wpAnyH_take (i := 1) (oi := { dst := some 106, op := Op.call { callee := Callee.builtin Builtin.len, args := #[Operand.tmp 105], argTypes := #[29] }, type := 3, pos := "law.go:156", after := #[{ on := 0, ground := Ground.data }], guard := none }) (v := ?_) rfl (by kernel_rfl) (by kernel_rfl) (by kernel_rfl) (fun _ _ _ h => h) (Or.inl ⟨by kernel_rfl, ?_⟩) (by assumption) ?_
    rotate_left
    focus
     intro w hSw
     (try dsimp only at hSw)
     go_simp
     all_goals (try with_reducible rfl)
    simp only [Act.put, List.setIfInBounds_toArray, List.set_cons_zero, List.set_cons_succ]
    refine wpAnyH_take (i := 2) (oi := { dst := some 107, op := Op.move (Operand.tmp 11), type := 29, pos := "law.go:156", after := #[], guard := none }) (v := ?_) rfl (by kernel_rfl) (by kernel_rfl) (by kernel_rfl) (fun _ _ _ h => h) (Or.inl ⟨by kernel_rfl, ?_⟩) (by assumption) ?_
    rotate_left
    focus
     intro w hSw
     (try dsimp only at hSw)
     go_simp
     all_goals (try with_reducible rfl)
    simp only [Act.put, List.setIfInBounds_toArray, List.set_cons_zero, List.set_cons_succ]
    refine wpAnyH_take (i := 3) (oi := { dst := some 108, op := Op.call { callee := Callee.builtin Builtin.len, args := #[Operand.tmp 107], argTypes := #[29] }, type := 3, pos := "law.go:156", after := #[{ on := 2, ground := Ground.data }], guard := none }) (v := ?_) rfl (by kernel_rfl) (by kernel_rfl) (by kernel_rfl) (fun _ _ _ h => h) (Or.inl ⟨by kernel_rfl, ?_⟩) (by assumption) ?_
    rotate_left
    focus
     intro w hSw
     (try dsimp only at hSw)
     go_simp
     all_goals (try with_reducible rfl)
    simp only [Act.put, List.setIfInBounds_toArray, List.set_cons_zero, List.set_cons_succ]
    refine wpAnyH_take (i := 4) (oi := { dst := some 109, op := Op.binOp BinOp.eql 3 (Operand.tmp 106) (Operand.tmp 108) 3, type := 4, pos := "law.go:156", after := #[{ on := 1, ground := Ground.data }, { on := 3, ground := Ground.data }], guard := none }) (v := ?_) rfl (by kernel_rfl) (by kernel_rfl) (by kernel_rfl) (fun _ _ _ h => h) (Or.inl ⟨by kernel_rfl, ?_⟩) (by assumption) ?_
    rotate_left
    focus
     intro w hSw
     (try dsimp only at hSw)
     go_simp
     all_goals (try with_reducible rfl)
    simp only [Act.put, List.setIfInBounds_toArray, List.set_cons_zero, List.set_cons_succ]
    refine wpAnyH_take (i := 5) (oi := { dst := some 110, op := Op.move (Operand.tmp 109), type := 4, pos := "law.go:156", after := #[{ on := 4, ground := Ground.data }], guard := none }) (v := ?_) rfl (by kernel_rfl) (by kernel_rfl) (by kernel_rfl) (fun _ _ _ h => h) (Or.inl ⟨by kernel_rfl, ?_⟩) (by assumption) ?_
    rotate_left
    focus
     intro w hSw
     (try dsimp only at hSw)
     go_simp
     all_goals (try with_reducible rfl)
    simp only [Act.put, List.setIfInBounds_toArray, List.set_cons_zero, List.set_cons_succ]
    refine wpAnyH_take (i := 6) (oi := { dst := some 111, op := Op.move (Operand.tmp 15), type := 29, pos := "law.go:156", after := #[{ on := 5, ground := Ground.guard }], guard := some (5, false) }) (v := ?_) rfl (by kernel_rfl) (by kernel_rfl) (by kernel_rfl) (fun _ _ _ h => h) (Or.inl ⟨by kernel_rfl, ?_⟩) (by assumption) ?_
    rotate_left
    focus
     intro w hSw
     (try dsimp only at hSw)
     go_simp
     all_goals (try with_reducible rfl)
    simp only [Act.put, List.setIfInBounds_toArray, List.set_cons_zero, List.set_cons_succ]
    refine wpAnyH_take (i := 7) (oi := { dst := some 112, op := Op.move (Operand.tmp 11), type := 29, pos := "law.go:156", after := #[{ on := 5, ground := Ground.guard }], guard := some (5, false) }) (v := ?_) rfl (by kernel_rfl) (by kernel_rfl) (by kernel_rfl) (fun _ _ _ h => h) (Or.inl ⟨by kernel_rfl, ?_⟩) (by assumption) ?_
    rotate_left
    focus
     intro w hSw
     (try dsimp only at hSw)
     go_simp
     all_goals (try with_reducible rfl)
    simp only [Act.put, List.setIfInBounds_toArray, List.set_cons_zero, List.set_cons_succ]
    refine wpAnyH_take (i := 8) (oi := { dst := some 113, op := Op.call { callee := Callee.builtin Builtin.len, args := #[Operand.tmp 112], argTypes := #[29] }, type := 3, pos := "law.go:156", after := #[{ on := 7, ground := Ground.data }, { on := 5, ground := Ground.guard }], guard := some (5, false) }) (v := ?_) rfl (by kernel_rfl) (by kernel_rfl) (by kernel_rfl) (fun _ _ _ h => h) (Or.inl ⟨by kernel_rfl, ?_⟩) (by assumption) ?_
    rotate_left
    focus
     intro w hSw
     (try dsimp only at hSw)
     go_simp
     all_goals (try with_reducible rfl)
    simp only [Act.put, List.setIfInBounds_toArray, List.set_cons_zero, List.set_cons_succ]
    refine wpAnyH_take (i := 9) (oi := { dst := some 114, op := Op.indexAddr 29 (Operand.tmp 111) (Operand.tmp 113), type := 0, pos := "law.go:156", after := #[{ on := 6, ground := Ground.data }, { on := 8, ground := Ground.data }, { on := 5, ground := Ground.guard }], guard := some (5, false) }) (v := ?_) rfl (by kernel_rfl) (by kernel_rfl) (by kernel_rfl) (fun _ _ _ h => h) (Or.inl ⟨by kernel_rfl, ?_⟩) (by assumption) ?_
    rotate_left
    focus
     intro w hSw
     (try dsimp only at hSw)
     go_simp
     all_goals (try with_reducible rfl)
    simp only [Act.put, List.setIfInBounds_toArray, List.set_cons_zero, List.set_cons_succ]
    refine wpAnyH_take (i := 10) (oi := { dst := some 115, op := Op.load 44 (Operand.tmp 114), type := 44, pos := "law.go:156", after := #[{ on := 9, ground := Ground.data }, { on := 5, ground := Ground.guard }], guard := some (5, false) }) (v := ?_) rfl (by kernel_rfl) (by kernel_rfl) (by kernel_rfl) (fun _ _ _ h => h) (Or.inl ⟨by kernel_rfl, ?_⟩) (by assumption) ?_
    rotate_left
    focus
     intro w hSw
     (try dsimp only at hSw)
     go_simp
     all_goals (try with_reducible rfl)
    simp only [Act.put, List.setIfInBounds_toArray, List.set_cons_zero, List.set_cons_succ]
    refine wpAnyH_take (i := 11) (oi := { dst := some 116, op := Op.load 44 (Operand.tmp 12), type := 44, pos := "law.go:156", after := #[{ on := 5, ground := Ground.guard }], guard := some (5, false) }) (v := ?_) rfl (by kernel_rfl) (by kernel_rfl) (by kernel_rfl) (fun _ _ _ h => h) (Or.inl ⟨by kernel_rfl, ?_⟩) (by assumption) ?_
    rotate_left
    focus
     intro w hSw
     (try dsimp only at hSw)
     go_simp
     all_goals (try with_reducible rfl)
    simp only [Act.put, List.setIfInBounds_toArray, List.set_cons_zero, List.set_cons_succ]
    refine wpAnyH_ready (rs := [12]) (by kernel_rfl) (by simp) ?_
    refine AllReadyH.cons (o := { dst := some 117, op := Op.call { callee := Callee.value (Operand.func 17), args := #[Operand.tmp 115, Operand.tmp 116], argTypes := #[44, 44] }, type := 4, pos := "law.go:156", after := #[{ on := 10, ground := Ground.data }, { on := 11, ground := Ground.data }, { on := 5, ground := Ground.chain }, { on := 5, ground := Ground.guard }], guard := some (5, false) }) rfl (fun K hK => ?_) AllReadyH.nil
    go_simp
    refine (hS _ HBd.out).mono ?_
    (rintro e wa ⟨rfl, hbA⟩)
    go_wp2_with fail
    refine hK.out _ _ ?_ (fun hHeld2 => ?_)
    ·(try dsimp only); exact (HC.out _ hbA.out).2
    clear hK K hHeld
    have hHeld := hHeld2
    clear hHeld2
    simp only [List.setIfInBounds_toArray, List.set_cons_zero, List.set_cons_succ]
    refine wpAnyH_take (i := 13) (oi := { dst := some 118, op := Op.pick (Operand.tmp 110) (Operand.const (Value.bool true)) (Operand.tmp 117), type := 4, pos := "law.go:156", after := #[{ on := 5, ground := Ground.data }, { on := 12, ground := Ground.data }], guard := none }) (v := ?_) rfl (by kernel_rfl) (by kernel_rfl) (by kernel_rfl) (fun _ _ _ h => h) (Or.inl ⟨by kernel_rfl, ?_⟩) (by assumption) ?_
    rotate_left
    focus
     intro w hSw
     (try dsimp only at hSw)
     go_simp
     all_goals (try with_reducible rfl)
    simp only [Act.put, List.setIfInBounds_toArray, List.set_cons_zero, List.set_cons_succ]
    refine wpAnyH_take (i := 14) (oi := { dst := some 6, op := Op.assign (Operand.tmp 118), type := 4, pos := "law.go:156", after := #[{ on := 13, ground := Ground.data }, { on := 12, ground := Ground.chain }, { on := 0, ground := Ground.phase }, { on := 1, ground := Ground.phase }, { on := 2, ground := Ground.phase }, { on := 3, ground := Ground.phase }, { on := 4, ground := Ground.phase }, { on := 5, ground := Ground.phase }, { on := 6, ground := Ground.phase }, { on := 7, ground := Ground.phase }, { on := 8, ground := Ground.phase }, { on := 9, ground := Ground.phase }, { on := 10, ground := Ground.phase }, { on := 11, ground := Ground.phase }, { on := 12, ground := Ground.phase }, { on := 13, ground := Ground.phase }], guard := none }) (v := ?_) rfl (by kernel_rfl) (by kernel_rfl) (by kernel_rfl) (fun _ _ _ h => h) (Or.inl ⟨by kernel_rfl, ?_⟩) (by assumption) ?_
    rotate_left
    focus
     intro w hSw
     (try dsimp only at hSw)
     go_simp
     all_goals (try with_reducible rfl)
    simp only [Act.put, List.setIfInBounds_toArray, List.set_cons_zero, List.set_cons_succ]
    refine wpAnyH_done (by kernel_rfl) ?_ _
    go_wp2
    go_ret
    exact ⟨rfl, H7.out.trans (hbA.out.mono H7.out.size)⟩
  ·have hC0 := halted_one hp
   rw [decide_eq_false hha] at hC0
   have hfit := (dsk_one _ _).fit _ _ hp
   have hlog : LogIs recB (rs.map pr) d := by
    rcases hst with h1 | ⟨h1, -⟩
    ·exact h1
    ·exact absurd h1 hha
   have H4 : Aside (RsOwn (X + 1) wr (.slice la j lc) rs ∧ One w.heap.size K wr d ∧ bytes.Boxed wr h #[.pointer (some ⟨K, 0, none⟩)] 60 ∧ bytes.Boxed wr X (rcC nx) 44 ∧ Below w.heap.size w wr ∧ X + 1 ≤ wr.heap.size ∧ (∀ x ∈ rs.map pr, encN x = 0) ∧ LogIs recB (rs.map pr) d ∧ Fit d) := ⟨hrs, hp, hx, hbx, hb, hsz, henc, hlog, hfit⟩
   clear hrs hp hx hbx hb hsz henc hst hlog hfit hha
   obtain ⟨b, off, ha, hcs, ho⟩ := wp_at (H.out.1.keep H4.out.2.2.2.2.1) (k := k) (by rw [H.out.2]; exact hlt)
   subst ha
   obtain ⟨r0, r1, r2, r3, r4, r5, r6, r7, r8, r9, r10, r11, r12⟩ := wps_at hcs
   have hC5 := sound_any wr _ ho
   generalize wopn os k = o at hC5 r0 r1 r2 r3 r4 r5 r6 r7 r8 r9 r10 r11 r12
   clear hcs ho
   go_wp2_with (first | (go_at_call 16; refine hC0.mono ?_; rintro e w0' ⟨rfl, hw0⟩; have hw0 := hw0.symm; subst hw0) | (go_at_call 12; refine hC5.mono ?_; rintro e w6 ⟨r, rfl, hO6, hs6, hp6, g6⟩; refine Hid.out ?_))
   refine hid ?_
   have H6 : Aside (RsOwn (X + 1) w6 (.slice la j lc) rs ∧ One w.heap.size K w6 d ∧ bytes.Boxed w6 h #[.pointer (some ⟨K, 0, none⟩)] 60 ∧ bytes.Boxed w6 X (rcC nx) 44 ∧ Below w.heap.size w w6 ∧ X + 1 ≤ w6.heap.size ∧ OwnIn w6 r) := ⟨H4.out.1.keep g6, (dsk_one _ _).keep _ _ _ H4.out.2.1 g6, H4.out.2.2.1.below g6, H4.out.2.2.2.1.below g6, H4.out.2.2.2.2.1.trans (g6.mono H4.out.2.2.2.2.1.size), Nat.le_trans H4.out.2.2.2.2.2.1 g6.size, hO6⟩
   have hbx' := H6.out.2.2.2.1
   have c0 := hbx'.cell (j := 0) rfl
   have f0 := hbx'.frz 0
   have c1 := hbx'.cell (j := 1) rfl
   have f1 := hbx'.frz 1
   have c2 := hbx'.cell (j := 2) rfl
   have f2 := hbx'.frz 2
   have c3 := hbx'.cell (j := 3) rfl
   have f3 := hbx'.frz 3
   have c4 := hbx'.cell (j := 4) rfl
   have f4 := hbx'.frz 4
   have c5 := hbx'.cell (j := 5) rfl
   have f5 := hbx'.frz 5
   have c6 := hbx'.cell (j := 6) rfl
   have f6 := hbx'.frz 6
   have c7 := hbx'.cell (j := 7) rfl
   have f7 := hbx'.frz 7
   have c8 := hbx'.cell (j := 8) rfl
   have f8 := hbx'.frz 8
   have c9 := hbx'.cell (j := 9) rfl
   have f9 := hbx'.frz 9
   clear hbx'
   clear hC0 hC5 hO6 hs6 hp6 g6 r0 r1 r2 r3 r4 r5 r6 r7 r8 r9 r10 r11 r12
   unfold rcV rcC
   go_upto_region 16 with fail
   have gch := store_grown w6 X r
   have H7 : Aside (RsOwn (X + 1) ((((((((((w6.setCell ⟨X, 0, none⟩ (.int .u8 r.kind)).setCell ⟨X, 1, none⟩ (.int .u32 r.id)).setCell ⟨X, 2, none⟩ (.int .u32 r.at_)).setCell ⟨X, 3, none⟩ (.slice r.na r.nodes.length r.nc)).setCell ⟨X, 4, none⟩ (.slice r.fa r.facts.length r.fc)).setCell ⟨X, 5, none⟩ (.int .u32 r.epoch)).setCell ⟨X, 6, none⟩ (.slice r.sa r.spans.length r.sc)).setCell ⟨X, 7, none⟩ (.int .i64 r.frm)).setCell ⟨X, 8, none⟩ (.int .i64 r.til)).setCell ⟨X, 9, none⟩ (.slice r.ea r.ents.length r.ec)) (.slice la j lc) rs ∧ One w.heap.size K ((((((((((w6.setCell ⟨X, 0, none⟩ (.int .u8 r.kind)).setCell ⟨X, 1, none⟩ (.int .u32 r.id)).setCell ⟨X, 2, none⟩ (.int .u32 r.at_)).setCell ⟨X, 3, none⟩ (.slice r.na r.nodes.length r.nc)).setCell ⟨X, 4, none⟩ (.slice r.fa r.facts.length r.fc)).setCell ⟨X, 5, none⟩ (.int .u32 r.epoch)).setCell ⟨X, 6, none⟩ (.slice r.sa r.spans.length r.sc)).setCell ⟨X, 7, none⟩ (.int .i64 r.frm)).setCell ⟨X, 8, none⟩ (.int .i64 r.til)).setCell ⟨X, 9, none⟩ (.slice r.ea r.ents.length r.ec)) d ∧ bytes.Boxed ((((((((((w6.setCell ⟨X, 0, none⟩ (.int .u8 r.kind)).setCell ⟨X, 1, none⟩ (.int .u32 r.id)).setCell ⟨X, 2, none⟩ (.int .u32 r.at_)).setCell ⟨X, 3, none⟩ (.slice r.na r.nodes.length r.nc)).setCell ⟨X, 4, none⟩ (.slice r.fa r.facts.length r.fc)).setCell ⟨X, 5, none⟩ (.int .u32 r.epoch)).setCell ⟨X, 6, none⟩ (.slice r.sa r.spans.length r.sc)).setCell ⟨X, 7, none⟩ (.int .i64 r.frm)).setCell ⟨X, 8, none⟩ (.int .i64 r.til)).setCell ⟨X, 9, none⟩ (.slice r.ea r.ents.length r.ec)) h #[.pointer (some ⟨K, 0, none⟩)] 60 ∧ bytes.Boxed ((((((((((w6.setCell ⟨X, 0, none⟩ (.int .u8 r.kind)).setCell ⟨X, 1, none⟩ (.int .u32 r.id)).setCell ⟨X, 2, none⟩ (.int .u32 r.at_)).setCell ⟨X, 3, none⟩ (.slice r.na r.nodes.length r.nc)).setCell ⟨X, 4, none⟩ (.slice r.fa r.facts.length r.fc)).setCell ⟨X, 5, none⟩ (.int .u32 r.epoch)).setCell ⟨X, 6, none⟩ (.slice r.sa r.spans.length r.sc)).setCell ⟨X, 7, none⟩ (.int .i64 r.frm)).setCell ⟨X, 8, none⟩ (.int .i64 r.til)).setCell ⟨X, 9, none⟩ (.slice r.ea r.ents.length r.ec)) X (rcC r) 44 ∧ Below w.heap.size w ((((((((((w6.setCell ⟨X, 0, none⟩ (.int .u8 r.kind)).setCell ⟨X, 1, none⟩ (.int .u32 r.id)).setCell ⟨X, 2, none⟩ (.int .u32 r.at_)).setCell ⟨X, 3, none⟩ (.slice r.na r.nodes.length r.nc)).setCell ⟨X, 4, none⟩ (.slice r.fa r.facts.length r.fc)).setCell ⟨X, 5, none⟩ (.int .u32 r.epoch)).setCell ⟨X, 6, none⟩ (.slice r.sa r.spans.length r.sc)).setCell ⟨X, 7, none⟩ (.int .i64 r.frm)).setCell ⟨X, 8, none⟩ (.int .i64 r.til)).setCell ⟨X, 9, none⟩ (.slice r.ea r.ents.length r.ec)) ∧ X + 1 ≤ ((((((((((w6.setCell ⟨X, 0, none⟩ (.int .u8 r.kind)).setCell ⟨X, 1, none⟩ (.int .u32 r.id)).setCell ⟨X, 2, none⟩ (.int .u32 r.at_)).setCell ⟨X, 3, none⟩ (.slice r.na r.nodes.length r.nc)).setCell ⟨X, 4, none⟩ (.slice r.fa r.facts.length r.fc)).setCell ⟨X, 5, none⟩ (.int .u32 r.epoch)).setCell ⟨X, 6, none⟩ (.slice r.sa r.spans.length r.sc)).setCell ⟨X, 7, none⟩ (.int .i64 r.frm)).setCell ⟨X, 8, none⟩ (.int .i64 r.til)).setCell ⟨X, 9, none⟩ (.slice r.ea r.ents.length r.ec)).heap.size ∧ OwnIn ((((((((((w6.setCell ⟨X, 0, none⟩ (.int .u8 r.kind)).setCell ⟨X, 1, none⟩ (.int .u32 r.id)).setCell ⟨X, 2, none⟩ (.int .u32 r.at_)).setCell ⟨X, 3, none⟩ (.slice r.na r.nodes.length r.nc)).setCell ⟨X, 4, none⟩ (.slice r.fa r.facts.length r.fc)).setCell ⟨X, 5, none⟩ (.int .u32 r.epoch)).setCell ⟨X, 6, none⟩ (.slice r.sa r.spans.length r.sc)).setCell ⟨X, 7, none⟩ (.int .i64 r.frm)).setCell ⟨X, 8, none⟩ (.int .i64 r.til)).setCell ⟨X, 9, none⟩ (.slice r.ea r.ents.length r.ec)) r) :=
    ⟨H6.out.1.box gch H6.out.2.2.2.1, H6.out.2.1.grow gch (boxed_far H6.out.2.2.2.1 (by decide)) (boxed_far H6.out.2.2.2.1 (by decide)), box_grow H6.out.2.2.1 gch (boxed_far H6.out.2.2.2.1 (by decide)), store_box r H6.out.2.2.2.1, H6.out.2.2.2.2.1.grown gch H6.out.2.2.2.2.1.size (fun q hq => by injection hq; omega), Nat.le_trans H6.out.2.2.2.2.2.1 gch.size, rc_far H6.out.2.2.2.2.2.2 gch (boxed_far H6.out.2.2.2.1 (by decide)) (boxed_far H6.out.2.2.2.1 (by decide)) (boxed_far H6.out.2.2.2.1 (by decide)) (boxed_far H6.out.2.2.2.1 (by decide))⟩
   clear gch
   generalize ((((((((((w6.setCell ⟨X, 0, none⟩ (.int .u8 r.kind)).setCell ⟨X, 1, none⟩ (.int .u32 r.id)).setCell ⟨X, 2, none⟩ (.int .u32 r.at_)).setCell ⟨X, 3, none⟩ (.slice r.na r.nodes.length r.nc)).setCell ⟨X, 4, none⟩ (.slice r.fa r.facts.length r.fc)).setCell ⟨X, 5, none⟩ (.int .u32 r.epoch)).setCell ⟨X, 6, none⟩ (.slice r.sa r.spans.length r.sc)).setCell ⟨X, 7, none⟩ (.int .i64 r.frm)).setCell ⟨X, 8, none⟩ (.int .i64 r.til)).setCell ⟨X, 9, none⟩ (.slice r.ea r.ents.length r.ec)) = w7 at H7 ⊢
   clear H6 c0 c1 c2 c3 c4 c5 c6 c7 c8 c9 f0 f1 f2 f3 f4 f5 f6 f7 f8 f9
   have hbx' := H7.out.2.2.2.1
   have c0 := hbx'.cell (j := 0) rfl
   have c1 := hbx'.cell (j := 1) rfl
   have c2 := hbx'.cell (j := 2) rfl
   have c3 := hbx'.cell (j := 3) rfl
   have c4 := hbx'.cell (j := 4) rfl
   have c5 := hbx'.cell (j := 5) rfl
   have c6 := hbx'.cell (j := 6) rfl
   have c7 := hbx'.cell (j := 7) rfl
   have c8 := hbx'.cell (j := 8) rfl
   have c9 := hbx'.cell (j := 9) rfl
   clear hbx'
   have hC6 := force_any (dsk_one _ _) w7 d h r H7.out.2.1 H7.out.2.2.1 H7.out.2.2.2.2.2.2.recIn
   rcases force_halts H4.out.2.2.2.2.2.2.2.1 H4.out.2.2.2.2.2.2.2.2.left.1 (pr r) with ⟨h0, he, hl8⟩ | hbc
   ·rw [h0] at hC6
    have HM8 : Aside (LogIs recB (rs.map pr ++ [pr r]) (forceR (pr r) d).1 ∧ encN (pr r) = 0 ∧ (∀ x ∈ rs.map pr, encN x = 0)) := ⟨hl8, he, H4.out.2.2.2.2.2.2.1⟩
    clear h0 he hl8 H4
    generalize (forceR (pr r) d).1 = d7 at hC6 HM8
    go_wp2_with (go_at_call 11; refine hC6.mono ?_; rintro e w8 ⟨rfl, hp8, s8⟩; refine Hid.out ?_)
    refine hid ?_
    have H8 : Aside (RsOwn (X + 1) w8 (.slice la j lc) rs ∧ One w.heap.size K w8 d7 ∧ bytes.Boxed w8 h #[.pointer (some ⟨K, 0, none⟩)] 60 ∧ bytes.Boxed w8 X (rcC r) 44 ∧ Below w.heap.size w w8 ∧ X + 1 ≤ w8.heap.size ∧ OwnIn w8 r) := ⟨H7.out.1.stay s8, hp8, s8.boxes _ _ _ H7.out.2.2.1 kt_log, s8.boxes _ _ _ H7.out.2.2.2.1 kt_rec, H7.out.2.2.2.2.1.trans s8.below, Nat.le_trans H7.out.2.2.2.2.2.1 s8.below.size, rc_stay H7.out.2.2.2.2.2.2 s8⟩
    clear hC6 hp8 s8 H7 c0 c1 c2 c3 c4 c5 c6 c7 c8 c9
    have hbx' := H8.out.2.2.2.1
    have c0 := hbx'.cell (j := 0) rfl
    have c1 := hbx'.cell (j := 1) rfl
    have c2 := hbx'.cell (j := 2) rfl
    have c3 := hbx'.cell (j := 3) rfl
    have c4 := hbx'.cell (j := 4) rfl
    have c5 := hbx'.cell (j := 5) rfl
    have c6 := hbx'.cell (j := 6) rfl
    have c7 := hbx'.cell (j := 7) rfl
    have c8 := hbx'.cell (j := 8) rfl
    have c9 := hbx'.cell (j := 9) rfl
    clear hbx'
    have hown : w8.ownsRow (X + 1) 44 10 (.slice la j lc) j (rs.flatMap rcL) := by have := H8.out.1.own; rwa [← H8.out.1.at_.1] at this
    have hbase : X + 1 ≤ w8.heap.size := H8.out.2.2.2.2.2.1
    go_wp2_with (at_builtin; refine wpList_append_lies _ rfl _ _ 29 rfl (X + 1) 44 i0 _ 10 136 Try.underlying29 hi hz0 hz1 hz2 rfl (by decide) _ j _ rfl (hown.alloc _) ⟨w8.heap.size, 0, none⟩ 1 1 (rcL r) rfl rfl (cells_rec_new w8 r _) (rcL_cell r) (by omega) (by unfold maxLen; omega) (by omega) (by simp; omega) (w8.heap.size + 1) (by simp) ?_; intro g3 c3' w9 hown9 hgr9 hat9 hlt9; refine Hid.out ?_)
    refine hid ?_
    have hfar : ∀ o e, 44 ≠ e → Far (w8.alloc o) (Value.slice la j lc).ownBlock e := fun o e he => far_row (World.ownsRow.alloc hown o) he
    have ha8 : ∀ o, Below w8.heap.size w8 (w8.alloc o) := fun o => (Below.refl _ _).alloc (Nat.le_refl _) o
    have hne8 : some X ≠ (Value.slice la j lc).ownBlock := fun e => by have := (World.ownsRow.lt hown _ e.symm).1; omega
    have H9 : Aside (RsOwn (X + 1) w9 (.slice (some ⟨g3, 0, none⟩) (j + 1) c3') (rs ++ [r]) ∧ One w.heap.size K w9 d7 ∧ bytes.Boxed w9 h #[.pointer (some ⟨K, 0, none⟩)] 60 ∧ bytes.Boxed w9 X (rcC r) 44 ∧ Below w.heap.size w w9 ∧ X + 1 ≤ w9.heap.size) :=
     ⟨H8.out.1.push H8.out.2.2.2.2.2.2 H8.out.1.at_.1.symm hown9 hgr9, ((dsk_one _ _).keep _ _ _ H8.out.2.1 (ha8 _)).grow hgr9 (hfar _ _ (by decide)) (hfar _ _ (by decide)), box_grow (H8.out.2.2.1.below (ha8 _)) hgr9 (hfar _ _ (by decide)), box_ne (H8.out.2.2.2.1.below (ha8 _)) hgr9 hne8, (H8.out.2.2.2.2.1.alloc (by omega) _).grown hgr9 (by simp; omega) (fun q hq => by have := (World.ownsRow.lt hown _ hq).1; omega), by have := hgr9.size; simp at this; omega⟩
    clear hown hbase hown9 hgr9 hat9 hlt9 hfar ha8 hne8
    clear c0 c1 c2 c3 c4 c5 c6 c7 c8 c9 H8
    have hbx' := H9.out.2.2.2.1
    have c0 := hbx'.cell (j := 0) rfl
    have f0 := hbx'.frz 0
    have c1 := hbx'.cell (j := 1) rfl
    have f1 := hbx'.frz 1
    have c2 := hbx'.cell (j := 2) rfl
    have f2 := hbx'.frz 2
    have c3 := hbx'.cell (j := 3) rfl
    have f3 := hbx'.frz 3
    have c4 := hbx'.cell (j := 4) rfl
    have f4 := hbx'.frz 4
    have c5 := hbx'.cell (j := 5) rfl
    have f5 := hbx'.frz 5
    have c6 := hbx'.cell (j := 6) rfl
    have f6 := hbx'.frz 6
    have c7 := hbx'.cell (j := 7) rfl
    have f7 := hbx'.frz 7
    have c8 := hbx'.cell (j := 8) rfl
    have f8 := hbx'.frz 8
    have c9 := hbx'.cell (j := 9) rfl
    have f9 := hbx'.frz 9
    clear hbx'
    go_upto_region 14 with fail
    have gch := store_grown w9 X rc0
    have H10 : Aside (RsOwn (X + 1) ((((((((((w9.setCell ⟨X, 0, none⟩ (.int .u8 0)).setCell ⟨X, 1, none⟩ (.int .u32 0)).setCell ⟨X, 2, none⟩ (.int .u32 0)).setCell ⟨X, 3, none⟩ (.slice none 0 0)).setCell ⟨X, 4, none⟩ (.slice none 0 0)).setCell ⟨X, 5, none⟩ (.int .u32 0)).setCell ⟨X, 6, none⟩ (.slice none 0 0)).setCell ⟨X, 7, none⟩ (.int .i64 0)).setCell ⟨X, 8, none⟩ (.int .i64 0)).setCell ⟨X, 9, none⟩ (.slice none 0 0)) (.slice (some ⟨g3, 0, none⟩) (j + 1) c3') (rs ++ [r]) ∧ One w.heap.size K ((((((((((w9.setCell ⟨X, 0, none⟩ (.int .u8 0)).setCell ⟨X, 1, none⟩ (.int .u32 0)).setCell ⟨X, 2, none⟩ (.int .u32 0)).setCell ⟨X, 3, none⟩ (.slice none 0 0)).setCell ⟨X, 4, none⟩ (.slice none 0 0)).setCell ⟨X, 5, none⟩ (.int .u32 0)).setCell ⟨X, 6, none⟩ (.slice none 0 0)).setCell ⟨X, 7, none⟩ (.int .i64 0)).setCell ⟨X, 8, none⟩ (.int .i64 0)).setCell ⟨X, 9, none⟩ (.slice none 0 0)) d7 ∧ bytes.Boxed ((((((((((w9.setCell ⟨X, 0, none⟩ (.int .u8 0)).setCell ⟨X, 1, none⟩ (.int .u32 0)).setCell ⟨X, 2, none⟩ (.int .u32 0)).setCell ⟨X, 3, none⟩ (.slice none 0 0)).setCell ⟨X, 4, none⟩ (.slice none 0 0)).setCell ⟨X, 5, none⟩ (.int .u32 0)).setCell ⟨X, 6, none⟩ (.slice none 0 0)).setCell ⟨X, 7, none⟩ (.int .i64 0)).setCell ⟨X, 8, none⟩ (.int .i64 0)).setCell ⟨X, 9, none⟩ (.slice none 0 0)) h #[.pointer (some ⟨K, 0, none⟩)] 60 ∧ bytes.Boxed ((((((((((w9.setCell ⟨X, 0, none⟩ (.int .u8 0)).setCell ⟨X, 1, none⟩ (.int .u32 0)).setCell ⟨X, 2, none⟩ (.int .u32 0)).setCell ⟨X, 3, none⟩ (.slice none 0 0)).setCell ⟨X, 4, none⟩ (.slice none 0 0)).setCell ⟨X, 5, none⟩ (.int .u32 0)).setCell ⟨X, 6, none⟩ (.slice none 0 0)).setCell ⟨X, 7, none⟩ (.int .i64 0)).setCell ⟨X, 8, none⟩ (.int .i64 0)).setCell ⟨X, 9, none⟩ (.slice none 0 0)) X (rcC rc0) 44 ∧ Below w.heap.size w ((((((((((w9.setCell ⟨X, 0, none⟩ (.int .u8 0)).setCell ⟨X, 1, none⟩ (.int .u32 0)).setCell ⟨X, 2, none⟩ (.int .u32 0)).setCell ⟨X, 3, none⟩ (.slice none 0 0)).setCell ⟨X, 4, none⟩ (.slice none 0 0)).setCell ⟨X, 5, none⟩ (.int .u32 0)).setCell ⟨X, 6, none⟩ (.slice none 0 0)).setCell ⟨X, 7, none⟩ (.int .i64 0)).setCell ⟨X, 8, none⟩ (.int .i64 0)).setCell ⟨X, 9, none⟩ (.slice none 0 0)) ∧ X + 1 ≤ ((((((((((w9.setCell ⟨X, 0, none⟩ (.int .u8 0)).setCell ⟨X, 1, none⟩ (.int .u32 0)).setCell ⟨X, 2, none⟩ (.int .u32 0)).setCell ⟨X, 3, none⟩ (.slice none 0 0)).setCell ⟨X, 4, none⟩ (.slice none 0 0)).setCell ⟨X, 5, none⟩ (.int .u32 0)).setCell ⟨X, 6, none⟩ (.slice none 0 0)).setCell ⟨X, 7, none⟩ (.int .i64 0)).setCell ⟨X, 8, none⟩ (.int .i64 0)).setCell ⟨X, 9, none⟩ (.slice none 0 0)).heap.size) :=
     ⟨H9.out.1.box gch H9.out.2.2.2.1, H9.out.2.1.grow gch (boxed_far H9.out.2.2.2.1 (by decide)) (boxed_far H9.out.2.2.2.1 (by decide)), box_grow H9.out.2.2.1 gch (boxed_far H9.out.2.2.2.1 (by decide)), store_box rc0 H9.out.2.2.2.1, H9.out.2.2.2.2.1.grown gch H9.out.2.2.2.2.1.size (fun q hq => by injection hq; omega), Nat.le_trans H9.out.2.2.2.2.2 gch.size⟩
    clear gch
    generalize ((((((((((w9.setCell ⟨X, 0, none⟩ (.int .u8 0)).setCell ⟨X, 1, none⟩ (.int .u32 0)).setCell ⟨X, 2, none⟩ (.int .u32 0)).setCell ⟨X, 3, none⟩ (.slice none 0 0)).setCell ⟨X, 4, none⟩ (.slice none 0 0)).setCell ⟨X, 5, none⟩ (.int .u32 0)).setCell ⟨X, 6, none⟩ (.slice none 0 0)).setCell ⟨X, 7, none⟩ (.int .i64 0)).setCell ⟨X, 8, none⟩ (.int .i64 0)).setCell ⟨X, 9, none⟩ (.slice none 0 0)) = w10 at H10 ⊢
    clear H9 c0 c1 c2 c3 c4 c5 c6 c7 c8 c9 f0 f1 f2 f3 f4 f5 f6 f7 f8 f9
    have S10 : Aside (∃ rs d nx, RsOwn (X + 1) w10 (.slice (some ⟨g3, 0, none⟩) (j + 1) c3') rs ∧ One w.heap.size K w10 d ∧ bytes.Boxed w10 h #[.pointer (some ⟨K, 0, none⟩)] 60 ∧ bytes.Boxed w10 X (rcC nx) 44 ∧ Below w.heap.size w w10 ∧ X + 1 ≤ w10.heap.size ∧ (∀ x ∈ rs.map pr, encN x = 0) ∧ (LogIs recB (rs.map pr) d ∨ (d.left = 0 ∧ d.b = logB recB (rs.map pr ++ [pr nx]) ∧ d.lasts = (logB recB (rs.map pr)).length ∧ OwnIn w10 nx ∧ encN (pr nx) = 0))) := by
     refine ⟨rs ++ [r], d7, rc0, H10.out.1, H10.out.2.1, H10.out.2.2.1, H10.out.2.2.2.1, H10.out.2.2.2.2.1, H10.out.2.2.2.2.2, fun x hx => ?_, .inl ?_⟩
     ·rw [List.map_append, List.map_cons, List.map_nil] at hx
      rcases List.mem_append.1 hx with hx | hx
      ·exact HM8.out.2.2 x hx
      ·simp at hx; rw [hx]; exact HM8.out.2.1
     ·rw [List.map_append, List.map_cons, List.map_nil]; exact HM8.out.1
    clear H10 HM8
    go_wp2
    go_roundg (n - (k + 1))
    case measure => omega
    case rel => exact ⟨k + 1, j + 1, _, _, by go_num, rfl, by omega, by omega, by omega, S10⟩
   ·have HM8 : Aside ((forceR (pr r) d).2 ≠ 0 ∧ (∀ x ∈ rs.map pr, encN x = 0) ∧ (LogIs recB (rs.map pr) (forceR (pr r) d).1 ∨ ((forceR (pr r) d).1.left = 0 ∧ (forceR (pr r) d).1.b = logB recB (rs.map pr ++ [pr r]) ∧ (forceR (pr r) d).1.lasts = (logB recB (rs.map pr)).length ∧ encN (pr r) = 0))) := by
     rcases hbc with ⟨h0, h1⟩ | ⟨h0, h1⟩
     ·exact ⟨h0, H4.out.2.2.2.2.2.2.1, .inl h1⟩
     ·exact ⟨h0, H4.out.2.2.2.2.2.2.1, .inr h1⟩
    obtain ⟨E, hE⟩ : ∃ E : Int, (((forceR (pr r) d).2 : Nat) : Int) = E := ⟨_, rfl⟩
    have hE0 : ¬ E = 0 := by have := HM8.out.1; omega
    rw [hE] at hC6
    clear hbc H4 hE
    generalize (forceR (pr r) d).1 = d7 at hC6 HM8
    go_wp2_with (go_at_call 11; refine hC6.mono ?_; rintro e w8 ⟨rfl, hp8, s8⟩; refine Hid.out ?_)
    refine hid ?_
    have S10 : Aside (∃ rs d nx, RsOwn (X + 1) w8 (.slice la j lc) rs ∧ One w.heap.size K w8 d ∧ bytes.Boxed w8 h #[.pointer (some ⟨K, 0, none⟩)] 60 ∧ bytes.Boxed w8 X (rcC nx) 44 ∧ Below w.heap.size w w8 ∧ X + 1 ≤ w8.heap.size ∧ (∀ x ∈ rs.map pr, encN x = 0) ∧ (LogIs recB (rs.map pr) d ∨ (d.left = 0 ∧ d.b = logB recB (rs.map pr ++ [pr nx]) ∧ d.lasts = (logB recB (rs.map pr)).length ∧ OwnIn w8 nx ∧ encN (pr nx) = 0))) := by
     refine ⟨rs, d7, r, H7.out.1.stay s8, hp8, s8.boxes _ _ _ H7.out.2.2.1 kt_log, s8.boxes _ _ _ H7.out.2.2.2.1 kt_rec, H7.out.2.2.2.2.1.trans s8.below, Nat.le_trans H7.out.2.2.2.2.2.1 s8.below.size, HM8.out.2.1, ?_⟩
     rcases HM8.out.2.2 with h1 | ⟨h1, h2, h3, h4⟩
     ·exact .inl h1
     ·exact .inr ⟨h1, h2, h3, rc_stay H7.out.2.2.2.2.2.2 s8, h4⟩
    clear hC6 hp8 s8 H7 HM8 c0 c1 c2 c3 c4 c5 c6 c7 c8 c9
    go_wp2
    go_roundg (n - (k + 1))
    case measure => omega
    case rel => exact ⟨k + 1, j, _, _, by go_num, rfl, by omega, by omega, by omega, S10⟩
end Go.Proofs.Ytlcjllgfpfldlaa.wal
