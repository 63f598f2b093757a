/-
 The chapter's own Open, of a disk that has no count.
 The chapter's example holds.
-/
import Derived.Test.YtlcjllgfpfldlaaGreatWalZ44K
import Derived.Test.YtlcjllgfpfldlaaGreatWalTyped
set_option maxHeartbeats 16000000
open Go.ChangeShapes Go.WideShapes Go.ChangeAt Go.RowKit Go.Deep
set_option linter.unusedVariables false
set_option maxRecDepth 100000
set_option linter.unusedSimpArgs false
namespace Go.Proofs.YtlcjllgfpfldlaaGreat
namespace wal
open code (Rc PRec pr rcC rcV RecIn OwnIn Far far_row recB recZ dec refDecode_any)
open bytes
open disk
open frame (scanB wrapB wrapB_len refScan_any)
theorem refDec_no (w : World) (a : Option Addr) (n c : Nat) (l : List UInt8) (hS : Sl w a n c l) (h6 : n ≤ 60000) (h : dec l = none) :
  Calls Tryz.prog 29 #[.slice a n c] w fun e w' => e = .returned (.tuple #[.agg recZ, .int .i64 70]) ∧ Below w.heap.size w w' :=
 (refDecode_any w a n c l ⟨hS.at_.mem, hS.at_.low, hS.at_.len, hS.at_.cap⟩ h6 fun x hx => dec_typed hx).mono fun e w' ⟨h1, h2⟩ => by
  rcases h1 with ⟨-, h1⟩ | ⟨r, -, h1, -⟩
  ·exact ⟨h1, h2⟩
  ·rw [h] at h1; cases h1
theorem refDec_yes (w : World) (a : Option Addr) (n c : Nat) (l : List UInt8) (hS : Sl w a n c l) (h6 : n ≤ 60000) (x : PRec) (h : dec l = some x) :
  Calls Tryz.prog 29 #[.slice a n c] w fun e w' => ∃ r, e = .returned (.tuple #[rcV r, .int .i64 0]) ∧ pr r = x ∧ OwnIn w' r ∧ Below w.heap.size w w' :=
 (refDecode_any w a n c l ⟨hS.at_.mem, hS.at_.low, hS.at_.len, hS.at_.cap⟩ h6 fun x hx => dec_typed hx).mono fun e w' ⟨h1, h2⟩ => by
  rcases h1 with ⟨h1, -⟩ | ⟨r, h1, h3, h4⟩
  ·rw [h] at h1; cases h1
  ·rw [h] at h3; injection h3 with h3; exact ⟨r, h1, h3.symm, h4, h2⟩
theorem RsOwn.count {B j c : Nat} {W : World} {a : Option Addr} {rs : List Rc} (h : RsOwn B W (.slice a j c) rs) : rs.length = j := by
 obtain ⟨a2, c2, e⟩ := h.len
 injection e with _ e2 _
 exact e2.symm
theorem stay_row {B j c n : Nat} {w w4 w5 : World} {a : Option Addr} {xs : List Value} {o : Obj} (h : Stay B w w4) (hB : B ≤ w.heap.size) (hn : w.heap.size ≤ w4.heap.size) (hg : (w4.alloc o).grownBy w5 (Value.slice a j c).ownBlock) (hown : w4.ownsRow w.heap.size 46 10 (.slice a j c) n xs) : Stay B w w5 := by
 have ha : Below w4.heap.size w4 (w4.alloc o) := (Below.refl _ _).alloc (nrQ _) o
 refine ⟨(h.below.trans (ha.mono (ntQ hB hn))).grown hg (by simp; omega) (fun q hq => ntQ hB (World.ownsRow.lt hown _ hq).1), fun b cs t hb ht => ?_⟩
 have h4 := (h.boxes b cs t hb ht).below ha
 refine (hg.block b h4.lt fun e => ?_).trans h4
 have h5 := (World.ownsRow.lt hown _ e.symm).1
 have := hb.lt
 omega
section
variable {B k : Nat} {P : World → Dk → Prop}
theorem refOpen_yes (hD : RDsk B k P) (w : World) (d : Dk) (hp : P w d) (d' : Dk) (h0 : openD dec d = (d', 0)) :
  Calls Tryz.prog 10 #[.pointer (some ⟨k, 0, none⟩)] w fun e w' => ∃ h va vc rs, e = .returned (.tuple #[.pointer (some ⟨h, 0, none⟩), .slice va rs.length vc, .int .i64 0]) ∧ bytes.Boxed w' h #[.pointer (some ⟨k, 0, none⟩)] 79 ∧ RsOwn w.heap.size w' (.slice va rs.length vc) rs ∧ rs.map pr = recs dec (scanB d.b) ∧ P w' d' ∧ Stay B w w' := by
 obtain ⟨i0, hi, hz0, hz1, hz2⟩ := info_parts info_rec
 have hC1 := hD.hRead w d hp
 have HD : Aside (RDsk B k P) := hD
 have HB0 : Aside (P w d ∧ B ≤ w.heap.size ∧ Fit d ∧ openD dec d = (d', 0)) := ⟨hp, hD.base _ _ hp, hD.fit _ _ hp, h0⟩
 have hbm : d.b.length ≤ 1048576 := ntQ HB0.out.2.2.1.len HB0.out.2.2.1.room
 have HL : Aside (∀ x ∈ scanB d.b, x.length ≤ 60000) := scan_le d.b
 obtain ⟨n, hn⟩ : ∃ n, d.b.length = n := ⟨_, rfl⟩
 have HN : Aside (d.b.length = n) := hn
 rw [hn] at hC1 hbm
 clear hp hD h0 hn
 go_enter Tryz.func10, Tryz.ntmps10
 go_wp2_with (go_at_call 28; refine hC1.mono ?_; rintro e w1 ⟨ra, rc, rfl, hS, g1⟩; refine Hid.out ?_)
 refine hid ?_
 have hC2 := refScan_any n rc ra d.b w1 hS (by omega)
 have G1 : Aside (Below w.heap.size w w1) := g1
 clear hC1 hS g1
 go_wp2_with (go_at_call 27; refine hC2.mono ?_; rintro e w2 ⟨hv, ls, rfl, hrow, hmap, g2⟩; refine Hid.out ?_)
 refine hid ?_
 obtain ⟨ha, hc, he, -⟩ := hrow.lists
 subst he
 obtain ⟨q, hq⟩ : ∃ q, ls.length = q := ⟨_, rfl⟩
 rw [hq] at hrow ⊢
 have HM : Aside (ls.map (·.l) = scanB d.b ∧ ls.length = q ∧ q ≤ 1048576) := by
  refine ⟨hmap, hq, ?_⟩
  have h1 := congrArg List.length hmap
  rw [List.length_map, hq] at h1
  have h2 := rows_least (scanB d.b)
  obtain ⟨-, r, h3⟩ := scan_front d.b.length d.b (nrQ _)
  have h4 := congrArg List.length h3
  rw [laQ, HN.out] at h4
  omega
 have G2 : Below w.heap.size w w2 := G1.out.trans (g2.mono G1.out.size)
 have H0 : Aside (RowOut w.heap.size w2 (.slice ha q hc) ls ∧ Below w.heap.size w w2 ∧ P w2 d) := ⟨⟨own_mono hrow.own G1.out.size, fun x hx => own_mono (hrow.els x hx) G1.out.size⟩, G2, HD.out.keep _ _ _ HB0.out.1 G2⟩
 have hqm : q ≤ 1048576 := HM.out.2.2
 clear hC2 hrow hmap g2 G1 G2 hq
 go_wp2_with fail
 go_loopg [7, 8, 9] q (fun g1 vl vs vk wr => ∃ (j sz : Nat) (la : Option Addr) (lc : Nat), vl = .slice la j lc ∧ vs = .int .i64 sz ∧ vk = .int .i64 j ∧ j ≤ q ∧ q - j ≤ g1 ∧ sz ≤ n ∧ Aside (∃ rs, RsOwn w.heap.size wr (.slice la j lc) rs ∧ RecsAt d.b rs j sz ∧ RowOut w.heap.size wr (.slice ha q hc) ls ∧ Below w.heap.size w wr ∧ P wr d ∧ Stay B w wr))
 case atStart => exact ⟨0, 0, none, 0, rfl, rfl, rfl, Nat.zero_le _, nrQ _, Nat.zero_le _, [], RsOwn.nil _ _, RecsAt.start d.b, H0.out.1, H0.out.2.1, H0.out.2.2, Stay.of_below H0.out.2.1 HB0.out.2.1⟩
 case round =>
  clear H0
  obtain ⟨j, sz, la, lc, rfl, rfl, rfl, hj, hg1, hsz, SK⟩ := hrel
  obtain ⟨rs, hrs, hat, hrow, hb, hp, hst⟩ := SK.out
  clear SK
  by_cases hlt : j < q
  rotate_left
  ·have hltz : ¬ (j : Int) < (q : Int) := by omega
   have hdn := hat.done (.inl (by have := congrArg List.length HM.out.1; rw [List.length_map, HM.out.2.1] at this; omega))
   clear hat hrow
   obtain ⟨ba, bc, hcell, -⟩ := HD.out.cell _ _ hp
   rw [HN.out] at hcell
   have HS : Aside (RsOwn w.heap.size wr (.slice la j lc) rs ∧ rs.map pr = recs dec (scanB d.b) ∧ Stay B w wr ∧ Below w.heap.size w wr ∧ rs.length = j) := ⟨hrs, hdn.1, hst, hb, RsOwn.count hrs⟩
   have hsz3 : size dec d.b = sz := hdn.2
   have hop : keepD sz d = (d', 0) := by rw [← hsz3]; exact HB0.out.2.2.2
   clear hrs hdn hst hb hsz3
   by_cases hlt2 : sz < n
   ·have hlz2 : (sz : Int) < (n : Int) := by omega
    unfold keepD at hop
    rw [if_pos (by rw [HN.out]; exact hlt2)] at hop
    have hcut : (cut (sz : Nat) d).2 = 0 := by
     by_cases hc0 : (cut (sz : Nat) d).2 = 0
     ·exact hc0
     ·rw [if_pos hc0] at hop
      exact absurd (congrArg Prod.snd hop) hc0
    rw [if_neg (by omega)] at hop
    have hC5 := HD.out.hCut wr d (sz : Nat) hp
    rw [hcut] at hC5
    have HOP : Aside (sync (cut (sz : Nat) d).1 = (d', 0)) := hop
    clear hop hcut hp
    generalize (cut (sz : Nat) d).1 = d5 at hC5 HOP
    go_wp2_with (go_at_call 30; refine hC5.mono ?_; rintro e w6 ⟨rfl, hp6, s6⟩; refine Hid.out ?_)
    refine hid ?_
    have hC6 := HD.out.hSync w6 d5 hp6
    rw [HOP.out] at hC6
    have HS6 : Aside (RsOwn w.heap.size w6 (.slice la j lc) rs ∧ Stay B w w6 ∧ Below B wr w6) := ⟨HS.out.1.stay s6, HS.out.2.2.1.trans s6, s6.below⟩
    clear hC5 hp6 s6 hcell
    go_wp2_with (go_at_call 31; refine hC6.mono ?_; rintro e w7 ⟨rfl, hp7, s7⟩; refine Hid.out ?_)
    refine hid ?_
    have hb8 : Below w7.heap.size w7 (w7.alloc (.cells #[.pointer (some ⟨k, 0, none⟩)] 79)) := (Below.refl _ _).alloc (nrQ _) _
    have H8 : Aside (bytes.Boxed (w7.alloc (.cells #[.pointer (some ⟨k, 0, none⟩)] 79)) w7.heap.size #[.pointer (some ⟨k, 0, none⟩)] 79 ∧ RsOwn w.heap.size (w7.alloc (.cells #[.pointer (some ⟨k, 0, none⟩)] 79)) (.slice la j lc) rs ∧ P (w7.alloc (.cells #[.pointer (some ⟨k, 0, none⟩)] 79)) d' ∧ Stay B w (w7.alloc (.cells #[.pointer (some ⟨k, 0, none⟩)] 79))) := ⟨bytes.Boxed.new _ _ _, (HS6.out.1.stay s7).keep hb8, HD.out.keep _ _ _ hp7 hb8, (HS6.out.2.1.trans s7).trans (Stay.of_below hb8 (HD.out.base _ _ hp7))⟩
    clear hC6 hp7 s7 hb8
    go_wp2
    go_ret3
    exact ⟨w7.heap.size, la, lc, rs, by rw [HS.out.2.2.2.2]; rfl, H8.out.1, by rw [HS.out.2.2.2.2]; exact H8.out.2.1, HS.out.2.1, H8.out.2.2.1, H8.out.2.2.2⟩
   ·have hlz2 : ¬ (sz : Int) < (n : Int) := by omega
    unfold keepD at hop
    rw [if_neg (by rw [HN.out]; exact hlt2)] at hop
    have hC6 := HD.out.hSync wr d hp
    rw [hop] at hC6
    clear hop hp
    go_wp2_with (go_at_call 31; refine hC6.mono ?_; rintro e w7 ⟨rfl, hp7, s7⟩; refine Hid.out ?_)
    refine hid ?_
    have hb8 : Below w7.heap.size w7 (w7.alloc (.cells #[.pointer (some ⟨k, 0, none⟩)] 79)) := (Below.refl _ _).alloc (nrQ _) _
    have H8 : Aside (bytes.Boxed (w7.alloc (.cells #[.pointer (some ⟨k, 0, none⟩)] 79)) w7.heap.size #[.pointer (some ⟨k, 0, none⟩)] 79 ∧ RsOwn w.heap.size (w7.alloc (.cells #[.pointer (some ⟨k, 0, none⟩)] 79)) (.slice la j lc) rs ∧ P (w7.alloc (.cells #[.pointer (some ⟨k, 0, none⟩)] 79)) d' ∧ Stay B w (w7.alloc (.cells #[.pointer (some ⟨k, 0, none⟩)] 79))) := ⟨bytes.Boxed.new _ _ _, (HS.out.1.stay s7).keep hb8, HD.out.keep _ _ _ hp7 hb8, (HS.out.2.2.1.trans s7).trans (Stay.of_below hb8 (HD.out.base _ _ hp7))⟩
    clear hC6 hp7 s7 hb8 hcell
    go_wp2
    go_ret3
    exact ⟨w7.heap.size, la, lc, rs, by rw [HS.out.2.2.2.2]; rfl, H8.out.1, by rw [HS.out.2.2.2.2]; exact H8.out.2.1, HS.out.2.1, H8.out.2.2.1, H8.out.2.2.2⟩
  have hltz : (j : Int) < (q : Int) := by omega
  obtain ⟨-, b, off, hab, r0, hby, hlow, hcap⟩ := row_at hrow (j := j) (by rw [HM.out.2.1]; exact hlt)
  subst hab
  have hx : (scanB d.b)[j]? = some (ln ls j).l := by
   rw [← HM.out.1, List.getElem?_map, ln_eq (by rw [HM.out.2.1]; exact hlt)]
   simp [HM.out.2.1, hlt]
  have hxl : (ln ls j).l.length ≤ 60000 := HL.out _ (List.mem_of_getElem? hx)
  obtain ⟨x, ex⟩ : ∃ x, (ln ls j).l = x := ⟨_, rfl⟩
  obtain ⟨xa, ea⟩ : ∃ x, (ln ls j).a = x := ⟨_, rfl⟩
  obtain ⟨xc, ec⟩ : ∃ x, (ln ls j).cap = x := ⟨_, rfl⟩
  rw [ex] at r0 hby hlow hx hxl hcap
  rw [ea] at r0 hby hlow
  rw [ec] at r0 hcap
  have HJ : Aside ((ln ls j).l = x ∧ (ln ls j).a = xa ∧ (ln ls j).cap = xc) := ⟨ex, ea, ec⟩
  clear ex ea ec
  have hsx : Sl wr xa x.length xc x := ⟨⟨hby, hlow, rfl, hcap⟩, by omega⟩
  obtain ⟨xl, hxl2⟩ : ∃ xl, x.length = xl := ⟨_, rfl⟩
  cases hd : dec x with
  | none =>
   have hC2 := refDec_no wr xa x.length xc x hsx hxl hd
   have hdn := hat.done (.inr ⟨x, hx, hd⟩)
   rw [hxl2] at r0 hC2
   have HS0 : Aside (RsOwn w.heap.size wr (.slice la j lc) rs ∧ Below w.heap.size w wr ∧ P wr d ∧ Stay B w wr) := ⟨hrs, hb, hp, hst⟩
   clear hat hrow hby hlow hx hxl hsx hd hcap hrs hb hp hst
   unfold code.recZ at hC2
   go_wp2_with (go_at_call 29; refine hC2.mono ?_; rintro e w3 ⟨rfl, g3⟩; refine Hid.out ?_)
   refine hid ?_
   go_upto_region 8 with fail
   have b4 : Below w3.heap.size w3 (w3.alloc (.cells #[.int .u8 0, .int .u32 0, .int .u32 0, .slice none 0 0, .slice none 0 0, .int .u32 0, .slice none 0 0, .int .i64 0, .int .i64 0, .slice none 0 0] 46)) := (Below.refl _ _).alloc (nrQ _) _
   have g4 := g3.trans (b4.mono g3.size)
   have HS1 : Aside (RsOwn w.heap.size (w3.alloc (.cells #[.int .u8 0, .int .u32 0, .int .u32 0, .slice none 0 0, .slice none 0 0, .int .u32 0, .slice none 0 0, .int .i64 0, .int .i64 0, .slice none 0 0] 46)) (.slice la j lc) rs ∧ Below w.heap.size w (w3.alloc (.cells #[.int .u8 0, .int .u32 0, .int .u32 0, .slice none 0 0, .slice none 0 0, .int .u32 0, .slice none 0 0, .int .i64 0, .int .i64 0, .slice none 0 0] 46)) ∧ P (w3.alloc (.cells #[.int .u8 0, .int .u32 0, .int .u32 0, .slice none 0 0, .slice none 0 0, .int .u32 0, .slice none 0 0, .int .i64 0, .int .i64 0, .slice none 0 0] 46)) d ∧ Stay B w (w3.alloc (.cells #[.int .u8 0, .int .u32 0, .int .u32 0, .slice none 0 0, .slice none 0 0, .int .u32 0, .slice none 0 0, .int .i64 0, .int .i64 0, .slice none 0 0] 46))) := ⟨HS0.out.1.keep g4, HS0.out.2.1.trans (g4.mono HS0.out.2.1.size), HD.out.keep _ _ _ HS0.out.2.2.1 g4, HS0.out.2.2.2.trans (Stay.of_below g4 (HD.out.base _ _ HS0.out.2.2.1))⟩
   generalize w3.alloc (.cells #[.int .u8 0, .int .u32 0, .int .u32 0, .slice none 0 0, .slice none 0 0, .int .u32 0, .slice none 0 0, .int .i64 0, .int .i64 0, .slice none 0 0] 46) = wr2 at HS1 ⊢
   obtain ⟨hrs, hb, hp, hst⟩ := HS1.out
   clear hC2 HS0 HS1 b4 g4 g3 r0
   obtain ⟨ba, bc, hcell, -⟩ := HD.out.cell _ _ hp
   rw [HN.out] at hcell
   have HS : Aside (RsOwn w.heap.size wr2 (.slice la j lc) rs ∧ rs.map pr = recs dec (scanB d.b) ∧ Stay B w wr2 ∧ Below w.heap.size w wr2 ∧ rs.length = j) := ⟨hrs, hdn.1, hst, hb, RsOwn.count hrs⟩
   have hsz3 : size dec d.b = sz := hdn.2
   have hop : keepD sz d = (d', 0) := by rw [← hsz3]; exact HB0.out.2.2.2
   clear hrs hdn hst hb hsz3
   by_cases hlt2 : sz < n
   ·have hlz2 : (sz : Int) < (n : Int) := by omega
    unfold keepD at hop
    rw [if_pos (by rw [HN.out]; exact hlt2)] at hop
    have hcut : (cut (sz : Nat) d).2 = 0 := by
     by_cases hc0 : (cut (sz : Nat) d).2 = 0
     ·exact hc0
     ·rw [if_pos hc0] at hop
      exact absurd (congrArg Prod.snd hop) hc0
    rw [if_neg (by omega)] at hop
    have hC5 := HD.out.hCut wr2 d (sz : Nat) hp
    rw [hcut] at hC5
    have HOP : Aside (sync (cut (sz : Nat) d).1 = (d', 0)) := hop
    clear hop hcut hp
    generalize (cut (sz : Nat) d).1 = d5 at hC5 HOP
    go_wp2_with (go_at_call 30; refine hC5.mono ?_; rintro e w6 ⟨rfl, hp6, s6⟩; refine Hid.out ?_)
    refine hid ?_
    have hC6 := HD.out.hSync w6 d5 hp6
    rw [HOP.out] at hC6
    have HS6 : Aside (RsOwn w.heap.size w6 (.slice la j lc) rs ∧ Stay B w w6 ∧ Below B wr2 w6) := ⟨HS.out.1.stay s6, HS.out.2.2.1.trans s6, s6.below⟩
    clear hC5 hp6 s6 hcell
    go_wp2_with (go_at_call 31; refine hC6.mono ?_; rintro e w7 ⟨rfl, hp7, s7⟩; refine Hid.out ?_)
    refine hid ?_
    have hb8 : Below w7.heap.size w7 (w7.alloc (.cells #[.pointer (some ⟨k, 0, none⟩)] 79)) := (Below.refl _ _).alloc (nrQ _) _
    have H8 : Aside (bytes.Boxed (w7.alloc (.cells #[.pointer (some ⟨k, 0, none⟩)] 79)) w7.heap.size #[.pointer (some ⟨k, 0, none⟩)] 79 ∧ RsOwn w.heap.size (w7.alloc (.cells #[.pointer (some ⟨k, 0, none⟩)] 79)) (.slice la j lc) rs ∧ P (w7.alloc (.cells #[.pointer (some ⟨k, 0, none⟩)] 79)) d' ∧ Stay B w (w7.alloc (.cells #[.pointer (some ⟨k, 0, none⟩)] 79))) := ⟨bytes.Boxed.new _ _ _, (HS6.out.1.stay s7).keep hb8, HD.out.keep _ _ _ hp7 hb8, (HS6.out.2.1.trans s7).trans (Stay.of_below hb8 (HD.out.base _ _ hp7))⟩
    clear hC6 hp7 s7 hb8
    go_wp2
    go_ret3
    exact ⟨w7.heap.size, la, lc, rs, by rw [HS.out.2.2.2.2]; rfl, H8.out.1, by rw [HS.out.2.2.2.2]; exact H8.out.2.1, HS.out.2.1, H8.out.2.2.1, H8.out.2.2.2⟩
   ·have hlz2 : ¬ (sz : Int) < (n : Int) := by omega
    unfold keepD at hop
    rw [if_neg (by rw [HN.out]; exact hlt2)] at hop
    have hC6 := HD.out.hSync wr2 d hp
    rw [hop] at hC6
    clear hop hp
    go_wp2_with (go_at_call 31; refine hC6.mono ?_; rintro e w7 ⟨rfl, hp7, s7⟩; refine Hid.out ?_)
    refine hid ?_
    have hb8 : Below w7.heap.size w7 (w7.alloc (.cells #[.pointer (some ⟨k, 0, none⟩)] 79)) := (Below.refl _ _).alloc (nrQ _) _
    have H8 : Aside (bytes.Boxed (w7.alloc (.cells #[.pointer (some ⟨k, 0, none⟩)] 79)) w7.heap.size #[.pointer (some ⟨k, 0, none⟩)] 79 ∧ RsOwn w.heap.size (w7.alloc (.cells #[.pointer (some ⟨k, 0, none⟩)] 79)) (.slice la j lc) rs ∧ P (w7.alloc (.cells #[.pointer (some ⟨k, 0, none⟩)] 79)) d' ∧ Stay B w (w7.alloc (.cells #[.pointer (some ⟨k, 0, none⟩)] 79))) := ⟨bytes.Boxed.new _ _ _, (HS.out.1.stay s7).keep hb8, HD.out.keep _ _ _ hp7 hb8, (HS.out.2.2.1.trans s7).trans (Stay.of_below hb8 (HD.out.base _ _ hp7))⟩
    clear hC6 hp7 s7 hb8 hcell
    go_wp2
    go_ret3
    exact ⟨w7.heap.size, la, lc, rs, by rw [HS.out.2.2.2.2]; rfl, H8.out.1, by rw [HS.out.2.2.2.2]; exact H8.out.2.1, HS.out.2.1, H8.out.2.2.1, H8.out.2.2.2⟩
  | some y =>
   have hC2 := refDec_yes wr xa x.length xc x hsx hxl y hd
   have HE : Aside (RsOwn w.heap.size wr (.slice la j lc) rs ∧ RecsAt d.b rs j sz ∧ RowOut w.heap.size wr (.slice (some ⟨b, off, none⟩) q hc) ls ∧ Below w.heap.size w wr ∧ (scanB d.b)[j]? = some x ∧ dec x = some y ∧ P wr d ∧ Stay B w wr) := ⟨hrs, hat, hrow, hb, hx, hd, hp, hst⟩
   have hxl3 : xl ≤ 60000 := by omega
   rw [hxl2] at r0 hC2
   have HXL : Aside (x.length = xl) := hxl2
   clear hrs hat hrow hb hby hlow hx hxl hsx hd hcap hxl2 hp hst
   go_wp2_with (go_at_call 29; refine hC2.mono ?_; rintro e w3 ⟨r, rfl, hpr, hO, g3⟩; refine Hid.out ?_)
   refine hid ?_
   unfold rcV rcC
   go_upto_region 8 with fail
   have b4 : Below w3.heap.size w3 (w3.alloc (.cells #[.int .u8 r.kind, .int .u32 r.id, .int .u32 r.at_, .slice r.na r.nodes.length r.nc, .slice r.fa r.facts.length r.fc, .int .u32 r.epoch, .slice r.sa r.spans.length r.sc, .int .i64 r.frm, .int .i64 r.til, .slice r.ea r.ents.length r.ec] 46)) := (Below.refl _ _).alloc (nrQ _) _
   have x4 := bytes.Boxed.new w3 #[.int .u8 r.kind, .int .u32 r.id, .int .u32 r.at_, .slice r.na r.nodes.length r.nc, .slice r.fa r.facts.length r.fc, .int .u32 r.epoch, .slice r.sa r.spans.length r.sc, .int .i64 r.frm, .int .i64 r.til, .slice r.ea r.ents.length r.ec] 46
   have b34 := g3.trans (b4.mono g3.size)
   have HS : Aside (RsOwn w.heap.size (w3.alloc (.cells #[.int .u8 r.kind, .int .u32 r.id, .int .u32 r.at_, .slice r.na r.nodes.length r.nc, .slice r.fa r.facts.length r.fc, .int .u32 r.epoch, .slice r.sa r.spans.length r.sc, .int .i64 r.frm, .int .i64 r.til, .slice r.ea r.ents.length r.ec] 46)) (.slice la j lc) rs ∧ OwnIn (w3.alloc (.cells #[.int .u8 r.kind, .int .u32 r.id, .int .u32 r.at_, .slice r.na r.nodes.length r.nc, .slice r.fa r.facts.length r.fc, .int .u32 r.epoch, .slice r.sa r.spans.length r.sc, .int .i64 r.frm, .int .i64 r.til, .slice r.ea r.ents.length r.ec] 46)) r ∧ RowOut w.heap.size (w3.alloc (.cells #[.int .u8 r.kind, .int .u32 r.id, .int .u32 r.at_, .slice r.na r.nodes.length r.nc, .slice r.fa r.facts.length r.fc, .int .u32 r.epoch, .slice r.sa r.spans.length r.sc, .int .i64 r.frm, .int .i64 r.til, .slice r.ea r.ents.length r.ec] 46)) (.slice (some ⟨b, off, none⟩) q hc) ls ∧ Below w.heap.size w (w3.alloc (.cells #[.int .u8 r.kind, .int .u32 r.id, .int .u32 r.at_, .slice r.na r.nodes.length r.nc, .slice r.fa r.facts.length r.fc, .int .u32 r.epoch, .slice r.sa r.spans.length r.sc, .int .i64 r.frm, .int .i64 r.til, .slice r.ea r.ents.length r.ec] 46)) ∧ dec x = some (pr r) ∧ P (w3.alloc (.cells #[.int .u8 r.kind, .int .u32 r.id, .int .u32 r.at_, .slice r.na r.nodes.length r.nc, .slice r.fa r.facts.length r.fc, .int .u32 r.epoch, .slice r.sa r.spans.length r.sc, .int .i64 r.frm, .int .i64 r.til, .slice r.ea r.ents.length r.ec] 46)) d ∧ Stay B w (w3.alloc (.cells #[.int .u8 r.kind, .int .u32 r.id, .int .u32 r.at_, .slice r.na r.nodes.length r.nc, .slice r.fa r.facts.length r.fc, .int .u32 r.epoch, .slice r.sa r.spans.length r.sc, .int .i64 r.frm, .int .i64 r.til, .slice r.ea r.ents.length r.ec] 46))) :=
    ⟨HE.out.1.keep b34, rc_keep hO b4, HE.out.2.2.1.keep b34, HE.out.2.2.2.1.trans (b34.mono HE.out.2.2.2.1.size), by rw [hpr]; exact HE.out.2.2.2.2.2.1, HD.out.keep _ _ _ HE.out.2.2.2.2.2.2.1 b34, HE.out.2.2.2.2.2.2.2.trans (Stay.of_below b34 (HD.out.base _ _ HE.out.2.2.2.2.2.2.1))⟩
   have HA : Aside (RecsAt d.b rs j sz ∧ (scanB d.b)[j]? = some x) := ⟨HE.out.2.1, HE.out.2.2.2.2.1⟩
   obtain ⟨X, hX⟩ : ∃ X, w3.heap.size = X := ⟨_, rfl⟩
   rw [hX] at x4 ⊢
   generalize w3.alloc (.cells #[.int .u8 r.kind, .int .u32 r.id, .int .u32 r.at_, .slice r.na r.nodes.length r.nc, .slice r.fa r.facts.length r.fc, .int .u32 r.epoch, .slice r.sa r.spans.length r.sc, .int .i64 r.frm, .int .i64 r.til, .slice r.ea r.ents.length r.ec] 46) = w4 at x4 HS ⊢
   have c0 := x4.cell (j := 0) rfl
   have c1 := x4.cell (j := 1) rfl
   have c2 := x4.cell (j := 2) rfl
   have c3 := x4.cell (j := 3) rfl
   have c4 := x4.cell (j := 4) rfl
   have c5 := x4.cell (j := 5) rfl
   have c6 := x4.cell (j := 6) rfl
   have c7 := x4.cell (j := 7) rfl
   have c8 := x4.cell (j := 8) rfl
   have c9 := x4.cell (j := 9) rfl
   have hown : w4.ownsRow w.heap.size 46 10 (.slice la j lc) j (rs.flatMap rcL) := by have := HS.out.1.own; rwa [HA.out.1.len] at this
   have hbase : w.heap.size ≤ w4.heap.size := HS.out.2.2.2.1.size
   clear HE hC2 hpr hO g3 b4 x4 b34 hX r0
   go_wp2_with (at_builtin; refine wpList_append_lies _ rfl _ _ 31 rfl w.heap.size 46 i0 _ 10 136 Tryz.underlying31 hi hz0 hz1 hz2 rfl (by decide) _ j _ rfl (hown.alloc _) ⟨w4.heap.size, 0, none⟩ 1 1 (rcL r) rfl rfl (cells_rec_new w4 r _) (rcL_cell r) (by omega) (by unfold maxLen; omega) (by omega) (by simp; omega) (w4.heap.size + 1) (by simp) ?_; intro g3 c3' w5 hown5 hgr5 hat5 hlt5; refine Hid.out ?_)
   refine hid ?_
   have hfar : ∀ o e, 46 ≠ e → Far (w4.alloc o) (Value.slice la j lc).ownBlock e := fun o e he => far_row (World.ownsRow.alloc hown o) he
   have ha3 : ∀ o, Below w4.heap.size w4 (w4.alloc o) := fun o => (Below.refl _ _).alloc (nrQ _) o
   have hrow5 := row_farR (HS.out.2.2.1.keep (ha3 _)) hgr5 (hfar _ _ (by decide)) (hfar _ _ (by decide))
   have hb5 : Below w.heap.size w w5 := (HS.out.2.2.2.1.alloc hbase _).grown hgr5 (by simp; omega) fun q hq => (World.ownsRow.lt hown _ hq).1
   have hp5 := HD.out.grow _ _ _ _ (HD.out.keep _ _ _ HS.out.2.2.2.2.2.1 (ha3 _)) hgr5 (hfar _ _ (by decide)) (hfar _ _ (by decide)) (hfar _ _ (by decide))
   obtain ⟨-, b', off', hab', s0, -, -, -⟩ := row_at hrow5 (j := j) (by rw [HM.out.2.1]; exact hlt)
   rw [HJ.out.1, HJ.out.2.1, HJ.out.2.2, HXL.out] at s0
   injection hab' with hab'
   injection hab' with hab1 hab2
   subst hab1 hab2
   have S6 : Aside (∃ rs, RsOwn w.heap.size w5 (.slice (some ⟨g3, 0, none⟩) (j + 1) c3') rs ∧ RecsAt d.b rs (j + 1) (sz + (xl + 7)) ∧ RowOut w.heap.size w5 (.slice (some ⟨b, off, none⟩) q hc) ls ∧ Below w.heap.size w w5 ∧ P w5 d ∧ Stay B w w5) :=
    ⟨rs ++ [r], HS.out.1.push HS.out.2.1 HA.out.1.len hown5 hgr5, by have := HA.out.1.step HA.out.2 HS.out.2.2.2.2.1; rwa [HXL.out] at this, hrow5, hb5, hp5, stay_row HS.out.2.2.2.2.2.2 HB0.out.2.1 HS.out.2.2.2.1.size hgr5 hown⟩
   have hsz2 : sz + (xl + 7) ≤ n := by have := (S6.out.choose_spec).2.1.room; rw [HN.out] at this; exact this
   clear hown hown5 hgr5 hat5 hlt5 hfar ha3 hrow5 hb5 hp5 c0 c1 c2 c3 c4 c5 c6 c7 c8 c9 HS HA hbase
   go_wp2
   go_roundg (q - (j + 1))
   case measure => omega
   case rel => exact ⟨j + 1, sz + (xl + 7), _, _, rfl, by go_num, by go_num, by omega, by omega, hsz2, S6⟩
end
end wal
namespace wal
open code (Rc PRec pr rcC rcV RecIn OwnIn recB dec dec_recB Far exA exA_in exA_snd exA_B U32 I64)
open bytes
open disk
open frame (scanB wrapB wrapB_len)
def exB : Rc := ⟨3, 6, 0, none, 0, [], none, 0, [], 0, none, 0, [], 0, 0, none, 0, []⟩
theorem exB_in (w : World) : RecIn w exB := ⟨by simp [exB], by simp [exB, U32], by simp [exB, U32], .inl rfl, by simp [exB], by simp [exB], .inl rfl, by simp [exB], by simp [exB, U32], .inl rfl, by simp [exB], by simp [exB, I64], by simp [exB, I64], .inl rfl, by simp [exB]⟩
theorem exB_B : recB (pr exB) = [3, 0, 0, 0, 6] := by kernel_rfl
theorem exA_enc : encN (pr exA) = 0 := by unfold encN; rw [if_pos exA_snd, exA_B]; rfl
theorem exB_enc : encN (pr exB) = 0 := by unfold encN; rw [if_pos (by kernel_rfl), exB_B]; rfl
theorem known_math : ∃ d2 d3, forceR (pr exA) (⟨[], 0, 900, -1⟩ : Dk) = (d2, 0) ∧ lazyR (pr exB) d2 = (d3, 0) ∧ (openD dec (crash 0 d3)).2 = 0 ∧ recs dec (scanB (crash 0 d3).b) = [pr exA] := by
 have hA : (wrapB (recB (pr exA))).length = 12 := by rw [wrapB_len, exA_B]; rfl
 have hB : (wrapB (recB (pr exB))).length = 12 := by rw [wrapB_len, exB_B]; rfl
 have hl : (logB recB [pr exA]).length = 12 := by rw [log_one, hA]
 have h1 := force_room (log_new 900) rfl (pr exA) (by rw [hA]; simp)
 have h2 := lazy_room (rs := [pr exA]) (d := ⟨logB recB ([] ++ [pr exA]), (logB recB ([] ++ [pr exA])).length, 900, -1⟩) rfl rfl (pr exB) (by rw [hB]; show (logB recB [pr exA]).length + 12 ≤ 900; omega)
 refine ⟨_, _, by rw [forceR_ok exA_enc]; exact h1, by rw [lazyR_ok exB_enc]; exact h2, ?_⟩
 have hc : (crash 0 ⟨logB recB ([pr exA] ++ [pr exB]), (logB recB ([] ++ [pr exA])).length, 900, -1⟩ : Dk) = ⟨logB recB [pr exA], 12, 900, -1⟩ := by
  have hk : kept 0 (⟨logB recB ([pr exA] ++ [pr exB]), (logB recB ([] ++ [pr exA])).length, 900, -1⟩ : Dk) = 12 := by
   unfold kept
   show (logB recB [pr exA]).length + _ = 12
   simp [hl]
  unfold crash
  rw [hk]
  have e : (logB recB ([pr exA] ++ [pr exB])).take 12 = logB recB [pr exA] := by
   rw [log_append, ← hl, List.take_append_of_le_length (nrQ _), List.take_of_length_le (nrQ _)]
  show (⟨(logB recB ([pr exA] ++ [pr exB])).take 12, 12, 900, -1⟩ : Dk) = _
  rw [e]
 have hg : Good dec recB [pr exA] := fun x hx => by
  simp at hx; subst hx
  exact ⟨dec_recB exA_snd (exA_in default).typed, (encN_ok exA_enc).2⟩
 rw [hc]
 refine ⟨?_, (read_log hg).1⟩
 rw [open_free rfl (by show 12 ≤ (logB recB [pr exA]).length; omega)]

theorem known_any (w : World) : Calls Tryz.prog 6 #[] w fun e w' => e = .returned (.bool true) ∧ Below w.heap.size w w' := by
 obtain ⟨d2, d3, m1, m2, m3, m4⟩ := known_math
 have HM : Aside (_ ∧ _ ∧ _ ∧ _) := ⟨m1, m2, m3, m4⟩
 clear m1 m2 m3 m4
 have hC1 := new_one (B := w.heap.size) (w := w) 900 (by omega) (nrQ _)
 go_enter Tryz.func6, Tryz.ntmps6
 go_wp2_with (go_at_call 7; refine hC1.mono ?_; rintro e w1 ⟨rfl, hp1, g1⟩; refine Hid.out ?_)
 refine hid ?_
 have hC2 := open_yes (dsk_one _ _) w1 (new 900) hp1 _ (open_new 900)
 obtain ⟨k, hk⟩ : ∃ k, w.heap.size = k := ⟨_, rfl⟩
 have HB : Aside (Below w.heap.size w w1) := g1
 have HK : Hid (w.heap.size = k) := hk
 rw [hk] at hC2 ⊢
 clear hC1 hp1 g1 hk
 go_wp2_with (go_at_call 9; refine hC2.mono ?_; rintro e w2 ⟨h, va, vc, rs, rfl, hx, hrs, hpr, hp2, s2⟩; refine Hid.out ?_)
 refine hid ?_
 have hC3 := force_any (dsk_one _ _) w2 _ h exA hp2 hx (exA_in w2)
 rw [HM.out.1] at hC3
 have HS2 : Aside (Stay k w1 w2 ∧ bytes.Boxed w2 h #[.pointer (some ⟨k, 0, none⟩)] 67) := ⟨s2, hx⟩
 clear hC2 hp2 s2 hx hrs hpr
 unfold rcV rcC exA at hC3
 go_wp2_with (go_at_call 14; refine hC3.mono ?_; rintro e w3 ⟨rfl, hp3, s3⟩; refine Hid.out ?_)
 refine hid ?_
 have hx3 := s3.boxes _ _ _ HS2.out.2 kt_log
 have hC4 := lazy_any (dsk_one _ _) w3 _ h exB hp3 hx3 (exB_in w3)
 rw [HM.out.2.1] at hC4
 have HS3 : Aside (Stay k w1 w3) := HS2.out.1.trans s3
 clear hC3 hp3 s3 hx3 HS2
 unfold rcV rcC exB at hC4
 go_wp2_with (go_at_call 11; refine hC4.mono ?_; rintro e w4 ⟨rfl, hp4, s4⟩; refine Hid.out ?_)
 refine hid ?_
 have hC5 := crash_one hp4 0
 have HS4 : Aside (Stay k w1 w4) := HS3.out.trans s4
 clear hC4 hp4 s4 HS3
 go_wp2_with (go_at_call 18; refine hC5.mono ?_; rintro e w5 ⟨rfl, hp5, s5⟩; refine Hid.out ?_)
 refine hid ?_
 have hC6 := open_yes (dsk_one _ _) w5 _ hp5 _ (Prod.ext rfl HM.out.2.2.1)
 rw [HM.out.2.2.2] at hC6
 have HS5 : Aside (Stay k w1 w5) := HS4.out.trans s5
 clear hC5 hp5 s5 HS4
 go_wp2_with (go_at_call 9; refine hC6.mono ?_; rintro e w6 ⟨h6, v6a, v6c, rs6, rfl, hx6, hrs6, hpr6, hp6, s6⟩; refine Hid.out ?_)
 refine hid ?_
 obtain ⟨r, hr6⟩ : ∃ r, rs6 = [r] := List.length_eq_one_iff.1 (by have := congrArg List.length hpr6; simpa using this)
 subst hr6
 have hid5 : r.id = 5 := by
  have : pr r = pr exA := by simpa using hpr6
  exact congrArg PRec.id this
 obtain ⟨v6a', v6c', hv6, -, -, hin⟩ := hrs6.rsIn
 injection hv6 with hv6 _ _
 subst hv6
 obtain ⟨b6, o6, hb6, hc6⟩ := hin.get (k := 0) (by simp)
 subst hb6
 have c1 := (hc6 0 (by simp)).1 1 _ rfl
 have e1 : (rsn [r] 0).id = 5 := hid5
 rw [e1] at c1
 simp only [Nat.zero_mul, Nat.add_zero, List.length_cons, List.length_nil, Nat.zero_add] at c1 ⊢
 have HE : Aside (Below w.heap.size w w6) := HB.out.trans (by have := (HS5.out.trans s6).below; rwa [← HK.out] at this)
 clear hC6 hp6 s6 HS5 hx6 hrs6 hpr6 hin hc6 e1 hid5
 go_wp2
 go_ret
 exact ⟨rfl, HE.out⟩
end wal
end Go.Proofs.YtlcjllgfpfldlaaGreat
