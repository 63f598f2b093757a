/-
 The contracts of the pair's take and whole.
 The contracts of each (by the pair's take) and of Sum; of the chapter's own Sum.
 The contracts of Sum and of the chapter's own Sum.
 Sum of one, two and four lists that stand in a row of the call's own; the chapter's example holds.
-/
import Derived.Test.YtlcjllgfpfldlaaGreatWalZ03K
import Derived.Test.YtlcjllgfpfldlaaGreatWalZ05K
import Derived.Lib.SlBytesConst
set_option maxHeartbeats 4000000
open Go.ChangeShapes Go.WideShapes Go.ChangeAt Go.RowKit Go.Deep
set_option linter.unusedVariables false
set_option maxRecDepth 100000
namespace Go.Proofs.YtlcjllgfpfldlaaGreat
namespace sum
open bytes
def Has2 (w : World) (b : Nat) (x y : Nat) : Prop :=
 w.cell? ⟨b, 0, none⟩ = some (.int .u32 x) ∧ w.cell? ⟨b, 1, none⟩ = some (.int .u32 y) ∧ w.frozen? ⟨b, 0, none⟩ = false ∧ w.frozen? ⟨b, 1, none⟩ = false

theorem take_any (b : Nat) (x y c : Nat) (w : World) (hb : b < w.heap.size) (h : Has2 w b x y) (hx : x < 65521) (hy : y < 65521) (hc : c < 256) :
  Calls Tryz.prog 129 #[.pointer (some ⟨b, 0, none⟩), .int .u8 c] w fun e w' => e = .returned (.tuple #[]) ∧ Below b w w' ∧ Has2 w' b ((x + c) % 65521) ((y + (x + c) % 65521) % 65521) := by
 obtain ⟨c0, c1, f0, f1⟩ := h
 obtain ⟨u, hu⟩ : ∃ u, (x + c) % 65521 = u := ⟨_, rfl⟩
 have hu2 : u < 65521 := by omega
 rw [hu]
 obtain ⟨v, hv⟩ : ∃ v, (y + u) % 65521 = v := ⟨_, rfl⟩
 have hv2 : v < 65521 := by omega
 rw [hv]
 have e1 : ((x : Int) + (c : Int)) % 65521 = (u : Int) := by omega
 have e2 : ((y : Int) + (u : Int)) % 65521 = (v : Int) := by omega
 have e3 : IntKind.u32.wrap ((y : Int) + (u : Int)) = (y : Int) + (u : Int) := by rw [IntKind.wrap_u32]; omega
 go_enter Tryz.func129, Tryz.ntmps129
 go_wp2
 go_region
 go_wp2
 go_end0
 refine ⟨rfl, ?_, ?_⟩
 ·(repeat (first | with_reducible exact Below.refl _ _ | (with_reducible refine Below.drew ?_) | (with_reducible refine Below.alloc ?_ (by first | omega | (simp; done) | (simp; omega)) _) | (with_reducible refine Below.setCell ?_ (by first | exact Nat.le_refl _ | omega | (simp; done) | (simp; omega)) _)))
 ·unfold Has2
  simp [go_sem, *]

theorem or_u32 (x y : Nat) (hx : x < 65521) (hy : y < 65521) : bits .or .u32 ((y : Int) * 65536) (x : Int) = ((y * 65536 + x : Nat) : Int) := by
 have h0 := Nat.two_pow_add_eq_or_of_lt (i := 16) (b := x) (by omega) y
 rw [show 2 ^ 16 * y = y * 65536 by omega] at h0
 have h1 : (BitVec.ofInt 32 ((y * 65536 : Nat) : Int)).toNat = y * 65536 := by
  rw [BitVec.ofInt_natCast, BitVec.toNat_ofNat]; exact Nat.mod_eq_of_lt (by omega)
 have h2 : (BitVec.ofInt 32 (x : Int)).toNat = x := by
  rw [BitVec.ofInt_natCast, BitVec.toNat_ofNat]; exact Nat.mod_eq_of_lt (by omega)
 show IntKind.u32.wrap ((BitVec.ofInt 32 ((y * 65536 : Nat) : Int) ||| BitVec.ofInt 32 (x : Int)).toNat : Int) = _
 rw [BitVec.toNat_or, h1, h2, IntKind.wrap_u32, ← h0]
 omega
theorem whole_any (x y : Nat) (w : World) (hx : x < 65521) (hy : y < 65521) :
  Calls Tryz.prog 130 #[.agg #[.int .u32 x, .int .u32 y]] w fun e w' => e = .returned (.int .u32 (y * 65536 + x : Nat)) ∧ Below w.heap.size w w' := by
 have ho := or_u32 x y hx hy
 go_enter Tryz.func130, Tryz.ntmps130
 go_wp2
 go_ret
 exact ⟨ret_u32 (by omega), (Below.refl _ _).alloc (Nat.le_refl _) _⟩
def flat (ls : List Lr) : List UInt8 := (ls.map (·.l)).flatten
theorem flat_take {ls : List Lr} {k : Nat} (h : k < ls.length) : flat (ls.take (k + 1)) = flat (ls.take k) ++ (ln ls k).l := by
 unfold flat
 rw [List.take_succ_eq_append_getElem h, List.map_append, List.flatten_append, ln_eq h]
 simp
theorem take_byte {l : List UInt8} {j : Nat} (h : j < l.length) : l.take (j + 1) = l.take j ++ [l.getD j 0] := by
 rw [List.take_succ_eq_append_getElem h]
 simp [h]
structure ES (w : World) (R : Nat) (W : World) (t : AB) : Prop where
 bel : Below w.heap.size w W
 box : Has2 W R t.1 t.2
 lt : R < W.heap.size
 low : Low t
theorem ES.step {w W W1 : World} {R : Nat} {t : AB} (h : ES w R W t) (hR : w.heap.size ≤ R) (c : UInt8) (hb : Below R W W1) (hh : Has2 W1 R ((t.1 + c.toNat) % 65521) ((t.2 + (t.1 + c.toNat) % 65521) % 65521)) : ES w R W1 (one t c) :=
 ⟨h.bel.trans (hb.mono hR), hh, Nat.lt_of_lt_of_le h.lt hb.size, one_low t c⟩

theorem each_any (R n c : Nat) (a : Option Addr) (ls : List Lr) (w W : World) (s : AB) (hL : ListsIn w a ls) (hn : ls.length = n) (hm : n ≤ 9223372036854775807) (hl : ∀ x ∈ ls, x.l.length ≤ 9223372036854775807) (hR : w.heap.size ≤ R) (hS : ES w R W s) :
  Calls Tryz.prog 128 #[.slice a n c, .func (.func 129) #[.pointer (some ⟨R, 0, none⟩)] #[]] W fun e w' => e = .returned (.tuple #[]) ∧ ES w R w' (run s (flat ls)) := by
 have HH : Aside (ListsIn w a ls ∧ ls.length = n ∧ (∀ x ∈ ls, x.l.length ≤ 9223372036854775807) ∧ w.heap.size ≤ R) := ⟨hL, hn, hl, hR⟩
 have S0 : Aside (ES w R W s) := hS
 clear hL hn hl hR hS
 go_enter Tryz.func128, Tryz.ntmps128
 go_wp2_with fail
 go_loopg [5, 7, 10] n (fun g1 vb vc vi wr => ∃ (k : Nat), vi = .int .i64 k ∧ k ≤ n ∧ n - k ≤ g1 ∧ Aside (ES w R wr (run s (flat (ls.take k)))))
 case atStart => exact ⟨0, rfl, Nat.zero_le _, Nat.le_refl _, S0.out⟩
 case round =>
  clear S0
  obtain ⟨k, rfl, hk, hg1, SK⟩ := hrel
  by_cases hlt : k < n
  ·have hltz : (k : Int) < (n : Int) := by omega
   have hkl : k < ls.length := by rw [HH.out.2.1]; exact hlt
   obtain ⟨b, off, ha, hc⟩ := (HH.out.1.keep SK.out.bel).get hkl
   subst ha
   obtain ⟨r0, r1⟩ := hc k hkl
   clear hc
   have hml : (ln ls k).l.length ≤ 9223372036854775807 := HH.out.2.2.1 _ (by rw [ln_eq hkl]; exact List.getElem_mem _)
   have HF : Aside (run s (flat (ls.take (k + 1))) = run (run s (flat (ls.take k))) (ln ls k).l) := by show _ = _; rw [flat_take hkl, run_append]
   obtain ⟨t, ht⟩ : ∃ t, run s (flat (ls.take k)) = t := ⟨_, rfl⟩
   rw [ht] at SK HF
   obtain ⟨m, hmm⟩ : ∃ m, (ln ls k).l.length = m := ⟨_, rfl⟩
   have R1 : Aside (ByIn w (ln ls k).a (ln ls k).l ∧ (ln ls k).l.length = m) := by
    refine ⟨?_, hmm⟩
    have := HH.out.1.get hkl
    obtain ⟨b2, off2, -, hc2⟩ := this
    exact (hc2 k hkl).2
   rw [hmm] at r0 hml
   clear r1 hmm ht
   generalize (ln ls k).a = la at r0 R1
   generalize (ln ls k).cap = lc at r0
   generalize (ln ls k).l = l at R1 HF
   generalize hW : wr = W1 at r0 SK
   have HB : Aside (Below W1.heap.size W1 W1) := Below.refl _ _
   go_wp2_with fail
   go_loopg [7, 16] m (fun g2 vc vj wr => ∃ (j : Nat), vj = .int .i64 j ∧ j ≤ m ∧ m - j ≤ g2 ∧ Aside (ES w R wr (run t (l.take j))))
   case atStart => exact ⟨0, rfl, Nat.zero_le _, Nat.le_refl _, SK.out⟩
   case round =>
    clear SK
    obtain ⟨j, rfl, hj, hg2, SJ⟩ := hrel
    by_cases hlt2 : j < m
    ·have hltz2 : (j : Int) < (m : Int) := by omega
     have hjl : j < l.length := by rw [R1.out.2]; exact hlt2
     obtain ⟨b3, off3, ha3, hc3⟩ := (R1.out.1.keep SJ.out.bel).get (by omega)
     subst ha3
     have r3 := hc3 j hjl
     clear hc3
     have HT : Aside (run t (l.take (j + 1)) = one (run t (l.take j)) (l.getD j 0)) := by show _ = _; rw [take_byte hjl, run_append]; rfl
     unfold bth at r3
     obtain ⟨x, hx⟩ : ∃ x : UInt8, l.getD j 0 = x := ⟨_, rfl⟩
     rw [hx] at r3 HT
     clear hx
     obtain ⟨u, hu⟩ : ∃ u, run t (l.take j) = u := ⟨_, rfl⟩
     rw [hu] at SJ HT
     clear hu
     have hC := take_any R u.1 u.2 x.toNat wr SJ.out.lt SJ.out.box SJ.out.low.1 SJ.out.low.2 x.toNat_lt
     have HS : Aside (∀ W1, Below R wr W1 → Has2 W1 R ((u.1 + x.toNat) % 65521) ((u.2 + (u.1 + x.toNat) % 65521) % 65521) → ES w R W1 (run t (l.take (j + 1)))) := fun W1 hb hh => by rw [HT.out]; exact SJ.out.step HH.out.2.2.2 x hb hh
     clear HT SJ
     generalize x.toNat = z at r3 hC HS
     go_wp2_with (go_at_call 129; refine hC.mono ?_; rintro e w3 ⟨rfl, hb3, hh3⟩)
     have S3 : Aside (ES w R w3 (run t (l.take (j + 1)))) := HS.out w3 hb3 hh3
     clear hC HS hb3 hh3
     go_roundg (m - (j + 1))
     case measure => omega
     case rel => exact ⟨j + 1, by go_num, by omega, by omega, S3.out⟩
    ·have hltz2 : ¬ (j : Int) < (m : Int) := by omega
     have S3 : Aside (ES w R wr (run s (flat (ls.take (k + 1))))) := by
      have h := SJ.out
      rw [List.take_of_length_le (by rw [R1.out.2]; omega)] at h
      rw [HF.out]; exact h
     clear SJ
     go_wp2
     go_roundg (n - (k + 1))
     case measure => omega
     case rel => exact ⟨k + 1, by go_num, by omega, by omega, S3.out⟩
  ·have hltz : ¬ (k : Int) < (n : Int) := by omega
   have S3 : Aside (ES w R wr (run s (flat ls))) := by
    have h := SK.out
    rwa [List.take_of_length_le (by rw [HH.out.2.1]; omega)] at h
   clear SK
   go_wp2
   go_end0
   exact ⟨rfl, S3.out⟩
theorem sum_any (n c : Nat) (a : Option Addr) (ls : List Lr) (w : World) (hL : ListsIn w a ls) (hn : ls.length = n) (hm : n ≤ 9223372036854775807) (hl : ∀ x ∈ ls, x.l.length ≤ 9223372036854775807) :
  Calls Tryz.prog 115 #[.slice a n c] w fun e w' => e = .returned (.int .u32 (sumB (flat ls) : Nat)) ∧ Below w.heap.size w w' := by
 have hb := (Below.refl w.heap.size w).alloc (Nat.le_refl _) (.cells #[.int .u32 1, .int .u32 0] 180)
 have hS : ES w w.heap.size (w.alloc (.cells #[.int .u32 1, .int .u32 0] 180)) (1, 0) :=
  ⟨hb, by unfold Has2; simp [go_sem], by simp, start_low⟩
 have hC := each_any w.heap.size n c a ls w _ (1, 0) hL hn hm hl (Nat.le_refl _) hS
 have HT : Aside (sumB (flat ls) = (run (1, 0) (flat ls)).2 * 65536 + (run (1, 0) (flat ls)).1) := rfl
 obtain ⟨t, ht⟩ : ∃ t, run (1, 0) (flat ls) = t := ⟨_, rfl⟩
 rw [ht] at hC HT
 clear hS hb hL hn hm hl ht
 go_enter Tryz.func115, Tryz.ntmps115
 go_wp2_with (go_at_call 128; refine hC.mono ?_; rintro e w1 ⟨rfl, hE⟩; refine Hid.out ?_)
 refine hid ?_
 obtain ⟨c0, c1, f0, f1⟩ := hE.box
 have hw := whole_any t.1 t.2 w1 hE.low.1 hE.low.2
 have HE : Aside (Below w.heap.size w w1) := hE.bel
 have hlt := hE.lt
 clear hC hE
 go_wp2_with (go_at_call 130; refine hw.mono ?_; rintro e w2 ⟨rfl, hb2⟩)
 go_ret
 exact ⟨ret_u32 (by rw [HT.out]; omega), HE.out.trans (hb2.mono HE.out.size)⟩

theorem refSum_any (n c : Nat) (a : Option Addr) (ls : List Lr) (w : World) (hL : ListsIn w a ls) (hn : ls.length = n) (hm : n ≤ 9223372036854775807) (hl : ∀ x ∈ ls, x.l.length ≤ 9223372036854775807) :
  Calls Tryz.prog 61 #[.slice a n c] w fun e w' => e = .returned (.int .u32 (sumB (flat ls) : Nat)) ∧ Below w.heap.size w w' := by
 have HH : Aside (ListsIn w a ls ∧ ls.length = n ∧ (∀ x ∈ ls, x.l.length ≤ 9223372036854775807)) := ⟨hL, hn, hl⟩
 clear hL hn hl
 go_enter Tryz.func61, Tryz.ntmps61
 go_wp2_with fail
 go_loopg [3, 4, 5, 6] n (fun g1 va vb vi vk wr => ∃ (k x y : Nat), vi = .int .i64 k ∧ va = .int .u32 x ∧ vb = .int .u32 y ∧ k ≤ n ∧ n - k ≤ g1 ∧ Aside (wr = w ∧ run (1, 0) (flat (ls.take k)) = (x, y)))
 case atStart => exact ⟨0, 1, 0, rfl, rfl, rfl, Nat.zero_le _, Nat.le_refl _, rfl, rfl⟩
 case round =>
  obtain ⟨k, x, y, rfl, rfl, rfl, hk, hg1, SK⟩ := hrel
  by_cases hlt : k < n
  ·have hltz : (k : Int) < (n : Int) := by omega
   have hkl : k < ls.length := by rw [HH.out.2.1]; exact hlt
   obtain ⟨b, off, ha, hc⟩ := HH.out.1.get hkl
   subst ha
   have R0 : Aside (∃ la lc l, w.cell? ⟨b, off + k, none⟩ = some (.slice la l.length lc) ∧ ByIn w la l ∧ l.length ≤ 9223372036854775807 ∧ run (1, 0) (flat (ls.take (k + 1))) = run (x, y) l ∧ Low (x, y)) := by
    refine ⟨_, _, (ln ls k).l, (hc k hkl).1, (hc k hkl).2, HH.out.2.2 _ (by rw [ln_eq hkl]; exact List.getElem_mem _), ?_, ?_⟩
    ·rw [flat_take hkl, run_append, SK.out.2]
    ·rw [← SK.out.2]; exact run_low _ start_low
   clear hc
   have HW : Aside (wr = w) := SK.out.1
   clear SK
   obtain ⟨la, lc, l, R⟩ := R0.out
   clear R0
   obtain ⟨m, hmm⟩ : ∃ m, l.length = m := ⟨_, rfl⟩
   have hml : m ≤ 9223372036854775807 := by rw [← hmm]; exact R.2.2.1
   have R1 : Aside (ByIn w la l ∧ l.length = m ∧ w.cell? ⟨b, off + k, none⟩ = some (.slice la m lc)) := ⟨R.2.1, hmm, by rw [← hmm]; exact R.1⟩
   have HF : Aside (run (1, 0) (flat (ls.take (k + 1))) = run (x, y) l ∧ Low (x, y)) := R.2.2.2
   clear R hmm
   generalize hW1 : wr = W1 at HW
   go_wp2_with fail
   go_loopg [3, 4, 6] m (fun g2 va vb vj wr => ∃ (j x2 y2 : Nat), vj = .int .i64 j ∧ va = .int .u32 x2 ∧ vb = .int .u32 y2 ∧ j ≤ m ∧ m - j ≤ g2 ∧ Aside (wr = w ∧ run (x, y) (l.take j) = (x2, y2)))
   case atStart => exact ⟨0, x, y, rfl, rfl, rfl, Nat.zero_le _, Nat.le_refl _, HW.out, rfl⟩
   case round =>
    clear HW
    obtain ⟨j, x2, y2, rfl, rfl, rfl, hj, hg2, SJ⟩ := hrel
    have hww := SJ.out.1
    subst hww
    have r2 := R1.out.2.2
    by_cases hlt2 : j < m
    ·have hltz2 : (j : Int) < (m : Int) := by omega
     have hjl : j < l.length := by rw [R1.out.2.1]; exact hlt2
     obtain ⟨b3, off3, ha3, hc3⟩ := R1.out.1.get (by omega)
     subst ha3
     have r3 := hc3 j hjl
     clear hc3
     have HT : Aside (run (x, y) (l.take (j + 1)) = one (x2, y2) (l.getD j 0) ∧ Low (x2, y2)) := by
      refine ⟨?_, ?_⟩
      ·rw [take_byte hjl, run_append, SJ.out.2]; rfl
      ·rw [← SJ.out.2]; exact run_low _ HF.out.2
     unfold bth at r3
     obtain ⟨z, hz⟩ : ∃ z : UInt8, l.getD j 0 = z := ⟨_, rfl⟩
     rw [hz] at r3 HT
     clear hz SJ
     have h1 : x2 < 65521 := HT.out.2.1
     have h2 : y2 < 65521 := HT.out.2.2
     obtain ⟨q, hq⟩ : ∃ q, z.toNat = q := ⟨_, rfl⟩
     have hq2 : q < 256 := by rw [← hq]; exact z.toNat_lt
     have HT2 : Aside (run (x, y) (l.take (j + 1)) = ((x2 + q) % 65521, (y2 + (x2 + q) % 65521) % 65521)) := by show _ = _; rw [HT.out.1, ← hq]; rfl
     rw [hq] at r3
     clear HT hq
     obtain ⟨u, hu⟩ : ∃ u, (x2 + q) % 65521 = u := ⟨_, rfl⟩
     have hu2 : u < 65521 := by omega
     rw [hu] at HT2
     obtain ⟨v, hv⟩ : ∃ v, (y2 + u) % 65521 = v := ⟨_, rfl⟩
     have hv2 : v < 65521 := by omega
     rw [hv] at HT2
     have e1 : ((x2 : Int) + (q : Int)) % 65521 = (u : Int) := by omega
     have e2 : ((y2 : Int) + (u : Int)) % 65521 = (v : Int) := by omega
     clear hu hv
     go_wp2
     go_roundg (m - (j + 1))
     case measure => omega
     case rel => exact ⟨j + 1, u, v, by go_num, by first | rfl | rw [e1], by first | rfl | rw [e2], by omega, by omega, rfl, HT2.out⟩
    ·have hltz2 : ¬ (j : Int) < (m : Int) := by omega
     have S3 : Aside (run (1, 0) (flat (ls.take (k + 1))) = (x2, y2)) := by
      have h := SJ.out.2
      rw [List.take_of_length_le (by rw [R1.out.2.1]; omega)] at h
      show _ = _
      rw [HF.out.1]; exact h
     clear SJ
     go_wp2
     go_roundg (n - (k + 1))
     case measure => omega
     case rel => exact ⟨k + 1, x2, y2, by go_num, rfl, rfl, by omega, by omega, rfl, S3.out⟩
  ·have hltz : ¬ (k : Int) < (n : Int) := by omega
   have S3 : Aside (run (1, 0) (flat ls) = (x, y)) := by
    have h := SK.out.2
    rwa [List.take_of_length_le (by rw [HH.out.2.1]; omega)] at h
   have hlow : Low (x, y) := by rw [← S3.out]; exact run_low _ start_low
   have h1 : x < 65521 := hlow.1
   have h2 : y < 65521 := hlow.2
   have hww := SK.out.1
   subst hww
   clear SK hlow
   go_wp2
   go_ret
   exact ⟨ret_u32 (by show _ = ((tell (run (1, 0) (flat ls)) : Nat) : Int); rw [S3.out]; unfold tell; simp only; omega), Below.refl _ _⟩
set_option linter.unusedSimpArgs false
theorem lists1 {w : World} {a : Option Addr} {n c : Nat} {l : List UInt8} (h : Sl w a n c l) : ListsIn (w.alloc (.cells #[.slice a n c] 54)) (some ⟨w.heap.size, 0, none⟩) [⟨a, c, l⟩] := by
 have hb : Below w.heap.size w (w.alloc (.cells #[.slice a n c] 54)) := (Below.refl _ _).alloc (Nat.le_refl _) _
 have hx := bytes.Boxed.new w #[.slice a n c] 54
 have h2 := h.keep hb
 have e := h.at_.len
 refine .inr ⟨w.heap.size, 0, rfl, fun i hi => ?_⟩
 match i, hi with
 | 0, _ => exact ⟨by rw [Nat.zero_add]; show _ = some (Value.slice a l.length c); rw [e]; exact hx.cell rfl, h2.at_.mem⟩
theorem lists2 {w : World} {a b : Option Addr} {n c m d : Nat} {l k : List UInt8} (h : Sl w a n c l) (h' : Sl w b m d k) : ListsIn (w.alloc (.cells #[.slice a n c, .slice b m d] 54)) (some ⟨w.heap.size, 0, none⟩) [⟨a, c, l⟩, ⟨b, d, k⟩] := by
 have hb : Below w.heap.size w (w.alloc (.cells #[.slice a n c, .slice b m d] 54)) := (Below.refl _ _).alloc (Nat.le_refl _) _
 have hx := bytes.Boxed.new w #[.slice a n c, .slice b m d] 54
 have e := h.at_.len
 have e' := h'.at_.len
 refine .inr ⟨w.heap.size, 0, rfl, fun i hi => ?_⟩
 match i, hi with
 | 0, _ => exact ⟨by rw [Nat.zero_add]; show _ = some (Value.slice a l.length c); rw [e]; exact hx.cell rfl, (h.keep hb).at_.mem⟩
 | 1, _ => exact ⟨by rw [Nat.zero_add]; show _ = some (Value.slice b k.length d); rw [e']; exact hx.cell rfl, (h'.keep hb).at_.mem⟩

theorem ref1 {w : World} {a : Option Addr} {n c : Nat} {l : List UInt8} (h : Sl w a n c l) :
  Calls Tryz.prog 61 #[.slice (some ⟨w.heap.size, 0, none⟩) 1 1] (w.alloc (.cells #[.slice a n c] 54)) fun e w' => e = .returned (.int .u32 (sumB l : Nat)) ∧ Below w.heap.size w w' :=
 (refSum_any 1 1 _ _ _ (lists1 h) rfl (by omega) (fun x hx => by simp at hx; subst hx; rw [h.at_.len]; exact h.max)).mono fun e w' ⟨h1, h2⟩ => by
  refine ⟨by rw [h1]; simp [flat], ((Below.refl _ _).alloc (Nat.le_refl _) (.cells #[.slice a n c] 54)).trans (h2.mono (by simp))⟩

theorem sum2 {w : World} {a b : Option Addr} {n c m d : Nat} {l k : List UInt8} (h : Sl w a n c l) (h' : Sl w b m d k) :
  Calls Tryz.prog 115 #[.slice (some ⟨w.heap.size, 0, none⟩) 2 2] (w.alloc (.cells #[.slice a n c, .slice b m d] 54)) fun e w' => e = .returned (.int .u32 (sumB (l ++ k) : Nat)) ∧ Below w.heap.size w w' :=
 (sum_any 2 2 _ _ _ (lists2 h h') rfl (by omega) (fun x hx => by
   simp at hx
   rcases hx with hx | hx
   ·subst hx; rw [h.at_.len]; exact h.max
   ·subst hx; rw [h'.at_.len]; exact h'.max)).mono fun e w' ⟨h1, h2⟩ => by
  refine ⟨by rw [h1]; simp [flat], ((Below.refl _ _).alloc (Nat.le_refl _) (.cells #[.slice a n c, .slice b m d] 54)).trans (h2.mono (by simp))⟩
end sum
end Go.Proofs.YtlcjllgfpfldlaaGreat
