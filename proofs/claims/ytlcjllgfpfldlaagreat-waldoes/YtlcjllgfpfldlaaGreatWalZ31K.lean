/-
 The contract of the statements' own Facts: facts that may be, of some.
 What the statements' own Make hands out: plain, and its lists.
-/
import Derived.Test.YtlcjllgfpfldlaaGreatWalZ29K
import Derived.Deep.RegionLaw
set_option maxHeartbeats 16000000
open Go.ChangeShapes Go.WideShapes Go.ChangeAt Go.RowKit Go.Deep
set_option linter.unusedVariables false
set_option maxRecDepth 100000
set_option linter.unusedSimpArgs false
namespace Go.Proofs.YtlcjllgfpfldlaaGreat
namespace code
open dims (nth Ints cell_lt vals own_below own_mono)
def mkP (x : Int) : Int := max x 0 % 10000
theorem mkP_eq (x : Int) : (if x < 0 then 0 else x).tmod 10000 = mkP x := by
 unfold mkP
 split
 ·rw [Int.zero_tmod, show max x 0 = 0 by omega]; rfl
 ·rw [show max x 0 = x by omega, Int.tmod_eq_emod_of_nonneg (by omega)]
theorem mkP_ok (x : Int) : 0 ≤ mkP x ∧ mkP x ≤ 9999 := by unfold mkP; omega
def mkF (f : Ft) : PFact := ((f.k.take 4).map mkP, f.v)
structure FB (W1 : World) (v : Int) (ks : List Int) (a : Option Addr) (j c : Nat) (W : World) : Prop where
 box : Boxed W W1.heap.size #[.slice a j c, .int .i64 v] 124
 own : W.ownsRow (W1.heap.size + 1) 3 1 (.slice a j c) j (vals ks)
 len : ks.length = j
 bel : Below W1.heap.size W1 W
theorem FB.start (W : World) (v : Int) : FB W v [] none 0 0 (W.alloc (.cells #[.slice none 0 0, .int .i64 v] 124)) :=
 ⟨Boxed.new _ _ _, World.ownsRow_nil _ _ _ _, rfl, (Below.refl _ _).alloc (nrQ _) _⟩

theorem FB.push {W1 W w3 : World} {v : Int} {ks : List Int} {a : Option Addr} {j c g c3 : Nat} {x y : Int} {o : Obj} (h : FB W1 v ks a j c W) (hg : (W.drew.alloc o).grownBy w3 (Value.slice a j c).ownBlock)
  (hown : w3.ownsRow (W1.heap.size + 1) 3 1 (.slice (some ⟨g, 0, none⟩) (j + 1) c3) (j + 1) (vals ks ++ [.int .i64 y])) (hy : y = x) :
  FB W1 v (ks ++ [x]) (some ⟨g, 0, none⟩) (j + 1) c3 (w3.setCell ⟨W1.heap.size, 0, none⟩ (.slice (some ⟨g, 0, none⟩) (j + 1) c3)) := by
 subst hy
 have hne : some W1.heap.size ≠ (Value.slice a j c).ownBlock := fun e => by have := (World.ownsRow.lt h.own _ e.symm).1; omega
 have hb0 : Below W.heap.size W (W.drew.alloc o) := ((Below.refl _ _).drew).alloc (nrQ _) o
 have hx := (h.box.below hb0).grown hg hne
 refine ⟨hx.set 0 _, ?_, by simp [h.len], ?_⟩
 ·have e : vals (ks ++ [y]) = vals ks ++ [Value.int .i64 y] := by simp [vals]
  rw [e]
  refine hown.kept (grown_at _ _ _ _) (Or.inr ?_)
  intro e1
  have := (World.ownsRow.lt hown _ e1).1
  omega
 ·have h1 : Below W1.heap.size W1 (W.drew.alloc o) := h.bel.trans (hb0.mono h.bel.size)
  exact (h1.grown hg h1.size fun q hq => by have := (World.ownsRow.lt h.own _ hq).1; omega).setCell (nrQ _) _
theorem FB.fact {W1 W : World} {v : Int} {ks : List Int} {a : Option Addr} {j c B : Nat} (h : FB W1 v ks a j c W) (hB : B ≤ W1.heap.size) (hk : ∀ x ∈ ks, I64 x) (hv : I64 v) : FtOwn B W ⟨a, c, ks, v⟩ := by
 obtain rfl := h.len
 exact ⟨own_mono h.own (by omega), hk, hv⟩
theorem FsOwn.push {B : Nat} {W w3 : World} {v v3 : Value} {os : List Ft} {f : Ft} {o : Obj} {k : Nat} (hk : os.length = k) (h : FsOwn B W v os) (hf : FtOwn B W f) (hg : (W.alloc o).grownBy w3 v.ownBlock)
  (hown : w3.ownsRow B 124 2 v3 (k + 1) (os.flatMap factC ++ [.slice f.a f.k.length f.cap, .int .i64 f.v])) : FsOwn B w3 v3 (os ++ [f]) := by
 subst hk
 have hfr : Far (W.alloc o) v.ownBlock 3 := far_row (World.ownsRow.alloc h.own o) (by decide)
 refine ⟨?_, fun x hx => ?_⟩
 ·have e1 : (os ++ [f]).flatMap factC = os.flatMap factC ++ [Value.slice f.a f.k.length f.cap, Value.int .i64 f.v] := by simp [factC]
  rw [e1]; simpa using hown
 ·rcases List.mem_append.1 hx with hx | hx
  ·exact (FtOwn.far (h.all x hx) (World.grownBy_alloc _ _ none) (far_none _ _)).far hg hfr
  ·simp only [List.mem_singleton] at hx
   subst hx
   exact (FtOwn.far hf (World.grownBy_alloc _ _ none) (far_none _ _)).far hg hfr
theorem FsOwn.keep {B : Nat} {W W' : World} {v : Value} {os : List Ft} (h : FsOwn B W v os) (hb : Below W.heap.size W W') : FsOwn B W' v os := ⟨own_below h.own hb, fun f hf => ⟨own_below (h.all f hf).own hb, (h.all f hf).key, (h.all f hf).num⟩⟩

def F7Res (B : Nat) (fs : List Ft) (v : Value) (W : World) : Prop := ∃ os, FsOwn B W v os ∧ os.map pf = (fs.take 60).map mkF

theorem facts7_any (a : Option Addr) (n c : Nat) (fs : List Ft) (w : World) (hI : FactsIn w a fs) (hn : fs.length = n) (hm : n ≤ 9223372036854775807) :
  Calls Tryz.prog 54 #[.slice a n c] w fun e w' => ∃ v, e = .returned v ∧ F7Res w.heap.size fs v w' ∧ Below w.heap.size w w' := by
 obtain ⟨i0, hi, hz0, hz1, hz2⟩ := info_parts info_int2
 obtain ⟨j0, hj, hy0, hy1, hy2⟩ := info_parts info_fact
 have HI : Aside (FactsIn w a fs ∧ fs.length = n) := ⟨hI, hn⟩
 clear hI hn
 go_enter Tryz.func54, Tryz.ntmps54
 go_wp2_with fail
 go_loopg [3, 4] 60 (fun g1 vv vi wr => ∃ (k : Nat) (av : Option Addr) (cv : Nat), vv = .slice av k cv ∧ vi = .int .i64 k ∧ k ≤ n ∧ k ≤ 60 ∧ 60 - k ≤ g1 ∧ Aside (∃ os, FsOwn w.heap.size wr (.slice av k cv) os ∧ os.length = k ∧ os.map pf = (fs.take k).map mkF ∧ Below w.heap.size w wr))
 case atStart => exact ⟨0, none, 0, rfl, rfl, Nat.zero_le _, Nat.zero_le _, nrQ _, [], fs_nil _ _, rfl, rfl, Below.refl _ _⟩
 case round =>
  obtain ⟨k, av, cv, rfl, rfl, hk, hk6, hg1, SK⟩ := hrel
  by_cases hlt : k < n
  ·have hltz : (k : Int) < (n : Int) := by omega
   by_cases hl6 : k < 60
   ·have hl6z : (k : Int) < 60 := by omega
    obtain ⟨os, K1, K2, K3, K4⟩ := SK.out
    have HK : Aside (FsOwn w.heap.size wr (.slice av k cv) os ∧ os.length = k ∧ os.map pf = (fs.take k).map mkF ∧ Below w.heap.size w wr) := ⟨K1, K2, K3, K4⟩
    have hkl : k < fs.length := by rw [HI.out.2]; exact hlt
    obtain ⟨b, off, ha, hc⟩ := (HI.out.1.keep K4).get hkl
    subst ha
    obtain ⟨r0, r1, r2⟩ := hc k hkl
    clear SK K1 K2 K3 K4 hc
    generalize wr = W1 at HK r0 r1 r2 ⊢
    have hl1 := cell_lt r0
    have HT : Aside ((fs.take (k + 1)).map mkF = (fs.take k).map mkF ++ [(((ftn fs k).k.take 4).map mkP, (ftn fs k).v)]) := by show _ = _; rw [take_ftn fs k hkl, List.map_append]; rfl
    have KO : Aside (Ints W1 (ftn fs k).a (ftn fs k).k) := r2.mem
    have hml := r2.len
    have HV : Aside (I64 (ftn fs k).v) := r2.num
    clear r2
    generalize (ftn fs k).a = fa at r0 KO
    generalize (ftn fs k).cap = fcap at r0
    generalize (ftn fs k).v = fv at r1 HT HV
    generalize (ftn fs k).k = fk at r0 HT KO hml
    obtain ⟨m, hm2⟩ : ∃ m, fk.length = m := ⟨_, rfl⟩
    have HM : Aside (fk.length = m) := hm2
    rw [hm2] at r0 hml
    clear hm2
    have DS : Aside (FB W1 fv [] none 0 0 (W1.alloc (.cells #[.slice none 0 0, .int .i64 fv] 124))) := FB.start W1 fv
    obtain ⟨m4, hm4, hm44, hm5⟩ : ∃ m4 : Nat, m4 ≤ m ∧ m4 ≤ 4 ∧ (m4 = m ∨ m4 = 4) := by
     by_cases h : m ≤ 4
     ·exact ⟨m, by omega, h, .inl rfl⟩
     ·exact ⟨4, by omega, by omega, .inr rfl⟩
    have HM4 : Aside (m4 = m ∨ m4 = 4) := hm5
    clear hm5
    go_wp2_with fail
    go_loopg [6] 4 (fun g2 vk wr => ∃ (j : Nat) (a2 : Option Addr) (c2 : Nat), vk = .int .i64 j ∧ j ≤ m ∧ j ≤ 4 ∧ 4 - j ≤ g2 ∧ Aside (FB W1 fv ((fk.take j).map mkP) a2 j c2 wr))
    case atStart => exact ⟨0, none, 0, rfl, Nat.zero_le _, Nat.zero_le _, nrQ _, DS⟩
    case round =>
     clear DS
     obtain ⟨j, a2, c2, rfl, hjm, hj4, hg2, SJ⟩ := hrel
     have hbl := SJ.out.bel
     have q0 := SJ.out.box.cell (j := 0) rfl
     have r0' := (hbl.cell (p := ⟨b, off + k * 2, none⟩) hl1).trans r0
     have z0 := SJ.out.box.frz 0
     by_cases hltj : j < m
     ·have hltjz : (j : Int) < (m : Int) := by omega
      by_cases hlj4 : j < 4
      ·have hlj4z : (j : Int) < 4 := by omega
       have hjl : j < fk.length := by rw [HM.out]; exact hltj
       obtain ⟨b2, off2, ha2, hc2⟩ := (KO.out.keep hbl).get hjl
       subst ha2
       have p0 := hc2 j hjl
       have hown := SJ.out.own
       clear hc2
       have HT2 : Aside ((fk.take (j + 1)).map mkP = (fk.take j).map mkP ++ [mkP (nth fk j)]) := by show _ = _; rw [take_nth fk j hjl, List.map_append]; rfl
       generalize nth fk j = x at p0 HT2
       have hxb := SJ.out.box
       have hownA : ∀ o, (wr.drew.alloc o).ownsRow (W1.heap.size + 1) 3 1 (.slice a2 j c2) j (vals ((fk.take j).map mkP)) := fun o => (World.ownsRow.drew hown).alloc o
       have hBL := SJ.out.bel.size
       have hne : some W1.heap.size ≠ (Value.slice a2 j c2).ownBlock := fun e => by have := (World.ownsRow.lt hown _ e.symm).1; omega
       have HX3 : ∀ o w3, (wr.drew.alloc o).grownBy w3 (Value.slice a2 j c2).ownBlock → Boxed w3 W1.heap.size #[.slice a2 j c2, .int .i64 fv] 124 := fun o w3 hg => (hxb.below (((Below.refl _ _).drew).alloc (nrQ _) o)).grown hg hne
       have hlt9 := hxb.lt
       have SJ2 := SJ
       clear hbl SJ
       go_wp2_with fail
       go_region_law ((refine step_append_lies _ (by rfl) _ _ _ (by rfl) (W1.heap.size + 1) 3 i0 _ 1 8 Tryz.underlying39 hi hz0 hz1 hz2 rfl (by decide) _ j _ (by rfl) (hownA _) ⟨wr.heap.size, 0, none⟩ 1 1 [.int .i64 ((if x < 0 then 0 else x).tmod 10000)] (by rfl) rfl (cell_one_new wr.drew _ _) (by intro u hu; simp at hu; subst hu; rfl) (by decide) (by unfold maxLen; omega) (by omega) (by simp; omega) _ rfl ?_; intro g3 c3 w3 hown3 hgrow hat hglt; have hx3 := HX3 _ _ hgrow; have q3 := hx3.cell (j := 0) rfl; have z3 := hx3.frz 0))
       all_goals
        have S2 : Aside _ := SJ2.out.push hgrow hown3 (mkP_eq x)
        rw [← HT2.out] at S2
        clear hown3 hgrow hat hglt hx3 q3 z3 HX3 hownA hown SJ2 HT2
        go_wp2
        all_goals
         go_roundg (4 - (j + 1))
         case measure => omega
         case rel => exact ⟨j + 1, _, _, by go_num, by omega, by omega, by omega, S2⟩
      ·have hlj4z : ¬ (j : Int) < 4 := by omega
       have q1 := SJ.out.box.cell (j := 1) rfl
       have hsz := HK.out.2.2.2.size
       have hbz : w.heap.size ≤ wr.heap.size := ntQ hsz hbl.size
       have hfo : Aside (FtOwn w.heap.size wr ⟨a2, c2, (fk.take j).map mkP, fv⟩ ∧ ((fk.take j).map mkP).length = j ∧ (fk.take j).map mkP = (fk.take 4).map mkP) := by
        refine ⟨SJ.out.fact hsz (fun x hx => ?_) HV.out, SJ.out.len, ?_⟩
        ·obtain ⟨z, -, rfl⟩ := List.mem_map.1 hx
         have := mkP_ok z
         unfold I64; omega
        ·by_cases h4 : j = 4
         ·rw [h4]
         ·rw [List.take_of_length_le (by rw [HM.out]; omega), List.take_of_length_le (by rw [HM.out]; omega)]
       have HKr : Aside (FsOwn w.heap.size wr (.slice av k cv) os ∧ Below w.heap.size w wr) := ⟨HK.out.1.keep hbl, HK.out.2.2.2.trans (hbl.mono hsz)⟩
       have hown2 : wr.ownsRow w.heap.size 124 2 (.slice av k cv) k (os.flatMap factC) := by have h := HKr.out.1.own; rw [HK.out.2.1] at h; exact h
       have SJ2 := SJ
       clear SJ hbl z0
       go_wp2_with (at_builtin; refine wpList_append_lies _ rfl _ _ 40 rfl w.heap.size 124 j0 _ 2 32 Tryz.underlying40 hj hy0 hy1 hy2 rfl (by decide) _ k _ rfl (hown2.alloc _) ⟨wr.heap.size, 0, none⟩ 1 1 [Value.slice a2 j c2, Value.int .i64 fv] rfl rfl (cells_two_new _ _ _ _) (by intro u hu; simp at hu; first | (rcases hu with rfl | rfl <;> rfl) | (subst hu; rfl)) (by omega) (by unfold maxLen; omega) (by omega) (by simp; omega) (wr.heap.size + 1) (by simp) ?_; intro g3 c3 w3 hown3 hgrow hat hglt)
       have S3 : Aside (∃ os, FsOwn w.heap.size w3 (.slice (some ⟨g3, 0, none⟩) (k + 1) c3) os ∧ os.length = k + 1 ∧ os.map pf = (fs.take (k + 1)).map mkF ∧ Below w.heap.size w w3) := by
        refine ⟨os ++ [⟨a2, c2, (fk.take j).map mkP, fv⟩], HKr.out.1.push (f := ⟨a2, c2, (fk.take j).map mkP, fv⟩) HK.out.2.1 hfo.out.1 hgrow ?_, by simp [HK.out.2.1], ?_, ?_⟩
        ·show w3.ownsRow w.heap.size 124 2 _ (k + 1) (os.flatMap factC ++ [.slice a2 ((fk.take j).map mkP).length c2, .int .i64 fv])
         rw [hfo.out.2.1]; exact hown3
        ·rw [HT.out, List.map_append, HK.out.2.2.1, ← hfo.out.2.2]; rfl
        ·exact ((HKr.out.2).alloc hbz _).grown hgrow (by simp; omega) fun q hq => (World.ownsRow.lt hown2 _ hq).1
       clear hown3 hgrow hat hglt hown2 q0 q1
       go_wp2
       go_roundg (60 - (k + 1))
       case measure => omega
       case rel => exact ⟨k + 1, _, _, rfl, by go_num, by omega, by omega, by omega, S3⟩
     ·have hltjz : ¬ (j : Int) < (m : Int) := by omega
      have q1 := SJ.out.box.cell (j := 1) rfl
      have hsz := HK.out.2.2.2.size
      have hbz : w.heap.size ≤ wr.heap.size := ntQ hsz hbl.size
      have hfo : Aside (FtOwn w.heap.size wr ⟨a2, c2, (fk.take j).map mkP, fv⟩ ∧ ((fk.take j).map mkP).length = j ∧ (fk.take j).map mkP = (fk.take 4).map mkP) := by
       refine ⟨SJ.out.fact hsz (fun x hx => ?_) HV.out, SJ.out.len, ?_⟩
       ·obtain ⟨z, -, rfl⟩ := List.mem_map.1 hx
        have := mkP_ok z
        unfold I64; omega
       ·by_cases h4 : j = 4
        ·rw [h4]
        ·rw [List.take_of_length_le (by rw [HM.out]; omega), List.take_of_length_le (by rw [HM.out]; omega)]
      have HKr : Aside (FsOwn w.heap.size wr (.slice av k cv) os ∧ Below w.heap.size w wr) := ⟨HK.out.1.keep hbl, HK.out.2.2.2.trans (hbl.mono hsz)⟩
      have hown2 : wr.ownsRow w.heap.size 124 2 (.slice av k cv) k (os.flatMap factC) := by have h := HKr.out.1.own; rw [HK.out.2.1] at h; exact h
      have SJ2 := SJ
      clear SJ hbl z0
      go_wp2_with (at_builtin; refine wpList_append_lies _ rfl _ _ 40 rfl w.heap.size 124 j0 _ 2 32 Tryz.underlying40 hj hy0 hy1 hy2 rfl (by decide) _ k _ rfl (hown2.alloc _) ⟨wr.heap.size, 0, none⟩ 1 1 [Value.slice a2 j c2, Value.int .i64 fv] rfl rfl (cells_two_new _ _ _ _) (by intro u hu; simp at hu; first | (rcases hu with rfl | rfl <;> rfl) | (subst hu; rfl)) (by omega) (by unfold maxLen; omega) (by omega) (by simp; omega) (wr.heap.size + 1) (by simp) ?_; intro g3 c3 w3 hown3 hgrow hat hglt)
      have S3 : Aside (∃ os, FsOwn w.heap.size w3 (.slice (some ⟨g3, 0, none⟩) (k + 1) c3) os ∧ os.length = k + 1 ∧ os.map pf = (fs.take (k + 1)).map mkF ∧ Below w.heap.size w w3) := by
       refine ⟨os ++ [⟨a2, c2, (fk.take j).map mkP, fv⟩], HKr.out.1.push (f := ⟨a2, c2, (fk.take j).map mkP, fv⟩) HK.out.2.1 hfo.out.1 hgrow ?_, by simp [HK.out.2.1], ?_, ?_⟩
       ·show w3.ownsRow w.heap.size 124 2 _ (k + 1) (os.flatMap factC ++ [.slice a2 ((fk.take j).map mkP).length c2, .int .i64 fv])
        rw [hfo.out.2.1]; exact hown3
       ·rw [HT.out, List.map_append, HK.out.2.2.1, ← hfo.out.2.2]; rfl
       ·exact ((HKr.out.2).alloc hbz _).grown hgrow (by simp; omega) fun q hq => (World.ownsRow.lt hown2 _ hq).1
      clear hown3 hgrow hat hglt hown2 q0 q1
      go_wp2
      go_roundg (60 - (k + 1))
      case measure => omega
      case rel => exact ⟨k + 1, _, _, rfl, by go_num, by omega, by omega, by omega, S3⟩
   ·have hl6z : ¬ (k : Int) < 60 := by omega
    have SE : Aside (∃ os, FsOwn w.heap.size wr (.slice av k cv) os ∧ os.map pf = (fs.take 60).map mkF ∧ Below w.heap.size w wr) := by
     obtain ⟨os, K1, K2, K3, K4⟩ := SK.out
     exact ⟨os, K1, by rw [K3, show k = 60 by omega], K4⟩
    clear SK
    go_wp2
    go_ret
    obtain ⟨os, K1, K2, K3⟩ := SE.out
    exact ⟨_, rfl, ⟨os, K1, K2⟩, K3⟩
  ·have hltz : ¬ (k : Int) < (n : Int) := by omega
   have SE : Aside (∃ os, FsOwn w.heap.size wr (.slice av k cv) os ∧ os.map pf = (fs.take 60).map mkF ∧ Below w.heap.size w wr) := by
    obtain ⟨os, K1, K2, K3, K4⟩ := SK.out
    exact ⟨os, K1, by rw [K3, List.take_of_length_le (by rw [HI.out.2]; omega), List.take_of_length_le (by rw [HI.out.2]; omega)], K4⟩
   clear SK
   go_wp2
   go_ret
   obtain ⟨os, K1, K2, K3⟩ := SE.out
   exact ⟨_, rfl, ⟨os, K1, K2⟩, K3⟩
def nbit (nodes : Int) (k : Nat) : Bool := bits .and .u8 (nodes / 2 ^ k) 1 == 1
def ndL (nodes : Int) : Nat → List Int
 | 0 => []
 | k + 1 => if nbit nodes k = true then ndL nodes k ++ [(k : Int)] else ndL nodes k
def NdL (nodes : Int) (l : List Int) (k : Nat) : Prop := nodesOk l = true ∧ (∀ x ∈ l, 0 ≤ x ∧ x < (k : Int)) ∧ l = ndL nodes k
theorem NdL.nil (nodes : Int) : NdL nodes [] 0 := ⟨rfl, by simp, rfl⟩
theorem NdL.skip {nodes : Int} {l : List Int} {k : Nat} (h : NdL nodes l k) (hb : nbit nodes k = false) : NdL nodes l (k + 1) := ⟨h.1, fun x hx => by have := h.2.1 x hx; omega, by rw [h.2.2, ndL, if_neg (by rw [hb]; decide)]⟩
theorem NdL.push {nodes : Int} {l : List Int} {k : Nat} (h : NdL nodes l k) (hb : nbit nodes k = true) (hk : k ≤ 5) : NdL nodes (l ++ [(k : Int)]) (k + 1) := by
 refine ⟨(nodesOk_iff _).2 fun i hi => ?_, fun x hx => ?_, by rw [h.2.2, ndL, if_pos hb]⟩
 ·have h0 := (nodesOk_iff l).1 h.1
  by_cases e : i < l.length
  ·have e1 : nth (l ++ [(k : Int)]) i = nth l i := by simp [nth, List.getElem?_append_left e]
   have e2 : nth (l ++ [(k : Int)]) (i - 1) = nth l (i - 1) := by simp [nth, List.getElem?_append_left (show i - 1 < l.length by omega)]
   unfold ndGood
   rw [e1, e2]
   exact h0 i e
  ·have ei : i = l.length := by simp at hi; omega
   subst ei
   have e1 : nth (l ++ [(k : Int)]) l.length = (k : Int) := by simp [nth]
   unfold ndGood
   rw [e1]
   refine ⟨by omega, fun hp => ?_⟩
   have e2 : nth (l ++ [(k : Int)]) (l.length - 1) = nth l (l.length - 1) := by simp [nth, List.getElem?_append_left (show l.length - 1 < l.length by omega)]
   rw [e2]
   exact (h.2.1 _ (nth_mem (by omega))).2
 ·rcases List.mem_append.1 hx with hx | hx
  ·have := h.2.1 x hx; omega
  ·simp at hx; subst hx; omega
theorem NdL.ok {nodes : Int} {l : List Int} {k : Nat} (h : NdL nodes l k) (hk : k ≤ 6) : ∀ x ∈ l, I64 x := fun x hx => by have := h.2.1 x hx; unfold I64; omega
theorem mkF_ok (fs : List Ft) : factsOk ((fs.take 60).map mkF) = true := by
 refine factsOk_iff.2 ⟨fun f hf => ?_, by simp; omega⟩
 obtain ⟨z, -, rfl⟩ := List.mem_map.1 hf
 refine keyOk_iff.2 ⟨fun v hv => ?_, by simp [mkF]; omega⟩
 obtain ⟨u, -, rfl⟩ := List.mem_map.1 hv
 exact mkP_ok u
theorem md_ok {x m : Int} (h : 0 ≤ x ∧ x ≤ 65535) (hm : 0 < m) : 0 ≤ (IntKind.i64.wrap x).tmod m ∧ (IntKind.i64.wrap x).tmod m < m := by
 have e : IntKind.i64.wrap x = x := by rw [IntKind.wrap_i64]; omega
 rw [e, Int.tmod_eq_emod_of_nonneg h.1]
 exact ⟨Int.emod_nonneg _ (by omega), Int.emod_lt_of_pos _ hm⟩
theorem grown_drew (W : World) (row : Option Nat) : W.grownBy W.drew row := ⟨rfl, rfl, rfl, nrQ _, fun _ _ _ => rfl⟩
theorem grown_row {W0 W w3 : World} {B : Nat} {row : Option Nat} (h : W0.grownBy W (some B)) (k : W.grownBy w3 row) (hr : ∀ q, row = some q → W0.heap.size ≤ q) : W0.grownBy w3 (some B) :=
 ⟨k.os.trans h.os, k.tape.trans h.tape, k.output.trans h.output, ntQ h.size k.size, fun i hi hne => (k.block i (Nat.lt_of_lt_of_le hi h.size) fun e => by have := hr i e.symm; omega).trans (h.block i hi hne)⟩
theorem grown_any {W W' : World} (hb : Below W.heap.size W W') (row : Option Nat) : W.grownBy W' row := ⟨hb.os, hb.tape, hb.output, hb.size, fun i hi _ => hb.block i hi⟩
theorem FsOwn.mono {B B' : Nat} {W : World} {v : Value} {os : List Ft} (h : FsOwn B W v os) (hB : B' ≤ B) : FsOwn B' W v os := ⟨own_mono h.own hB, fun f hf => ⟨own_mono (h.all f hf).own hB, (h.all f hf).key, (h.all f hf).num⟩⟩
theorem EsOwn.mono {B B' : Nat} {W : World} {v : Value} {es : List Et} (h : EsOwn B W v es) (hB : B' ≤ B) : EsOwn B' W v es := ⟨own_mono h.own hB, fun e he => ⟨(h.all e he).own.mono hB, (h.all e he).num⟩⟩
theorem EtOwn.step {B b j : Nat} {W W1 w3 : World} {e : Et} {o : Obj} {row : Option Nat} {cs : Array Value} {v : Value} (h : EtOwn B W e) (hb : Below W.heap.size W W1) (hg : (W1.alloc o).grownBy w3 row) (hr : Far (W1.alloc o) row 3) (hr2 : Far (W1.alloc o) row 124) (hx : Boxed w3 b cs 46) : EtOwn B (w3.setCell ⟨b, j, none⟩ v) e :=
 (((h.far (grown_below hb) (far_none _ _) (far_none _ _)).far (World.grownBy_alloc _ _ none) (far_none _ _) (far_none _ _)).far hg hr hr2).far (grown_at _ _ _ _) (hx.far (by decide)) (hx.far (by decide))
theorem entsUp_snoc {l : List PEnt} {x : PEnt} {la : Int} (h : entsUp l = true) (hl : ∀ e ∈ l, e.1 ≤ la) (hx : la < x.1) (hf : factsOk x.2 = true) : entsUp (l ++ [x]) = true := by
 induction l with
 | nil => simp [entsUp, hf]
 | cons y l ih =>
  have h0 := (entsUp_cons y l).1 h
  refine (entsUp_cons y (l ++ [x])).2 ⟨h0.1, fun _ => ?_, ih h0.2.2 fun e he => hl e (by simp [he])⟩
  rcases l with _ | ⟨z, l⟩
  ·have := hl y (by simp)
   simp only [List.nil_append, pen_cons_zero]
   omega
  ·have := h0.2.1 (by simp)
   simpa [pen] using this
def laOf (es : List Et) : Nat → Int
 | 0 => 0
 | k + 1 => laOf es k + (1 + (etn es k).t % 1000)
def enOf (es : List Et) : Nat → List PEnt
 | 0 => []
 | k + 1 => enOf es k ++ [(laOf es (k + 1), ((etn es k).fs.take 60).map mkF)]
def mkQ (kind id at_ nodes frm til : Int) (fs : List Ft) (es : List Et) : PRec :=
 if kind % 7 = 0 then ⟨1, id, 0, ndL nodes 6, (fs.take 60).map mkF, 0, [], 0, 0, []⟩
 else if kind % 7 = 1 then ⟨2, id, at_, ndL nodes 6, [], 0, [], 0, 0, []⟩
 else if kind % 7 = 5 then ⟨6, 0, 0, [], [], at_, [], 0, 0, []⟩
 else if kind % 7 = 6 then ⟨7, id, 0, [], [], 0, [], frm % 10001, til % 10001, enOf es (min es.length 50)⟩
 else ⟨1 + kind % 7, id, 0, [], [], 0, [], 0, 0, []⟩
def MkRes (k : Int) (p : Prop) (q : PRec) (v : Value) (W : World) : Prop := ∃ r, v = rcV r ∧ OwnIn W r ∧ sndRec (pr r) = true ∧ r.kind = k ∧ (p → pr r = q)
end code
end Go.Proofs.YtlcjllgfpfldlaaGreat
