/-
 The chapter's reader: facts.
 The chapter's reader: entries.
 The chapter's reader: a record.
 The chapter's reader: a record of kind 6, and of any kind.
 The chapter's Decode: the one sound record whose bytes they are, or none.
 The chapter's Encode of what Make makes; two records in memory.
-/
import Derived.Test.YtlcjllgfpfldlaaGreatWalZ40K
import Derived.Test.YtlcjllgfpfldlaaGreatCodeMk
set_option maxHeartbeats 32000000
open Go.ChangeShapes Go.WideShapes Go.ChangeAt Go.RowKit Go.Deep
set_option linter.unusedVariables false
set_option maxRecDepth 100000
set_option linter.unusedSimpArgs false
namespace Go.Proofs.YtlcjllgfpfldlaaGreat
namespace code
open dims (vals own_below own_mono)
theorem rdWhile_step {α : Type} {p : Rd → α × Rd} {n j : Nat} {s0 sk : Rd} {xs : List α} (h : rdWhile p n s0 = (xs ++ (rdWhile p (j + 1) sk).1, (rdWhile p (j + 1) sk).2)) (hb : sk.2 = false) :
  rdWhile p n s0 = ((xs ++ [(p sk).1]) ++ (rdWhile p j (p sk).2).1, (rdWhile p j (p sk).2).2) := by
 rw [h]
 simp [rdWhile, hb]
theorem rdWhile_stop {α : Type} {p : Rd → α × Rd} {n m : Nat} {s0 sk : Rd} {xs : List α} (h : rdWhile p n s0 = (xs ++ (rdWhile p m sk).1, (rdWhile p m sk).2)) (hb : sk.2 = true ∨ m = 0) : rdWhile p n s0 = (xs, sk) := by
 rw [h]
 cases m with
 | zero => simp [rdWhile]
 | succ m =>
  have hb2 : sk.2 = true := hb.resolve_right (by omega)
  simp [rdWhile, hb2]
theorem rdTimes_len {α : Type} {p : Rd → α × Rd} (hp : ∀ s, (p s).2.1.length ≤ s.1.length) : ∀ n s, (rdTimes p n s).2.1.length ≤ s.1.length
 | 0, s => nrQ _
 | n + 1, s => ntQ (rdTimes_len hp n (p s).2) (hp s)
theorem rdWhile_len {α : Type} {p : Rd → α × Rd} (hp : ∀ s, (p s).2.1.length ≤ s.1.length) : ∀ n s, (rdWhile p n s).2.1.length ≤ s.1.length
 | 0, s => nrQ _
 | n + 1, s => by
  unfold rdWhile
  split
  ·exact nrQ _
  ·exact ntQ (rdWhile_len hp n (p s).2) (hp s)
theorem rdFact_len (s : Rd) : (rdFact s).2.1.length ≤ s.1.length :=
 ntQ (rdGet_len 8 _) (ntQ (rdTimes_len (p := rdInt 4) (fun s => rdGet_len 4 s) _ _) (rdMany_len 1 4 s))
theorem rdFacts_len (s : Rd) : (rdFacts s).2.1.length ≤ s.1.length := ntQ (rdWhile_len rdFact_len _ _) (rdMany_len 4 9 s)

theorem BxL.drew {R : Nat} {w : World} {s : Rd} (h : BxL R w s) : BxL R w.drew s := h.keep (Below.refl _ _).drew
structure FR (R : Nat) (W1 : World) (v : Int) (ks : List Int) (a : Option Addr) (j c : Nat) (s : Rd) (W : World) : Prop where
 box : Boxed W W1.heap.size #[.slice a j c, .int .i64 v] 124
 own : W.ownsRow (W1.heap.size + 1) 3 1 (.slice a j c) j (vals ks)
 len : ks.length = j
 all : ∀ x ∈ ks, I64 x
 wb : Wb R W1 W s
theorem FR.start {R : Nat} {W : World} {s : Rd} (h : BxL R W s) : FR R W 0 [] none 0 0 s (W.alloc (.cells #[.slice none 0 0, .int .i64 0] 124)) :=
 ⟨Boxed.new _ _ _, World.ownsRow_nil _ _ _ _, rfl, by simp, Wb.start h ((Below.refl _ _).alloc (nrQ _) _)⟩
theorem FR.moved {R : Nat} {W1 W W' : World} {v : Int} {ks : List Int} {a : Option Addr} {j c : Nat} {s s' : Rd} (h : FR R W1 v ks a j c s W) (hR : R < W1.heap.size) (g : Wb R W W' s') : FR R W1 v ks a j c s' W' :=
 ⟨h.box.grown g.grown (by simp only [ne_eq, oiQ]; omega), own_far h.own g.grown (h.wb.rdr.far (by decide)), h.len, h.all, h.wb.trans g⟩
theorem FR.drew {R : Nat} {W1 W : World} {v : Int} {ks : List Int} {a : Option Addr} {j c : Nat} {s : Rd} (h : FR R W1 v ks a j c s W) (hR : R < W1.heap.size) : FR R W1 v ks a j c s W.drew :=
 h.moved hR (Wb.start h.wb.rdr (Below.refl _ _).drew)
theorem FR.push {R : Nat} {W1 W w3 : World} {v : Int} {ks : List Int} {a : Option Addr} {j c g c3 : Nat} {s : Rd} {x : Int} {o : Obj} (h : FR R W1 v ks a j c s W) (hR : R < W1.heap.size) (hg : (W.alloc o).grownBy w3 (Value.slice a j c).ownBlock)
  (hown : w3.ownsRow (W1.heap.size + 1) 3 1 (.slice (some ⟨g, 0, none⟩) (j + 1) c3) (j + 1) (vals ks ++ [.int .i64 x])) (hx : I64 x) :
  FR R W1 v (ks ++ [x]) (some ⟨g, 0, none⟩) (j + 1) c3 s (w3.setCell ⟨W1.heap.size, 0, none⟩ (.slice (some ⟨g, 0, none⟩) (j + 1) c3)) := by
 have hlow : ∀ q, (Value.slice a j c).ownBlock = some q → W1.heap.size + 1 ≤ q := fun q hq => (World.ownsRow.lt h.own _ hq).1
 have hne : some W1.heap.size ≠ (Value.slice a j c).ownBlock := fun e => by have := hlow _ e.symm; omega
 have hb0 : Below W.heap.size W (W.alloc o) := (Below.refl _ _).alloc (nrQ _) o
 have hbx := (h.box.below hb0).grown hg hne
 refine ⟨hbx.set 0 _, ?_, by simp [h.len], fun y hy => ?_, ?_⟩
 ·have e : vals (ks ++ [x]) = vals ks ++ [Value.int .i64 x] := by simp [vals]
  rw [e]
  refine hown.kept (grown_at _ _ _ _) (Or.inr ?_)
  intro e1
  have := (World.ownsRow.lt hown _ e1).1
  omega
 ·rcases List.mem_append.1 hy with hy | hy
  ·exact h.all y hy
  ·simp only [List.mem_singleton] at hy
   subst hy
   exact hx
 ·exact ((h.wb.below hb0 hR).row hg (fun q hq => by have := hlow q hq; omega) hR).row (grown_at _ _ _ _) (fun q hq => by injection hq with hq; omega) hR
theorem FR.num {R : Nat} {W1 W : World} {v : Int} {ks : List Int} {a : Option Addr} {j c : Nat} {s : Rd} (h : FR R W1 v ks a j c s W) (hR : R < W1.heap.size) (y : Int) : FR R W1 y ks a j c s (W.setCell ⟨W1.heap.size, 1, none⟩ (.int .i64 y)) := by
 refine ⟨h.box.set 1 _, ?_, h.len, h.all, ?_⟩
 ·refine h.own.kept (grown_at _ _ _ _) (Or.inr ?_)
  intro e1
  have := (World.ownsRow.lt h.own _ e1).1
  omega
 ·exact h.wb.row (grown_at _ _ _ _) (fun q hq => by injection hq with hq; omega) hR
theorem FR.fact {R : Nat} {W1 W : World} {v : Int} {ks : List Int} {a : Option Addr} {j c B : Nat} {s : Rd} (h : FR R W1 v ks a j c s W) (hB : B ≤ W1.heap.size) (hv : I64 v) : FtOwn B W ⟨a, c, ks, v⟩ := by
 obtain rfl := h.len
 exact ⟨own_mono h.own (by omega), h.all, hv⟩
theorem FsOwn.moved {B R : Nat} {W W' : World} {v : Value} {os : List Ft} {s s' : Rd} (h : FsOwn B W v os) (hR : BxL R W s) (g : Wb R W W' s') : FsOwn B W' v os := h.far g.grown (hR.far (by decide)) (hR.far (by decide))
theorem i64_small {x : Nat} (h : x < 4294967296) : IntKind.i64.wrap (x : Int) = (x : Int) := by rw [IntKind.wrap_i64]; omega
def FsRes (B : Nat) (ys : List PFact) (v : Value) (W : World) : Prop := ∃ os, FsOwn B W v os ∧ os.map pf = ys
theorem asI64_ok (n : Nat) (h : n < 18446744073709551616) : I64 (asI64 n) := by unfold I64 asI64; split <;> omega

theorem facts_rd (R B : Nat) (w : World) (s : Rd) (hB : B ≤ w.heap.size) (hR : BxL R w s) (hl : s.1.length ≤ 60000) :
  Calls Tryz.prog 77 #[.pointer (some ⟨R, 0, none⟩)] w fun e w' => ∃ v, e = .returned v ∧ FsRes B (rdFacts s).1 v w' ∧ Wb R w w' (rdFacts s).2 := by
 obtain ⟨i0, hi, hz0, hz1, hz2⟩ := info_parts info_int2
 obtain ⟨j0, hj, hy0, hy1, hy2⟩ := info_parts info_fact
 have hRlt := hR.lt
 have hM := many_any R 4 9 w s hR (by omega) (by omega) (by omega) (by omega) hl
 have h2 := rdMany_len 4 9 s
 have h3 := rdMany_le 4 9 s
 unfold rdFacts
 generalize rdMany 4 9 s = g at hM h2 h3 ⊢
 obtain ⟨n, s1⟩ := g
 simp only at hM h2 h3 ⊢
 have hn6 : n ≤ 60000 := by omega
 have H : Aside (B ≤ w.heap.size ∧ s1.1.length ≤ 60000) := ⟨hB, by omega⟩
 clear hB hR h2 h3 hl
 go_enter Tryz.func77, Tryz.ntmps77
 go_wp2_with (go_at_call 78; refine hM.mono ?_; rintro e w1 ⟨rfl, hW1⟩; refine Hid.out ?_)
 refine hid ?_
 have HW1 : Aside (Wb R w w1 s1) := hW1
 clear hM hW1
 go_wp2_with fail
 go_loopg [3, 5] n (fun g1 vv vi wr => ∃ (k : Nat) (av : Option Addr) (cv : Nat), vv = .slice av k cv ∧ vi = .int .i64 k ∧ k ≤ n ∧ n - k ≤ g1 ∧ Aside (∃ (os : List Ft) (sk : Rd), FsOwn w.heap.size wr (.slice av k cv) os ∧ os.length = k ∧ Wb R w wr sk ∧ sk.1.length ≤ 60000 ∧ rdWhile rdFact n s1 = (os.map pf ++ (rdWhile rdFact (n - k) sk).1, (rdWhile rdFact (n - k) sk).2)))
 case atStart => exact ⟨0, none, 0, rfl, rfl, Nat.zero_le _, nrQ _, [], s1, fs_nil _ _, rfl, HW1.out, H.out.2, by simp⟩
 case round =>
  obtain ⟨k, av, cv, rfl, rfl, hk, hgk, SK⟩ := hrel
  by_cases hlt : k < n
  ·have hltz : (k : Int) < (n : Int) := by omega
   obtain ⟨os, sk, hx1, hx2, hx4, hx5, hx6⟩ := SK.out
   obtain ⟨aR, nR, cR, hBx⟩ := hx4.rdr
   have c1 := hBx.cell1
   clear hBx
   by_cases hbad : sk.2 = true
   ·rw [hbad] at c1
    have S3 : Aside (∃ (os : List Ft) (sk : Rd), FsOwn w.heap.size wr (.slice av k cv) os ∧ Wb R w wr sk ∧ rdWhile rdFact n s1 = (os.map pf, sk)) := ⟨os, sk, hx1, hx4, rdWhile_stop hx6 (.inl hbad)⟩
    clear SK hx1 hx2 hx4 hx5 hx6 hbad
    go_wp2
    go_ret
    obtain ⟨os, sk, a1, a2, a3⟩ := S3.out
    rw [a3]
    exact ⟨_, rfl, ⟨os, a1.mono H.out.1, rfl⟩, a2⟩
   have hbad2 : sk.2 = false := by simpa using hbad
   rw [hbad2] at c1
   obtain ⟨jj, hjj⟩ : ∃ jj, n - k = jj + 1 := ⟨n - k - 1, by omega⟩
   rw [hjj] at hx6
   have hx7 := rdWhile_step hx6 hbad2
   have hflen := rdFact_len sk
   obtain ⟨sf, hsf⟩ : ∃ sf, (rdFact sk).2 = sf := ⟨_, rfl⟩
   obtain ⟨yf, hyf⟩ : ∃ yf, (rdFact sk).1 = yf := ⟨_, rfl⟩
   rw [hsf, hyf] at hx7
   rw [hsf] at hflen
   generalize hWr : wr = W1 at *
   clear hWr
   have hsz : w.heap.size ≤ W1.heap.size := hx4.grown.size
   have hR1 : R < W1.heap.size := by omega
   have FcS := FR.start hx4.rdr
   have HK : Aside (FsOwn w.heap.size W1 (.slice av k cv) os ∧ os.length = k ∧ Wb R w W1 sk ∧ sf.1.length ≤ 60000 ∧ rdWhile rdFact n s1 = ((os.map pf ++ [yf]) ++ (rdWhile rdFact jj sf).1, (rdWhile rdFact jj sf).2) ∧ n - k = jj + 1) := ⟨hx1, hx2, hx4, by omega, hx7, hjj⟩
   unfold rdFact at hsf hyf
   have hM := many_any R 1 4 _ sk FcS.wb.rdr (by omega) (by omega) (by omega) (by omega) hx5
   have hm1 := rdMany_len 1 4 sk
   have hm2 := rdMany_le 1 4 sk
   generalize rdMany 1 4 sk = gm at hM hm1 hm2 hsf hyf
   obtain ⟨m, sm⟩ := gm
   simp only at hM hm1 hm2 hsf hyf
   have hm6 : m ≤ 60000 := by omega
   have HF : Aside (((rdTimes (rdInt 4) m sm).1, asI64 (rdGet 8 (rdTimes (rdInt 4) m sm).2).1) = yf ∧ (rdGet 8 (rdTimes (rdInt 4) m sm).2).2 = sf) := ⟨hyf, hsf⟩
   have HFS : Aside (FR R W1 0 [] none 0 0 sk (W1.alloc (.cells #[.slice none 0 0, .int .i64 0] 124)) ∧ sm.1.length ≤ 60000) := ⟨FcS, by omega⟩
   clear SK hx1 hx2 hx4 hx5 hx6 hx7 hbad hbad2 hjj hflen hsf hyf FcS hm1 hm2
   go_wp2_with (go_at_call 78; refine hM.mono ?_; rintro e w2 ⟨rfl, hW2⟩; refine Hid.out ?_)
   refine hid ?_
   have HF2 : Aside (FR R W1 0 [] none 0 0 sm w2) := HFS.out.1.moved hR1 hW2
   clear hM hW2
   go_wp2_with fail
   go_loopg [8] m (fun g2 vk wr => ∃ (j : Nat) (a2 : Option Addr) (c2 : Nat) (y0 : Nat), vk = .int .i64 j ∧ j ≤ m ∧ m - j ≤ g2 ∧ Aside (∃ ks sj, FR R W1 0 ks a2 j c2 sj wr ∧ rdTimes (rdInt 4) m sm = (ks ++ (rdTimes (rdInt 4) (m - j) sj).1, (rdTimes (rdInt 4) (m - j) sj).2)))
   case atStart => exact ⟨0, none, 0, 0, rfl, Nat.zero_le _, nrQ _, [], sm, HF2.out, by simp⟩
   case round =>
    clear HF2 HFS
    obtain ⟨j, a2, c2, y0, rfl, hjm, hg2, SJ⟩ := hrel
    obtain ⟨ks, sj, hf1, hf2⟩ := SJ.out
    have q0 := hf1.box.cell (j := 0) rfl
    have z0 := hf1.box.frz 0
    have z1 := hf1.box.frz 1
    have hbl := hf1.box.lt
    by_cases hltj : j < m
    ·have hltjz : (j : Int) < (m : Int) := by omega
     obtain ⟨ii, hii⟩ : ∃ ii, m - j = ii + 1 := ⟨m - j - 1, by omega⟩
     rw [hii] at hf2
     have hf3 := rdTimes_step hf2
     unfold rdInt at hf3
     have hC := get_any R 4 wr.drew sj hf1.wb.rdr.drew (by omega) (by omega)
     have hx4 := rdGet_lt4 sj (k := 4) (by omega)
     obtain ⟨x, hx⟩ : ∃ x, (rdGet 4 sj).1 = x := ⟨_, rfl⟩
     obtain ⟨s2, hs2⟩ : ∃ s2, (rdGet 4 sj).2 = s2 := ⟨_, rfl⟩
     rw [hx, hs2] at hf3 hC
     rw [hx] at hx4
     have HXW : Hid (IntKind.i64.wrap (x : Int) = (x : Int)) := i64_small hx4
     have hx64 : I64 (IntKind.i64.wrap (x : Int)) := by rw [HXW.out]; unfold I64; omega
     have hfd := hf1.drew hR1
     have HM : ∀ W, Wb R wr.drew W s2 → FR R W1 0 ks a2 j c2 s2 W := fun W hW => hfd.moved hR1 hW
     have HJ : Aside (rdTimes (rdInt 4) m sm = ((ks ++ [(x : Int)]) ++ (rdTimes (rdInt 4) ii s2).1, (rdTimes (rdInt 4) ii s2).2) ∧ m - j = ii + 1) := ⟨hf3, hii⟩
     clear SJ hf1 hf2 hf3 hfd hx hs2 hii
     go_wp2_with fail
     go_region_law (first
      | (go_simp; refine hC.mono ?_; rintro e wf ⟨rfl, hWf⟩; have hFR := HM _ hWf; have q0f := hFR.box.cell (j := 0) rfl; have hownF := hFR.own; have hszF : W1.heap.size < wf.heap.size := hFR.box.lt)
      | (refine step_append_lies _ (by rfl) _ _ _ (by rfl) (W1.heap.size + 1) 3 i0 _ 1 8 Tryz.underlying39 hi hz0 hz1 hz2 rfl (by decide) _ j _ (by rfl) (World.ownsRow.alloc hownF _) ⟨wf.heap.size, 0, none⟩ 1 1 [.int .i64 (IntKind.i64.wrap (x : Int))] (by rfl) rfl (cell_one_new wf _ _) (by intro u hu; simp at hu; subst hu; rfl) (by decide) (by unfold maxLen; omega) (by omega) (by first | omega | (simp; done) | (simp; omega)) _ rfl ?_; intro g3 c3 w3 hown3 hgrow hat hglt; have hS := hFR.push hR1 hgrow hown3 hx64; have hx3 := (hFR.box.below ((Below.refl _ _).alloc (nrQ _) _)).grown hgrow (fun e => by have := (World.ownsRow.lt hownF _ e.symm).1; omega); have q3 := hx3.cell (j := 0) rfl; have z3 := hx3.frz 0))
     ·have S2 : Aside _ := hS
      rw [HXW.out] at S2
      clear hown3 hgrow hat hglt hx3 q3 z3 hS hownF hFR q0f hszF hWf HM hC q0 z0 z1
      go_wp2
      go_roundg (m - (j + 1))
      case measure => omega
      case rel => exact ⟨j + 1, _, _, 0, by go_num, by omega, by omega, _, _, S2.out, by rw [show m - (j + 1) = ii by have := HJ.out.2; omega]; exact HJ.out.1⟩
     ·have S2 : Aside _ := hS
      rw [HXW.out] at S2
      clear hown3 hgrow hat hglt hx3 q3 z3 hS hownF hFR q0f hszF hWf HM hC q0 z0 z1
      go_wp2
      go_roundg (m - (j + 1))
      case measure => omega
      case rel => exact ⟨j + 1, _, _, 0, by go_num, by omega, by omega, _, _, S2.out, by rw [show m - (j + 1) = ii by have := HJ.out.2; omega]; exact HJ.out.1⟩
     ·have S2 : Aside _ := hS
      rw [HXW.out] at S2
      clear hown3 hgrow hat hglt hx3 q3 z3 hS hownF hFR q0f hszF hWf HM hC q0 z0 z1
      go_wp2
      go_roundg (m - (j + 1))
      case measure => omega
      case rel => exact ⟨j + 1, _, _, 0, by go_num, by omega, by omega, _, _, S2.out, by rw [show m - (j + 1) = ii by have := HJ.out.2; omega]; exact HJ.out.1⟩
    ·have hltjz : ¬ (j : Int) < (m : Int) := by omega
     rw [show m - j = 0 by omega] at hf2
     have hf3 := rdTimes_end hf2
     have hG := get_any R 8 wr sj hf1.wb.rdr (by omega) (by omega)
     have hvlt := rdGet_lt sj (k := 8) (by omega)
     have hF1 := HF.out
     rw [hf3] at hF1
     obtain ⟨y, hy⟩ : ∃ y, (rdGet 8 sj).1 = y := ⟨_, rfl⟩
     obtain ⟨s2, hs2⟩ : ∃ s2, (rdGet 8 sj).2 = s2 := ⟨_, rfl⟩
     rw [hy, hs2] at hG
     rw [hy] at hvlt
     simp only at hF1
     rw [hy, hs2] at hF1
     have hyw : wrap64 (y : Int) = asI64 y := wrap_asI64 hvlt
     have hy64 := asI64_ok y hvlt
     generalize asI64 y = v at hyw hy64 hF1
     have HE : Aside (FR R W1 0 ks a2 j c2 sj wr ∧ (ks, v) = yf ∧ s2 = sf ∧ I64 v) := ⟨hf1, hF1.1, hF1.2, hy64⟩
     clear SJ hf1 hf2 hf3 hF1 hy hs2 HF hy64 q0 z0
     go_wp2_with (go_at_call 75; refine hG.mono ?_; rintro e w4 ⟨rfl, hW4⟩; refine Hid.out ?_)
     refine hid ?_
     have hF4 := HE.out.1.moved hR1 hW4
     have q1 := hF4.box.cell (j := 1) rfl
     have z4 := hF4.box.frz 1
     have HF5 : Aside (FR R W1 v ks a2 j c2 s2 (w4.setCell ⟨W1.heap.size, 1, none⟩ (.int .i64 v))) := hF4.num hR1 v
     clear hG hW4 hF4 z1 hbl
     go_upto_region 13 with fail
     generalize w4.setCell ⟨W1.heap.size, 1, none⟩ (.int .i64 v) = w5 at HF5 ⊢
     clear q1 z4
     have q0 := HF5.out.box.cell (j := 0) rfl
     have q1 := HF5.out.box.cell (j := 1) rfl
     have hFs := HK.out.1.moved HK.out.2.2.1.rdr HF5.out.wb
     have hbz : w.heap.size ≤ w5.heap.size := ntQ hsz HF5.out.wb.grown.size
     have hown2 : w5.ownsRow w.heap.size 124 2 (.slice av k cv) k (os.flatMap factC) := by have h := hFs.own; rw [HK.out.2.1] at h; exact h
     have HFs : Aside (FsOwn w.heap.size w5 (.slice av k cv) os) := hFs
     clear hFs
     go_wp2_with (at_builtin; refine wpList_append_lies _ rfl _ _ 40 rfl w.heap.size 124 j0 _ 2 32 Tryz.underlying40 hj hy0 hy1 hy2 rfl (by decide) _ k _ rfl (hown2.alloc _) ⟨w5.heap.size, 0, none⟩ 1 1 [Value.slice a2 j c2, Value.int .i64 v] rfl rfl (cells_two_new _ _ _ _) (by intro u hu; simp at hu; first | (rcases hu with rfl | rfl <;> rfl) | (subst hu; rfl)) (by omega) (by unfold maxLen; omega) (by omega) (by simp; omega) (w5.heap.size + 1) (by simp) ?_; intro g3 c3 w3 hown3 hgrow hat hglt)
     have S3 : Aside (∃ (os : List Ft) (sk : Rd), FsOwn w.heap.size w3 (.slice (some ⟨g3, 0, none⟩) (k + 1) c3) os ∧ os.length = k + 1 ∧ Wb R w w3 sk ∧ sk.1.length ≤ 60000 ∧ rdWhile rdFact n s1 = (os.map pf ++ (rdWhile rdFact (n - (k + 1)) sk).1, (rdWhile rdFact (n - (k + 1)) sk).2)) := by
      refine ⟨os ++ [⟨a2, c2, ks, v⟩], sf, HFs.out.push (f := ⟨a2, c2, ks, v⟩) HK.out.2.1 (HF5.out.fact hsz HE.out.2.2.2) hgrow ?_, by simp [HK.out.2.1], ?_, HK.out.2.2.2.1, ?_⟩
      ·show w3.ownsRow w.heap.size 124 2 _ (k + 1) (os.flatMap factC ++ [.slice a2 ks.length c2, .int .i64 v])
       rw [HF5.out.len]; exact hown3
      ·have h := HK.out.2.2.1.trans HF5.out.wb
       rw [HE.out.2.2.1] at h
       exact (h.below (by (repeat (first | with_reducible exact Below.refl _ _ | (with_reducible refine Below.drew ?_) | (with_reducible refine Below.alloc ?_ (by first | omega | (simp; done) | (simp; omega)) _) | (with_reducible refine Below.setCell ?_ (by first | exact nrQ _ | omega | (simp; done) | (simp; omega)) _)))) hRlt).row hgrow (fun q hq => (World.ownsRow.lt hown2 _ hq).1) hRlt
      ·rw [show n - (k + 1) = jj by have := HK.out.2.2.2.2.2; omega, HK.out.2.2.2.2.1, ← HE.out.2.1]
       simp [pf]
     clear hown3 hgrow hat hglt hown2 q0 q1
     go_wp2
     go_roundg (n - (k + 1))
     case measure => omega
     case rel => exact ⟨k + 1, _, _, rfl, by go_num, by omega, by omega, S3⟩
  ·have hltz : ¬ (k : Int) < (n : Int) := by omega
   have S3 : Aside (∃ (os : List Ft) (sk : Rd), FsOwn w.heap.size wr (.slice av k cv) os ∧ Wb R w wr sk ∧ rdWhile rdFact n s1 = (os.map pf, sk)) := by
    obtain ⟨os, sk, a1, a2, a3, a4, a5⟩ := SK.out
    exact ⟨os, sk, a1, a3, rdWhile_stop a5 (.inr (by omega))⟩
   clear SK
   go_wp2
   go_ret
   obtain ⟨os, sk, a1, a2, a3⟩ := S3.out
   rw [a3]
   exact ⟨_, rfl, ⟨os, a1.mono H.out.1, rfl⟩, a2⟩
theorem rdEnt_len (s : Rd) : (rdEnt s).2.1.length ≤ s.1.length := ntQ (rdFacts_len _) (rdGet_len 4 s)
def EsRes (B : Nat) (ys : List PEnt) (v : Value) (W : World) : Prop := ∃ es, EsOwn B W v es ∧ es.map pe = ys
structure ER (R : Nat) (W1 : World) (t : Int) (a : Option Addr) (n c : Nat) (s : Rd) (W : World) : Prop where
 box : Boxed W W1.heap.size #[.int .u32 t, .slice a n c] 94
 wb : Wb R W1 W s
theorem ER.start {R : Nat} {W : World} {s : Rd} (h : BxL R W s) : ER R W 0 none 0 0 s (W.alloc (.cells #[.int .u32 0, .slice none 0 0] 94)) :=
 ⟨Boxed.new _ _ _, Wb.start h ((Below.refl _ _).alloc (nrQ _) _)⟩
theorem ER.moved {R : Nat} {W1 W W' : World} {t : Int} {a : Option Addr} {n c : Nat} {s s' : Rd} (h : ER R W1 t a n c s W) (hR : R < W1.heap.size) (g : Wb R W W' s') : ER R W1 t a n c s' W' :=
 ⟨h.box.grown g.grown (by simp only [ne_eq, oiQ]; omega), h.wb.trans g⟩
theorem ER.at_ {R : Nat} {W1 W : World} {t : Int} {a : Option Addr} {n c : Nat} {s : Rd} (h : ER R W1 t a n c s W) (hR : R < W1.heap.size) (y : Int) : ER R W1 y a n c s (W.setCell ⟨W1.heap.size, 0, none⟩ (.int .u32 y)) :=
 ⟨h.box.set 0 _, h.wb.row (grown_at _ _ _ _) (fun q hq => by injection hq with hq; omega) hR⟩
theorem ER.facts {R : Nat} {W1 W : World} {t : Int} {a a' : Option Addr} {n c n' c' : Nat} {s : Rd} (h : ER R W1 t a n c s W) (hR : R < W1.heap.size) : ER R W1 t a' n' c' s (W.setCell ⟨W1.heap.size, 1, none⟩ (.slice a' n' c')) :=
 ⟨h.box.set 1 _, h.wb.row (grown_at _ _ _ _) (fun q hq => by injection hq with hq; omega) hR⟩
theorem EsOwn.moved {B R : Nat} {W W' : World} {v : Value} {es : List Et} {s s' : Rd} (h : EsOwn B W v es) (hR : BxL R W s) (g : Wb R W W' s') : EsOwn B W' v es := h.far g.grown (hR.far (by decide)) (hR.far (by decide)) (hR.far (by decide))
theorem EsOwn.push {B : Nat} {W w3 : World} {v v3 : Value} {es : List Et} {e : Et} {o : Obj} {k : Nat} (hk : es.length = k) (h : EsOwn B W v es) (he : EtOwn B W e) (hg : (W.alloc o).grownBy w3 v.ownBlock)
  (hown : w3.ownsRow B 94 2 v3 (k + 1) (es.flatMap entC ++ entC e)) : EsOwn B w3 v3 (es ++ [e]) := by
 subst hk
 have h1 : Far (W.alloc o) v.ownBlock 3 := far_row (World.ownsRow.alloc h.own o) (by decide)
 have h2 : Far (W.alloc o) v.ownBlock 124 := far_row (World.ownsRow.alloc h.own o) (by decide)
 refine ⟨?_, fun x hx => ?_⟩
 ·have e1 : (es ++ [e]).flatMap entC = es.flatMap entC ++ entC e := by simp
  rw [e1]; simpa using hown
 ·rcases List.mem_append.1 hx with hx | hx
  ·exact (EtOwn.far (h.all x hx) (World.grownBy_alloc _ _ none) (far_none _ _) (far_none _ _)).far hg h1 h2
  ·simp only [List.mem_singleton] at hx
   subst hx
   exact (EtOwn.far he (World.grownBy_alloc _ _ none) (far_none _ _) (far_none _ _)).far hg h1 h2

theorem ents_rd (R B : Nat) (w : World) (s : Rd) (hB : B ≤ w.heap.size) (hR : BxL R w s) (hl : s.1.length ≤ 60000) :
  Calls Tryz.prog 79 #[.pointer (some ⟨R, 0, none⟩)] w fun e w' => ∃ v, e = .returned v ∧ EsRes B (rdEnts s).1 v w' ∧ Wb R w w' (rdEnts s).2 := by
 obtain ⟨j0, hj, hy0, hy1, hy2⟩ := info_parts info_ent
 have hRlt := hR.lt
 have hM := many_any R 4 8 w s hR (by omega) (by omega) (by omega) (by omega) hl
 have h2 := rdMany_len 4 8 s
 have h3 := rdMany_le 4 8 s
 unfold rdEnts
 generalize rdMany 4 8 s = g at hM h2 h3 ⊢
 obtain ⟨n, s1⟩ := g
 simp only at hM h2 h3 ⊢
 have hn6 : n ≤ 60000 := by omega
 have H : Aside (B ≤ w.heap.size ∧ s1.1.length ≤ 60000) := ⟨hB, by omega⟩
 clear hB hR h2 h3 hl
 go_enter Tryz.func79, Tryz.ntmps79
 go_wp2_with (go_at_call 78; refine hM.mono ?_; rintro e w1 ⟨rfl, hW1⟩; refine Hid.out ?_)
 refine hid ?_
 have HW1 : Aside (Wb R w w1 s1) := hW1
 clear hM hW1
 go_wp2_with fail
 go_loopg [3, 5] n (fun g1 vv vi wr => ∃ (k : Nat) (av : Option Addr) (cv : Nat), vv = .slice av k cv ∧ vi = .int .i64 k ∧ k ≤ n ∧ n - k ≤ g1 ∧ Aside (∃ (es : List Et) (sk : Rd), EsOwn w.heap.size wr (.slice av k cv) es ∧ es.length = k ∧ Wb R w wr sk ∧ sk.1.length ≤ 60000 ∧ rdWhile rdEnt n s1 = (es.map pe ++ (rdWhile rdEnt (n - k) sk).1, (rdWhile rdEnt (n - k) sk).2)))
 case atStart => exact ⟨0, none, 0, rfl, rfl, Nat.zero_le _, nrQ _, [], s1, es_nil _ _, rfl, HW1.out, H.out.2, by simp⟩
 case round =>
  obtain ⟨k, av, cv, rfl, rfl, hk, hgk, SK⟩ := hrel
  by_cases hlt : k < n
  ·have hltz : (k : Int) < (n : Int) := by omega
   obtain ⟨es, sk, hx1, hx2, hx4, hx5, hx6⟩ := SK.out
   obtain ⟨aR, nR, cR, hBx⟩ := hx4.rdr
   have c1 := hBx.cell1
   clear hBx
   by_cases hbad : sk.2 = true
   ·rw [hbad] at c1
    have S3 : Aside (∃ (es : List Et) (sk : Rd), EsOwn w.heap.size wr (.slice av k cv) es ∧ Wb R w wr sk ∧ rdWhile rdEnt n s1 = (es.map pe, sk)) := ⟨es, sk, hx1, hx4, rdWhile_stop hx6 (.inl hbad)⟩
    clear SK hx1 hx2 hx4 hx5 hx6 hbad
    go_wp2
    go_ret
    obtain ⟨es, sk, a1, a2, a3⟩ := S3.out
    rw [a3]
    exact ⟨_, rfl, ⟨es, a1.mono H.out.1, rfl⟩, a2⟩
   have hbad2 : sk.2 = false := by simpa using hbad
   rw [hbad2] at c1
   obtain ⟨jj, hjj⟩ : ∃ jj, n - k = jj + 1 := ⟨n - k - 1, by omega⟩
   rw [hjj] at hx6
   have hx7 := rdWhile_step hx6 hbad2
   have hflen := rdEnt_len sk
   obtain ⟨sf, hsf⟩ : ∃ sf, (rdEnt sk).2 = sf := ⟨_, rfl⟩
   obtain ⟨yf, hyf⟩ : ∃ yf, (rdEnt sk).1 = yf := ⟨_, rfl⟩
   rw [hsf, hyf] at hx7
   rw [hsf] at hflen
   generalize hWr : wr = W1 at *
   clear hWr
   have hsz : w.heap.size ≤ W1.heap.size := hx4.grown.size
   have hR1 : R < W1.heap.size := by omega
   have FcS := ER.start hx4.rdr
   have HK : Aside (EsOwn w.heap.size W1 (.slice av k cv) es ∧ es.length = k ∧ Wb R w W1 sk ∧ sf.1.length ≤ 60000 ∧ rdWhile rdEnt n s1 = ((es.map pe ++ [yf]) ++ (rdWhile rdEnt jj sf).1, (rdWhile rdEnt jj sf).2) ∧ n - k = jj + 1) := ⟨hx1, hx2, hx4, by omega, hx7, hjj⟩
   unfold rdEnt rdInt at hsf hyf
   have hG := get_any R 4 _ sk FcS.wb.rdr (by omega) (by omega)
   have hg1 := rdGet_len 4 sk
   have hg2 := rdGet_lt4 sk (k := 4) (by omega)
   generalize rdGet 4 sk = gm at hG hg1 hg2 hsf hyf
   obtain ⟨x, sg⟩ := gm
   simp only at hG hg1 hg2 hsf hyf
   have hxw : (x : Int) % 4294967296 = (x : Int) := by omega
   have hxu : Aside (U32 (x : Int)) := by show U32 _; unfold U32; omega
   have HF : Aside (((x : Int), (rdFacts sg).1) = yf ∧ (rdFacts sg).2 = sf ∧ sg.1.length ≤ 60000) := ⟨hyf, hsf, by omega⟩
   have HFS : Aside (ER R W1 0 none 0 0 sk (W1.alloc (.cells #[.int .u32 0, .slice none 0 0] 94))) := FcS
   clear SK hx1 hx2 hx4 hx5 hx6 hx7 hbad hbad2 hjj hflen hsf hyf FcS hg1
   go_wp2_with (go_at_call 75; refine hG.mono ?_; rintro e w2 ⟨rfl, hW2⟩; refine Hid.out ?_)
   refine hid ?_
   have hF2 := HFS.out.moved hR1 hW2
   have q0 := hF2.box.cell (j := 0) rfl
   have z0 := hF2.box.frz 0
   have HF3 : Aside (ER R W1 (x : Int) none 0 0 sg (w2.setCell ⟨W1.heap.size, 0, none⟩ (.int .u32 (x : Int)))) := hF2.at_ hR1 x
   clear hG hW2 hF2 HFS
   go_upto_region 8 with fail
   generalize w2.setCell ⟨W1.heap.size, 0, none⟩ (.int .u32 (x : Int)) = w3 at HF3 ⊢
   clear q0 z0 hxw
   have hC := facts_rd R w.heap.size w3 sg (ntQ hsz HF3.out.wb.grown.size) HF3.out.wb.rdr HF.out.2.2
   go_wp2_with (go_at_call 77; refine hC.mono ?_; rintro e w4 ⟨vf, rfl, hfr, hW4⟩; refine Hid.out ?_)
   refine hid ?_
   obtain ⟨os, ho1, ho2⟩ := hfr
   obtain ⟨af, cf, hvf⟩ := fs_form ho1
   subst hvf
   obtain ⟨on, hon⟩ : ∃ on, os.length = on := ⟨_, rfl⟩
   rw [hon] at ho1 ⊢
   have hF4 := HF3.out.moved hR1 hW4
   have q1 := hF4.box.cell (j := 1) rfl
   have z1 := hF4.box.frz 1
   have hF5 := hF4.facts (a' := af) (n' := on) (c' := cf) hR1
   have HF5 : Aside (ER R W1 (x : Int) af on cf (rdFacts sg).2 (w4.setCell ⟨W1.heap.size, 1, none⟩ (.slice af on cf)) ∧ FsOwn w.heap.size (w4.setCell ⟨W1.heap.size, 1, none⟩ (.slice af on cf)) (.slice af on cf) os ∧ os.map pf = (rdFacts sg).1 ∧ os.length = on) := ⟨hF5, ho1.far (grown_at _ _ _ _) (hF4.box.far (by decide)) (hF4.box.far (by decide)), ho2, hon⟩
   have HE5 : Aside (EsOwn w.heap.size (w4.setCell ⟨W1.heap.size, 1, none⟩ (.slice af on cf)) (.slice av k cv) es) := by
    have h1 := HK.out.1.moved HK.out.2.2.1.rdr hF4.wb
    have hne : some W1.heap.size ≠ (Value.slice av k cv).ownBlock := fun e => by have := (World.ownsRow.lt HK.out.1.own _ e.symm).2; omega
    refine ⟨h1.own.kept (grown_at _ _ _ _) (Or.inr fun e => hne e.symm), fun e he => (h1.all e he).far (grown_at _ _ _ _) (hF4.box.far (by decide)) (hF4.box.far (by decide))⟩
   clear hC hW4 hF4 hF5 ho1 ho2 hon HF3
   go_upto_region 9 with fail
   generalize w4.setCell ⟨W1.heap.size, 1, none⟩ (.slice af on cf) = w5 at HF5 HE5 ⊢
   clear q1 z1
   have q0 := HF5.out.1.box.cell (j := 0) rfl
   have q1 := HF5.out.1.box.cell (j := 1) rfl
   have hbz : w.heap.size ≤ w5.heap.size := ntQ hsz HF5.out.1.wb.grown.size
   have hown2 : w5.ownsRow w.heap.size 94 2 (.slice av k cv) k (es.flatMap entC) := by have h := HE5.out.own; rw [HK.out.2.1] at h; exact h
   go_wp2_with (at_builtin; refine wpList_append_lies _ rfl _ _ 44 rfl w.heap.size 94 j0 _ 2 32 Tryz.underlying44 hj hy0 hy1 hy2 rfl (by decide) _ k _ rfl (hown2.alloc _) ⟨w5.heap.size, 0, none⟩ 1 1 [Value.int .u32 x, Value.slice af on cf] rfl rfl (cells_two_new _ _ _ _) (by intro u hu; simp at hu; first | (rcases hu with rfl | rfl <;> rfl) | (subst hu; rfl)) (by omega) (by unfold maxLen; omega) (by omega) (by simp; omega) (w5.heap.size + 1) (by simp) ?_; intro g3 c3 w6 hown3 hgrow hat hglt)
   have S3 : Aside (∃ (es : List Et) (sk : Rd), EsOwn w.heap.size w6 (.slice (some ⟨g3, 0, none⟩) (k + 1) c3) es ∧ es.length = k + 1 ∧ Wb R w w6 sk ∧ sk.1.length ≤ 60000 ∧ rdWhile rdEnt n s1 = (es.map pe ++ (rdWhile rdEnt (n - (k + 1)) sk).1, (rdWhile rdEnt (n - (k + 1)) sk).2)) := by
    refine ⟨es ++ [⟨(x : Int), af, cf, os⟩], sf, HE5.out.push (e := ⟨(x : Int), af, cf, os⟩) HK.out.2.1 ⟨by show FsOwn _ _ (.slice af os.length cf) os; rw [HF5.out.2.2.2]; exact HF5.out.2.1, hxu.out⟩ hgrow ?_, by simp [HK.out.2.1], ?_, HK.out.2.2.2.1, ?_⟩
    ·show w6.ownsRow w.heap.size 94 2 _ (k + 1) (es.flatMap entC ++ [.int .u32 (x : Int), .slice af os.length cf])
     rw [HF5.out.2.2.2]; exact hown3
    ·have h := HK.out.2.2.1.trans HF5.out.1.wb
     rw [HF.out.2.1] at h
     exact (h.below (by (repeat (first | with_reducible exact Below.refl _ _ | (with_reducible refine Below.drew ?_) | (with_reducible refine Below.alloc ?_ (by first | omega | (simp; done) | (simp; omega)) _) | (with_reducible refine Below.setCell ?_ (by first | exact nrQ _ | omega | (simp; done) | (simp; omega)) _)))) hRlt).row hgrow (fun q hq => (World.ownsRow.lt hown2 _ hq).1) hRlt
    ·rw [show n - (k + 1) = jj by have := HK.out.2.2.2.2.2; omega, HK.out.2.2.2.2.1, ← HF.out.1, ← HF5.out.2.2.1]
     simp [pe]
   clear hown3 hgrow hat hglt hown2 q0 q1
   go_wp2
   go_roundg (n - (k + 1))
   case measure => omega
   case rel => exact ⟨k + 1, _, _, rfl, by go_num, by omega, by omega, S3⟩
  ·have hltz : ¬ (k : Int) < (n : Int) := by omega
   have S3 : Aside (∃ (es : List Et) (sk : Rd), EsOwn w.heap.size wr (.slice av k cv) es ∧ Wb R w wr sk ∧ rdWhile rdEnt n s1 = (es.map pe, sk)) := by
    obtain ⟨es, sk, a1, a2, a3, a4, a5⟩ := SK.out
    exact ⟨es, sk, a1, a3, rdWhile_stop a5 (.inr (by omega))⟩
   clear SK
   go_wp2
   go_ret
   obtain ⟨es, sk, a1, a2, a3⟩ := S3.out
   rw [a3]
   exact ⟨_, rfl, ⟨es, a1.mono H.out.1, rfl⟩, a2⟩
theorem rdInt_get {k : Nat} {s s' : Rd} {y : Int} (h : rdInt k s = (y, s')) : ((rdGet k s).1 : Int) = y ∧ (rdGet k s).2 = s' := by
 unfold rdInt at h
 exact ⟨congrArg Prod.fst h, congrArg Prod.snd h⟩
theorem int_rd (R k : Nat) (w : World) (s : Rd) (h : BxL R w s) (h1 : 1 ≤ k) (h8 : k ≤ 8) {y : Int} {s' : Rd} (hq : rdInt k s = (y, s')) :
  Calls Tryz.prog 75 #[.pointer (some ⟨R, 0, none⟩), .int .i64 k] w fun e w' => e = .returned (.int .u64 y) ∧ Wb R w w' s' := by
 obtain ⟨e1, e2⟩ := rdInt_get hq
 rw [← e1, ← e2]
 exact get_any R k w s h h1 h8
theorem rd_u32 {k : Nat} {s s' : Rd} {y : Int} (h : rdInt k s = (y, s')) (h4 : k ≤ 4) : U32 y := by
 obtain ⟨e1, e2⟩ := rdInt_get h
 have := rdGet_lt4 s h4
 unfold U32; omega
theorem rd_u8 {s s' : Rd} {y : Int} (h : rdInt 1 s = (y, s')) : 0 ≤ y ∧ y ≤ 255 := by
 obtain ⟨e1, e2⟩ := rdInt_get h
 have h2 : (rdGet 1 s).1 < 256 := by
  unfold rdGet
  split
  ·simp
  ·have h2 := valB_lt (s.1.take 1)
   have h3 : 256 ^ (s.1.take 1).length ≤ 256 ^ 1 := Nat.pow_le_pow_right (by omega) (by rw [List.length_take]; omega)
   simp only; omega
 omega
theorem rd_len {k : Nat} {s s' : Rd} {y : Int} (h : rdInt k s = (y, s')) : s'.1.length ≤ s.1.length := by
 obtain ⟨e1, e2⟩ := rdInt_get h
 rw [← e2]
 exact rdGet_len k s
theorem rdNodes_len (s : Rd) : (rdNodes s).2.1.length ≤ s.1.length := ntQ (rdTimes_len (p := rdInt 1) (fun s => rdGet_len 1 s) _ _) (rdMany_len 1 1 s)
theorem i64_u32 {y : Int} (h : U32 y) : I64 y := by unfold U32 at h; unfold I64; omega
theorem w64_u32 {y : Int} (h : U32 y) : wrap64 y = y := by unfold U32 at h; unfold wrap64; omega
theorem mod_u32 {y : Int} (h : U32 y) : y % 4294967296 = y := by unfold U32 at h; omega
theorem mod_u8 {y : Int} (h : 0 ≤ y ∧ y ≤ 255) : y % 256 = y := by omega
def RcRes (B : Nat) (y : PRec) (v : Value) (W : World) : Prop := ∃ r, v = rcV r ∧ pr r = y ∧ RcOwn B W r
structure XR (R : Nat) (w : World) (r : Rc) (s : Rd) (W : World) : Prop where
 zx : Boxed W w.heap.size #[.int .u8 0, .int .u32 0, .int .u32 0, .slice none 0 0, .slice none 0 0, .int .u32 0, .slice none 0 0, .int .i64 0, .int .i64 0, .slice none 0 0] 46
 bx : Boxed W (w.heap.size + 1) (rcC r) 46
 own : RcOwn w.heap.size W r
 wb : Wb R w W s
theorem XR.start {R : Nat} {w : World} {s : Rd} (h : BxL R w s) : XR R w ⟨0, 0, 0, none, 0, [], none, 0, [], 0, none, 0, [], 0, 0, none, 0, []⟩ s ((w.alloc (.cells #[.int .u8 0, .int .u32 0, .int .u32 0, .slice none 0 0, .slice none 0 0, .int .u32 0, .slice none 0 0, .int .i64 0, .int .i64 0, .slice none 0 0] 46)).alloc (.cells #[.int .u8 0, .int .u32 0, .int .u32 0, .slice none 0 0, .slice none 0 0, .int .u32 0, .slice none 0 0, .int .i64 0, .int .i64 0, .slice none 0 0] 46)) :=
 ⟨(Boxed.new w _ _).below ((Below.refl _ _).alloc (nrQ _) _), (by show Boxed _ _ #[.int .u8 0, .int .u32 0, .int .u32 0, .slice none 0 0, .slice none 0 0, .int .u32 0, .slice none 0 0, .int .i64 0, .int .i64 0, .slice none 0 0] _; have := Boxed.new (w.alloc (.cells #[.int .u8 0, .int .u32 0, .int .u32 0, .slice none 0 0, .slice none 0 0, .int .u32 0, .slice none 0 0, .int .i64 0, .int .i64 0, .slice none 0 0] 46)) #[.int .u8 0, .int .u32 0, .int .u32 0, .slice none 0 0, .slice none 0 0, .int .u32 0, .slice none 0 0, .int .i64 0, .int .i64 0, .slice none 0 0] 46; simpa using this), ⟨by simp, u32_nought, u32_nought, ns_nil _ _, fs_nil _ _, u32_nought, ss_nil _ _, i64_nought, i64_nought, es_nil _ _⟩, Wb.start h (by (repeat (first | with_reducible exact Below.refl _ _ | (with_reducible refine Below.drew ?_) | (with_reducible refine Below.alloc ?_ (by first | omega | (simp; done) | (simp; omega)) _) | (with_reducible refine Below.setCell ?_ (by first | exact nrQ _ | omega | (simp; done) | (simp; omega)) _))))⟩
theorem XR.moved {R : Nat} {w W W' : World} {r : Rc} {s s' : Rd} (h : XR R w r s W) (hR : R < w.heap.size) (g : Wb R W W' s') : XR R w r s' W' :=
 ⟨h.zx.grown g.grown (by simp only [ne_eq, oiQ]; omega), h.bx.grown g.grown (by simp only [ne_eq, oiQ]; omega), h.own.far g.grown (h.wb.rdr.far (by decide)) (h.wb.rdr.far (by decide)) (h.wb.rdr.far (by decide)) (h.wb.rdr.far (by decide)), h.wb.trans g⟩
theorem XR.far {R : Nat} {w W : World} {r : Rc} {s : Rd} (h : XR R w r s W) (j : Nat) (v : Value) : RcOwn w.heap.size (W.setCell ⟨w.heap.size + 1, j, none⟩ v) r :=
 h.own.far (grown_at _ _ _ _) (h.bx.far (by decide)) (h.bx.far (by decide)) (h.bx.far (by decide)) (h.bx.far (by decide))
theorem XR.set {R : Nat} {w W : World} {r r' : Rc} {s : Rd} (h : XR R w r s W) (hR : R < w.heap.size) (j : Nat) (v : Value) (hc : (rcC r).setIfInBounds j v = rcC r') (ho : RcOwn w.heap.size (W.setCell ⟨w.heap.size + 1, j, none⟩ v) r') : XR R w r' s (W.setCell ⟨w.heap.size + 1, j, none⟩ v) :=
 ⟨h.zx.grown (grown_at _ _ _ _) (by simp only [ne_eq, oiQ]; omega), by have := h.bx.set j v; rw [hc] at this; exact this, ho, h.wb.row (grown_at _ _ _ _) (fun q hq => by injection hq with hq; omega) hR⟩
theorem XR.fin {R B : Nat} {w W W' : World} {r : Rc} {s : Rd} {y : PRec} (h : XR R w r s W) (hR : R < w.heap.size) (hB : B ≤ w.heap.size) (hy : pr r = y) (hG : W.grownBy W' (some w.heap.size)) : RcRes B y (rcV r) W' ∧ Wb R w W' s := by
 have o := h.own.far hG (h.zx.far (by decide)) (h.zx.far (by decide)) (h.zx.far (by decide)) (h.zx.far (by decide))
 refine ⟨⟨r, rfl, hy, ⟨o.kind, o.id, o.at_, ⟨own_mono o.nodes.own hB, o.nodes.all⟩, o.facts.mono hB, o.epoch, ⟨own_mono o.spans.own hB, o.spans.all⟩, o.frm, o.til, o.ents.mono hB⟩⟩, h.wb.row hG (fun q hq => by injection hq with hq; omega) hR⟩

theorem rec_0 (R B : Nat) (w : World) (s : Rd) (hB : B ≤ w.heap.size) (hR : BxL R w s) (hl : s.1.length ≤ 60000) {y1 : Int} {s1 : Rd} (hq1 : rdInt 1 s = (y1, s1)) {y2 : Int} {s2 : Rd} (hq2 : rdInt 4 s1 = (y2, s2)) (k1 : (y1 == 1) = false) (k2 : (y1 == 2) = false) (k6 : (y1 == 6) = false) (k7 : (y1 == 7) = false) :
  Calls Tryz.prog 52 #[.pointer (some ⟨R, 0, none⟩)] w fun e w' => ∃ v, e = .returned v ∧ RcRes B (rdRec s).1 v w' ∧ Wb R w w' (rdRec s).2 := by
 have hRlt := hR.lt
 have hX := XR.start hR
 have HB : Aside (B ≤ w.heap.size) := hB
 clear hB hR
 have L1 : Aside (s1.1.length ≤ 60000) := ntQ (rd_len hq1) hl
 have L2 : Aside (s2.1.length ≤ 60000) := ntQ (rd_len hq2) L1.out
 have U2 : Aside (U32 y2) := rd_u32 hq2 (by omega)
 have m2 := mod_u32 U2.out
 have Q1 : Hid (_ = _) := hq1
 have Q2 : Hid (_ = _) := hq2
 have U1 : Aside (0 ≤ y1 ∧ y1 ≤ 255) := rd_u8 hq1
 have m1 := mod_u8 U1.out
 have e1 : Hid (¬ y1 = 1) := by show ¬ _; simpa using k1
 have e2 : Hid (¬ y1 = 2) := by show ¬ _; simpa using k2
 have e6 : Hid (¬ y1 = 6) := by show ¬ _; simpa using k6
 have e7 : Hid (¬ y1 = 7) := by show ¬ _; simpa using k7
 have hC := int_rd R 1 _ s hX.wb.rdr (by omega) (by omega) hq1
 have HX0 : Aside (XR R w ⟨0, 0, 0, none, 0, [], none, 0, [], 0, none, 0, [], 0, 0, none, 0, []⟩ s ((w.alloc (.cells #[.int .u8 0, .int .u32 0, .int .u32 0, .slice none 0 0, .slice none 0 0, .int .u32 0, .slice none 0 0, .int .i64 0, .int .i64 0, .slice none 0 0] 46)).alloc (.cells #[.int .u8 0, .int .u32 0, .int .u32 0, .slice none 0 0, .slice none 0 0, .int .u32 0, .slice none 0 0, .int .i64 0, .int .i64 0, .slice none 0 0] 46))) := hX
 clear hX
 go_enter Tryz.func52, Tryz.ntmps52
 go_wp2_with (go_at_call 75; refine hC.mono ?_; rintro e w1 ⟨rfl, g1⟩; refine Hid.out ?_)
 refine hid ?_
 have hM := HX0.out.moved hRlt g1
 have cj : w1.cell? ⟨w.heap.size + 1, 0, none⟩ = some (.int .u8 0) := hM.bx.cell (j := 0) rfl
 have zj := hM.bx.frz 0
 have o := hM.far 0 (.int .u8 y1)
 have HX1 : Aside (XR R w ⟨y1, 0, 0, none, 0, [], none, 0, [], 0, none, 0, [], 0, 0, none, 0, []⟩ s1 (w1.setCell ⟨w.heap.size + 1, 0, none⟩ (.int .u8 y1))) := hM.set hRlt 0 (.int .u8 y1) (by first | rfl | simp [rcC]) ⟨U1.out, o.id, o.at_, o.nodes, o.facts, o.epoch, o.spans, o.frm, o.til, o.ents⟩
 clear hM o hC g1 HX0
 go_upto_region 3 with fail
 generalize w1.setCell ⟨w.heap.size + 1, 0, none⟩ (.int .u8 y1) = u1 at HX1 ⊢
 clear cj zj
 have hC := int_rd R 4 u1 s1 HX1.out.wb.rdr (by omega) (by omega) hq2
 go_wp2_with (go_at_call 75; refine hC.mono ?_; rintro e w2 ⟨rfl, g2⟩; refine Hid.out ?_)
 refine hid ?_
 have hM := HX1.out.moved hRlt g2
 have cj : w2.cell? ⟨w.heap.size + 1, 1, none⟩ = some (.int .u32 0) := hM.bx.cell (j := 1) rfl
 have zj := hM.bx.frz 1
 have o := hM.far 1 (.int .u32 y2)
 have HX2 : Aside (XR R w ⟨y1, y2, 0, none, 0, [], none, 0, [], 0, none, 0, [], 0, 0, none, 0, []⟩ s2 (w2.setCell ⟨w.heap.size + 1, 1, none⟩ (.int .u32 y2))) := hM.set hRlt 1 (.int .u32 y2) (by first | rfl | simp [rcC]) ⟨o.kind, U2.out, o.at_, o.nodes, o.facts, o.epoch, o.spans, o.frm, o.til, o.ents⟩
 clear hM o hC g2 HX1
 go_upto_region 4 with fail
 generalize w2.setCell ⟨w.heap.size + 1, 1, none⟩ (.int .u32 y2) = u2 at HX2 ⊢
 clear cj zj
 have ck : u2.cell? ⟨w.heap.size + 1, 0, none⟩ = some (.int .u8 y1) := HX2.out.bx.cell (j := 0) rfl
 have E : Hid (rdRec s = (pr ⟨y1, y2, 0, none, 0, [], none, 0, [], 0, none, 0, [], 0, 0, none, 0, []⟩, s2)) := by show _ = _; simp [rdRec, Q1.out, Q2.out, e1.out, e2.out, e6.out, e7.out, pr]
 have HF : Aside (∀ W, u2.grownBy W (some w.heap.size) → RcRes B (rdRec s).1 (.agg #[.int .u8 y1, .int .u32 y2, .int .u32 0, .slice none 0 0, .slice none 0 0, .int .u32 0, .slice none 0 0, .int .i64 0, .int .i64 0, .slice none 0 0]) W ∧ Wb R w W (rdRec s).2) := fun W hG => by
  rw [E.out]
  exact HX2.out.fin hRlt HB.out rfl hG
 have cr0 : u2.cell? ⟨w.heap.size + 1, 0, none⟩ = some (.int .u8 y1) := HX2.out.bx.cell (j := 0) rfl
 have cx0 := HX2.out.zx.cell (j := 0) rfl
 have zx0 := HX2.out.zx.frz 0
 have cr1 : u2.cell? ⟨w.heap.size + 1, 1, none⟩ = some (.int .u32 y2) := HX2.out.bx.cell (j := 1) rfl
 have cx1 := HX2.out.zx.cell (j := 1) rfl
 have zx1 := HX2.out.zx.frz 1
 have cr2 : u2.cell? ⟨w.heap.size + 1, 2, none⟩ = some (.int .u32 0) := HX2.out.bx.cell (j := 2) rfl
 have cx2 := HX2.out.zx.cell (j := 2) rfl
 have zx2 := HX2.out.zx.frz 2
 have cr3 : u2.cell? ⟨w.heap.size + 1, 3, none⟩ = some (.slice none 0 0) := HX2.out.bx.cell (j := 3) rfl
 have cx3 := HX2.out.zx.cell (j := 3) rfl
 have zx3 := HX2.out.zx.frz 3
 have cr4 : u2.cell? ⟨w.heap.size + 1, 4, none⟩ = some (.slice none 0 0) := HX2.out.bx.cell (j := 4) rfl
 have cx4 := HX2.out.zx.cell (j := 4) rfl
 have zx4 := HX2.out.zx.frz 4
 have cr5 : u2.cell? ⟨w.heap.size + 1, 5, none⟩ = some (.int .u32 0) := HX2.out.bx.cell (j := 5) rfl
 have cx5 := HX2.out.zx.cell (j := 5) rfl
 have zx5 := HX2.out.zx.frz 5
 have cr6 : u2.cell? ⟨w.heap.size + 1, 6, none⟩ = some (.slice none 0 0) := HX2.out.bx.cell (j := 6) rfl
 have cx6 := HX2.out.zx.cell (j := 6) rfl
 have zx6 := HX2.out.zx.frz 6
 have cr7 : u2.cell? ⟨w.heap.size + 1, 7, none⟩ = some (.int .i64 0) := HX2.out.bx.cell (j := 7) rfl
 have cx7 := HX2.out.zx.cell (j := 7) rfl
 have zx7 := HX2.out.zx.frz 7
 have cr8 : u2.cell? ⟨w.heap.size + 1, 8, none⟩ = some (.int .i64 0) := HX2.out.bx.cell (j := 8) rfl
 have cx8 := HX2.out.zx.cell (j := 8) rfl
 have zx8 := HX2.out.zx.frz 8
 have cr9 : u2.cell? ⟨w.heap.size + 1, 9, none⟩ = some (.slice none 0 0) := HX2.out.bx.cell (j := 9) rfl
 have cx9 := HX2.out.zx.cell (j := 9) rfl
 have zx9 := HX2.out.zx.frz 9
 clear HX2 E
 go_wp2
 refine bodyPost_ret (v := .agg #[.int .u8 y1, .int .u32 y2, .int .u32 0, .slice none 0 0, .slice none 0 0, .int .u32 0, .slice none 0 0, .int .i64 0, .int .i64 0, .slice none 0 0]) (by simp [results, Tryz.results52, go_sem, *]) rfl ?_
 refine ⟨_, rfl, HF.out _ ?_⟩
 iterate 9 (refine grown_trans ?_ (grown_at _ _ _ _))
 exact grown_at _ _ _ _
theorem rec_1 (R B : Nat) (w : World) (s : Rd) (hB : B ≤ w.heap.size) (hR : BxL R w s) (hl : s.1.length ≤ 60000) {s1 : Rd} (hq1 : rdInt 1 s = (1, s1)) {y2 : Int} {s2 : Rd} (hq2 : rdInt 4 s1 = (y2, s2)) :
  Calls Tryz.prog 52 #[.pointer (some ⟨R, 0, none⟩)] w fun e w' => ∃ v, e = .returned v ∧ RcRes B (rdRec s).1 v w' ∧ Wb R w w' (rdRec s).2 := by
 have hRlt := hR.lt
 have hX := XR.start hR
 have HB : Aside (B ≤ w.heap.size) := hB
 clear hB hR
 have L1 : Aside (s1.1.length ≤ 60000) := ntQ (rd_len hq1) hl
 have L2 : Aside (s2.1.length ≤ 60000) := ntQ (rd_len hq2) L1.out
 have U2 : Aside (U32 y2) := rd_u32 hq2 (by omega)
 have m2 := mod_u32 U2.out
 have Q1 : Hid (_ = _) := hq1
 have Q2 : Hid (_ = _) := hq2
 have hC := int_rd R 1 _ s hX.wb.rdr (by omega) (by omega) hq1
 have HX0 : Aside (XR R w ⟨0, 0, 0, none, 0, [], none, 0, [], 0, none, 0, [], 0, 0, none, 0, []⟩ s ((w.alloc (.cells #[.int .u8 0, .int .u32 0, .int .u32 0, .slice none 0 0, .slice none 0 0, .int .u32 0, .slice none 0 0, .int .i64 0, .int .i64 0, .slice none 0 0] 46)).alloc (.cells #[.int .u8 0, .int .u32 0, .int .u32 0, .slice none 0 0, .slice none 0 0, .int .u32 0, .slice none 0 0, .int .i64 0, .int .i64 0, .slice none 0 0] 46))) := hX
 clear hX
 go_enter Tryz.func52, Tryz.ntmps52
 go_wp2_with (go_at_call 75; refine hC.mono ?_; rintro e w1 ⟨rfl, g1⟩; refine Hid.out ?_)
 refine hid ?_
 have hM := HX0.out.moved hRlt g1
 have cj : w1.cell? ⟨w.heap.size + 1, 0, none⟩ = some (.int .u8 0) := hM.bx.cell (j := 0) rfl
 have zj := hM.bx.frz 0
 have o := hM.far 0 (.int .u8 1)
 have HX1 : Aside (XR R w ⟨1, 0, 0, none, 0, [], none, 0, [], 0, none, 0, [], 0, 0, none, 0, []⟩ s1 (w1.setCell ⟨w.heap.size + 1, 0, none⟩ (.int .u8 1))) := hM.set hRlt 0 (.int .u8 1) (by first | rfl | simp [rcC]) ⟨by simp, o.id, o.at_, o.nodes, o.facts, o.epoch, o.spans, o.frm, o.til, o.ents⟩
 clear hM o hC g1 HX0
 go_upto_region 3 with fail
 generalize w1.setCell ⟨w.heap.size + 1, 0, none⟩ (.int .u8 1) = u1 at HX1 ⊢
 clear cj zj
 have hC := int_rd R 4 u1 s1 HX1.out.wb.rdr (by omega) (by omega) hq2
 go_wp2_with (go_at_call 75; refine hC.mono ?_; rintro e w2 ⟨rfl, g2⟩; refine Hid.out ?_)
 refine hid ?_
 have hM := HX1.out.moved hRlt g2
 have cj : w2.cell? ⟨w.heap.size + 1, 1, none⟩ = some (.int .u32 0) := hM.bx.cell (j := 1) rfl
 have zj := hM.bx.frz 1
 have o := hM.far 1 (.int .u32 y2)
 have HX2 : Aside (XR R w ⟨1, y2, 0, none, 0, [], none, 0, [], 0, none, 0, [], 0, 0, none, 0, []⟩ s2 (w2.setCell ⟨w.heap.size + 1, 1, none⟩ (.int .u32 y2))) := hM.set hRlt 1 (.int .u32 y2) (by first | rfl | simp [rcC]) ⟨o.kind, U2.out, o.at_, o.nodes, o.facts, o.epoch, o.spans, o.frm, o.til, o.ents⟩
 clear hM o hC g2 HX1
 go_upto_region 4 with fail
 generalize w2.setCell ⟨w.heap.size + 1, 1, none⟩ (.int .u32 y2) = u2 at HX2 ⊢
 clear cj zj
 have ck : u2.cell? ⟨w.heap.size + 1, 0, none⟩ = some (.int .u8 1) := HX2.out.bx.cell (j := 0) rfl
 have hC := nodes_rd R w.heap.size u2 s2 HX2.out.wb.grown.size HX2.out.wb.rdr L2.out
 go_wp2_with (go_at_call 76; refine hC.mono ?_; rintro e w3 ⟨v, rfl, hn, g3⟩; refine Hid.out ?_)
 refine hid ?_
 obtain ⟨na, nc, hv⟩ := ns_form hn
 subst hv
 have L3 : Aside ((rdNodes s2).2.1.length ≤ 60000) := ntQ (rdNodes_len s2) L2.out
 have hM := HX2.out.moved hRlt g3
 have cj : w3.cell? ⟨w.heap.size + 1, 3, none⟩ = some (.slice none 0 0) := hM.bx.cell (j := 3) rfl
 have zj := hM.bx.frz 3
 have o := hM.far 3 (.slice na (rdNodes s2).1.length nc)
 have HX3 : Aside (XR R w ⟨1, y2, 0, na, nc, (rdNodes s2).1, none, 0, [], 0, none, 0, [], 0, 0, none, 0, []⟩ (rdNodes s2).2 (w3.setCell ⟨w.heap.size + 1, 3, none⟩ (.slice na (rdNodes s2).1.length nc))) := hM.set hRlt 3 (.slice na (rdNodes s2).1.length nc) (by first | rfl | simp [rcC]) ⟨o.kind, o.id, o.at_, hn.far (grown_at _ _ _ _) (hM.bx.far (by decide)), o.facts, o.epoch, o.spans, o.frm, o.til, o.ents⟩
 clear hM o hC g3 HX2
 go_upto_region 7 with fail
 generalize w3.setCell ⟨w.heap.size + 1, 3, none⟩ (.slice na (rdNodes s2).1.length nc) = u3 at HX3 ⊢
 clear cj zj
 clear hn
 have hC := facts_rd R w.heap.size u3 _ HX3.out.wb.grown.size HX3.out.wb.rdr L3.out
 go_wp2_with (go_at_call 77; refine hC.mono ?_; rintro e w4 ⟨v, rfl, hn, g4⟩; refine Hid.out ?_)
 refine hid ?_
 obtain ⟨os, ho, he⟩ := hn
 obtain ⟨fa, fc, hv⟩ := fs_form ho
 subst hv
 have HE : Hid (os.map pf = (rdFacts (rdNodes s2).2).1) := he
 have hM := HX3.out.moved hRlt g4
 have cj : w4.cell? ⟨w.heap.size + 1, 4, none⟩ = some (.slice none 0 0) := hM.bx.cell (j := 4) rfl
 have zj := hM.bx.frz 4
 have o := hM.far 4 (.slice fa os.length fc)
 have HX4 : Aside (XR R w ⟨1, y2, 0, na, nc, (rdNodes s2).1, fa, fc, os, 0, none, 0, [], 0, 0, none, 0, []⟩ (rdFacts (rdNodes s2).2).2 (w4.setCell ⟨w.heap.size + 1, 4, none⟩ (.slice fa os.length fc))) := hM.set hRlt 4 (.slice fa os.length fc) (by first | rfl | simp [rcC]) ⟨o.kind, o.id, o.at_, o.nodes, ho.far (grown_at _ _ _ _) (hM.bx.far (by decide)) (hM.bx.far (by decide)), o.epoch, o.spans, o.frm, o.til, o.ents⟩
 clear hM o hC g4 HX3
 go_upto_region 25 with fail
 generalize w4.setCell ⟨w.heap.size + 1, 4, none⟩ (.slice fa os.length fc) = u4 at HX4 ⊢
 clear cj zj
 clear ho he
 have E : Hid (rdRec s = (pr ⟨1, y2, 0, na, nc, (rdNodes s2).1, fa, fc, os, 0, none, 0, [], 0, 0, none, 0, []⟩, (rdFacts (rdNodes s2).2).2)) := by show _ = _; simp [rdRec, Q1.out, Q2.out, pr, HE.out]
 have HF : Aside (∀ W, u4.grownBy W (some w.heap.size) → RcRes B (rdRec s).1 (.agg #[.int .u8 1, .int .u32 y2, .int .u32 0, .slice na ((rdNodes s2).1 : List _).length nc, .slice fa (os : List _).length fc, .int .u32 0, .slice none 0 0, .int .i64 0, .int .i64 0, .slice none 0 0]) W ∧ Wb R w W (rdRec s).2) := fun W hG => by
  rw [E.out]
  exact HX4.out.fin hRlt HB.out rfl hG
 have cr0 : u4.cell? ⟨w.heap.size + 1, 0, none⟩ = some (.int .u8 1) := HX4.out.bx.cell (j := 0) rfl
 have cx0 := HX4.out.zx.cell (j := 0) rfl
 have zx0 := HX4.out.zx.frz 0
 have cr1 : u4.cell? ⟨w.heap.size + 1, 1, none⟩ = some (.int .u32 y2) := HX4.out.bx.cell (j := 1) rfl
 have cx1 := HX4.out.zx.cell (j := 1) rfl
 have zx1 := HX4.out.zx.frz 1
 have cr2 : u4.cell? ⟨w.heap.size + 1, 2, none⟩ = some (.int .u32 0) := HX4.out.bx.cell (j := 2) rfl
 have cx2 := HX4.out.zx.cell (j := 2) rfl
 have zx2 := HX4.out.zx.frz 2
 have cr3 : u4.cell? ⟨w.heap.size + 1, 3, none⟩ = some (.slice na ((rdNodes s2).1 : List _).length nc) := HX4.out.bx.cell (j := 3) rfl
 have cx3 := HX4.out.zx.cell (j := 3) rfl
 have zx3 := HX4.out.zx.frz 3
 have cr4 : u4.cell? ⟨w.heap.size + 1, 4, none⟩ = some (.slice fa (os : List _).length fc) := HX4.out.bx.cell (j := 4) rfl
 have cx4 := HX4.out.zx.cell (j := 4) rfl
 have zx4 := HX4.out.zx.frz 4
 have cr5 : u4.cell? ⟨w.heap.size + 1, 5, none⟩ = some (.int .u32 0) := HX4.out.bx.cell (j := 5) rfl
 have cx5 := HX4.out.zx.cell (j := 5) rfl
 have zx5 := HX4.out.zx.frz 5
 have cr6 : u4.cell? ⟨w.heap.size + 1, 6, none⟩ = some (.slice none 0 0) := HX4.out.bx.cell (j := 6) rfl
 have cx6 := HX4.out.zx.cell (j := 6) rfl
 have zx6 := HX4.out.zx.frz 6
 have cr7 : u4.cell? ⟨w.heap.size + 1, 7, none⟩ = some (.int .i64 0) := HX4.out.bx.cell (j := 7) rfl
 have cx7 := HX4.out.zx.cell (j := 7) rfl
 have zx7 := HX4.out.zx.frz 7
 have cr8 : u4.cell? ⟨w.heap.size + 1, 8, none⟩ = some (.int .i64 0) := HX4.out.bx.cell (j := 8) rfl
 have cx8 := HX4.out.zx.cell (j := 8) rfl
 have zx8 := HX4.out.zx.frz 8
 have cr9 : u4.cell? ⟨w.heap.size + 1, 9, none⟩ = some (.slice none 0 0) := HX4.out.bx.cell (j := 9) rfl
 have cx9 := HX4.out.zx.cell (j := 9) rfl
 have zx9 := HX4.out.zx.frz 9
 clear HX4 E
 go_wp2
 refine bodyPost_ret (v := .agg #[.int .u8 1, .int .u32 y2, .int .u32 0, .slice na ((rdNodes s2).1 : List _).length nc, .slice fa (os : List _).length fc, .int .u32 0, .slice none 0 0, .int .i64 0, .int .i64 0, .slice none 0 0]) (by simp [results, Tryz.results52, go_sem, *]) rfl ?_
 refine ⟨_, rfl, HF.out _ ?_⟩
 iterate 9 (refine grown_trans ?_ (grown_at _ _ _ _))
 exact grown_at _ _ _ _
theorem rec_2 (R B : Nat) (w : World) (s : Rd) (hB : B ≤ w.heap.size) (hR : BxL R w s) (hl : s.1.length ≤ 60000) {s1 : Rd} (hq1 : rdInt 1 s = (2, s1)) {y2 : Int} {s2 : Rd} (hq2 : rdInt 4 s1 = (y2, s2)) {y3 : Int} {s3 : Rd} (hq3 : rdInt 4 s2 = (y3, s3)) :
  Calls Tryz.prog 52 #[.pointer (some ⟨R, 0, none⟩)] w fun e w' => ∃ v, e = .returned v ∧ RcRes B (rdRec s).1 v w' ∧ Wb R w w' (rdRec s).2 := by
 have hRlt := hR.lt
 have hX := XR.start hR
 have HB : Aside (B ≤ w.heap.size) := hB
 clear hB hR
 have L1 : Aside (s1.1.length ≤ 60000) := ntQ (rd_len hq1) hl
 have L2 : Aside (s2.1.length ≤ 60000) := ntQ (rd_len hq2) L1.out
 have U2 : Aside (U32 y2) := rd_u32 hq2 (by omega)
 have m2 := mod_u32 U2.out
 have Q1 : Hid (_ = _) := hq1
 have Q2 : Hid (_ = _) := hq2
 have Q3 : Hid (_ = _) := hq3
 have L3 : Aside (s3.1.length ≤ 60000) := ntQ (rd_len hq3) L2.out
 have U3 : Aside (U32 y3) := rd_u32 hq3 (by omega)
 have m3 := mod_u32 U3.out
 have hC := int_rd R 1 _ s hX.wb.rdr (by omega) (by omega) hq1
 have HX0 : Aside (XR R w ⟨0, 0, 0, none, 0, [], none, 0, [], 0, none, 0, [], 0, 0, none, 0, []⟩ s ((w.alloc (.cells #[.int .u8 0, .int .u32 0, .int .u32 0, .slice none 0 0, .slice none 0 0, .int .u32 0, .slice none 0 0, .int .i64 0, .int .i64 0, .slice none 0 0] 46)).alloc (.cells #[.int .u8 0, .int .u32 0, .int .u32 0, .slice none 0 0, .slice none 0 0, .int .u32 0, .slice none 0 0, .int .i64 0, .int .i64 0, .slice none 0 0] 46))) := hX
 clear hX
 go_enter Tryz.func52, Tryz.ntmps52
 go_wp2_with (go_at_call 75; refine hC.mono ?_; rintro e w1 ⟨rfl, g1⟩; refine Hid.out ?_)
 refine hid ?_
 have hM := HX0.out.moved hRlt g1
 have cj : w1.cell? ⟨w.heap.size + 1, 0, none⟩ = some (.int .u8 0) := hM.bx.cell (j := 0) rfl
 have zj := hM.bx.frz 0
 have o := hM.far 0 (.int .u8 2)
 have HX1 : Aside (XR R w ⟨2, 0, 0, none, 0, [], none, 0, [], 0, none, 0, [], 0, 0, none, 0, []⟩ s1 (w1.setCell ⟨w.heap.size + 1, 0, none⟩ (.int .u8 2))) := hM.set hRlt 0 (.int .u8 2) (by first | rfl | simp [rcC]) ⟨by simp, o.id, o.at_, o.nodes, o.facts, o.epoch, o.spans, o.frm, o.til, o.ents⟩
 clear hM o hC g1 HX0
 go_upto_region 3 with fail
 generalize w1.setCell ⟨w.heap.size + 1, 0, none⟩ (.int .u8 2) = u1 at HX1 ⊢
 clear cj zj
 have hC := int_rd R 4 u1 s1 HX1.out.wb.rdr (by omega) (by omega) hq2
 go_wp2_with (go_at_call 75; refine hC.mono ?_; rintro e w2 ⟨rfl, g2⟩; refine Hid.out ?_)
 refine hid ?_
 have hM := HX1.out.moved hRlt g2
 have cj : w2.cell? ⟨w.heap.size + 1, 1, none⟩ = some (.int .u32 0) := hM.bx.cell (j := 1) rfl
 have zj := hM.bx.frz 1
 have o := hM.far 1 (.int .u32 y2)
 have HX2 : Aside (XR R w ⟨2, y2, 0, none, 0, [], none, 0, [], 0, none, 0, [], 0, 0, none, 0, []⟩ s2 (w2.setCell ⟨w.heap.size + 1, 1, none⟩ (.int .u32 y2))) := hM.set hRlt 1 (.int .u32 y2) (by first | rfl | simp [rcC]) ⟨o.kind, U2.out, o.at_, o.nodes, o.facts, o.epoch, o.spans, o.frm, o.til, o.ents⟩
 clear hM o hC g2 HX1
 go_upto_region 4 with fail
 generalize w2.setCell ⟨w.heap.size + 1, 1, none⟩ (.int .u32 y2) = u2 at HX2 ⊢
 clear cj zj
 have ck : u2.cell? ⟨w.heap.size + 1, 0, none⟩ = some (.int .u8 2) := HX2.out.bx.cell (j := 0) rfl
 have hC := int_rd R 4 u2 s2 HX2.out.wb.rdr (by omega) (by omega) hq3
 go_wp2_with (go_at_call 75; refine hC.mono ?_; rintro e w3 ⟨rfl, g3⟩; refine Hid.out ?_)
 refine hid ?_
 have hM := HX2.out.moved hRlt g3
 have cj : w3.cell? ⟨w.heap.size + 1, 2, none⟩ = some (.int .u32 0) := hM.bx.cell (j := 2) rfl
 have zj := hM.bx.frz 2
 have o := hM.far 2 (.int .u32 y3)
 have HX3 : Aside (XR R w ⟨2, y2, y3, none, 0, [], none, 0, [], 0, none, 0, [], 0, 0, none, 0, []⟩ s3 (w3.setCell ⟨w.heap.size + 1, 2, none⟩ (.int .u32 y3))) := hM.set hRlt 2 (.int .u32 y3) (by first | rfl | simp [rcC]) ⟨o.kind, o.id, U3.out, o.nodes, o.facts, o.epoch, o.spans, o.frm, o.til, o.ents⟩
 clear hM o hC g3 HX2
 go_upto_region 10 with fail
 generalize w3.setCell ⟨w.heap.size + 1, 2, none⟩ (.int .u32 y3) = u3 at HX3 ⊢
 clear cj zj
 have hC := nodes_rd R w.heap.size u3 s3 HX3.out.wb.grown.size HX3.out.wb.rdr L3.out
 go_wp2_with (go_at_call 76; refine hC.mono ?_; rintro e w4 ⟨v, rfl, hn, g4⟩; refine Hid.out ?_)
 refine hid ?_
 obtain ⟨na, nc, hv⟩ := ns_form hn
 subst hv
 have hM := HX3.out.moved hRlt g4
 have cj : w4.cell? ⟨w.heap.size + 1, 3, none⟩ = some (.slice none 0 0) := hM.bx.cell (j := 3) rfl
 have zj := hM.bx.frz 3
 have o := hM.far 3 (.slice na (rdNodes s3).1.length nc)
 have HX4 : Aside (XR R w ⟨2, y2, y3, na, nc, (rdNodes s3).1, none, 0, [], 0, none, 0, [], 0, 0, none, 0, []⟩ (rdNodes s3).2 (w4.setCell ⟨w.heap.size + 1, 3, none⟩ (.slice na (rdNodes s3).1.length nc))) := hM.set hRlt 3 (.slice na (rdNodes s3).1.length nc) (by first | rfl | simp [rcC]) ⟨o.kind, o.id, o.at_, hn.far (grown_at _ _ _ _) (hM.bx.far (by decide)), o.facts, o.epoch, o.spans, o.frm, o.til, o.ents⟩
 clear hM o hC g4 HX3
 go_upto_region 25 with fail
 generalize w4.setCell ⟨w.heap.size + 1, 3, none⟩ (.slice na (rdNodes s3).1.length nc) = u4 at HX4 ⊢
 clear cj zj
 clear hn
 have E : Hid (rdRec s = (pr ⟨2, y2, y3, na, nc, (rdNodes s3).1, none, 0, [], 0, none, 0, [], 0, 0, none, 0, []⟩, (rdNodes s3).2)) := by show _ = _; simp [rdRec, Q1.out, Q2.out, Q3.out, pr]
 have HF : Aside (∀ W, u4.grownBy W (some w.heap.size) → RcRes B (rdRec s).1 (.agg #[.int .u8 2, .int .u32 y2, .int .u32 y3, .slice na ((rdNodes s3).1 : List _).length nc, .slice none 0 0, .int .u32 0, .slice none 0 0, .int .i64 0, .int .i64 0, .slice none 0 0]) W ∧ Wb R w W (rdRec s).2) := fun W hG => by
  rw [E.out]
  exact HX4.out.fin hRlt HB.out rfl hG
 have cr0 : u4.cell? ⟨w.heap.size + 1, 0, none⟩ = some (.int .u8 2) := HX4.out.bx.cell (j := 0) rfl
 have cx0 := HX4.out.zx.cell (j := 0) rfl
 have zx0 := HX4.out.zx.frz 0
 have cr1 : u4.cell? ⟨w.heap.size + 1, 1, none⟩ = some (.int .u32 y2) := HX4.out.bx.cell (j := 1) rfl
 have cx1 := HX4.out.zx.cell (j := 1) rfl
 have zx1 := HX4.out.zx.frz 1
 have cr2 : u4.cell? ⟨w.heap.size + 1, 2, none⟩ = some (.int .u32 y3) := HX4.out.bx.cell (j := 2) rfl
 have cx2 := HX4.out.zx.cell (j := 2) rfl
 have zx2 := HX4.out.zx.frz 2
 have cr3 : u4.cell? ⟨w.heap.size + 1, 3, none⟩ = some (.slice na ((rdNodes s3).1 : List _).length nc) := HX4.out.bx.cell (j := 3) rfl
 have cx3 := HX4.out.zx.cell (j := 3) rfl
 have zx3 := HX4.out.zx.frz 3
 have cr4 : u4.cell? ⟨w.heap.size + 1, 4, none⟩ = some (.slice none 0 0) := HX4.out.bx.cell (j := 4) rfl
 have cx4 := HX4.out.zx.cell (j := 4) rfl
 have zx4 := HX4.out.zx.frz 4
 have cr5 : u4.cell? ⟨w.heap.size + 1, 5, none⟩ = some (.int .u32 0) := HX4.out.bx.cell (j := 5) rfl
 have cx5 := HX4.out.zx.cell (j := 5) rfl
 have zx5 := HX4.out.zx.frz 5
 have cr6 : u4.cell? ⟨w.heap.size + 1, 6, none⟩ = some (.slice none 0 0) := HX4.out.bx.cell (j := 6) rfl
 have cx6 := HX4.out.zx.cell (j := 6) rfl
 have zx6 := HX4.out.zx.frz 6
 have cr7 : u4.cell? ⟨w.heap.size + 1, 7, none⟩ = some (.int .i64 0) := HX4.out.bx.cell (j := 7) rfl
 have cx7 := HX4.out.zx.cell (j := 7) rfl
 have zx7 := HX4.out.zx.frz 7
 have cr8 : u4.cell? ⟨w.heap.size + 1, 8, none⟩ = some (.int .i64 0) := HX4.out.bx.cell (j := 8) rfl
 have cx8 := HX4.out.zx.cell (j := 8) rfl
 have zx8 := HX4.out.zx.frz 8
 have cr9 : u4.cell? ⟨w.heap.size + 1, 9, none⟩ = some (.slice none 0 0) := HX4.out.bx.cell (j := 9) rfl
 have cx9 := HX4.out.zx.cell (j := 9) rfl
 have zx9 := HX4.out.zx.frz 9
 clear HX4 E
 go_wp2
 refine bodyPost_ret (v := .agg #[.int .u8 2, .int .u32 y2, .int .u32 y3, .slice na ((rdNodes s3).1 : List _).length nc, .slice none 0 0, .int .u32 0, .slice none 0 0, .int .i64 0, .int .i64 0, .slice none 0 0]) (by simp [results, Tryz.results52, go_sem, *]) rfl ?_
 refine ⟨_, rfl, HF.out _ ?_⟩
 iterate 9 (refine grown_trans ?_ (grown_at _ _ _ _))
 exact grown_at _ _ _ _
theorem rec_7 (R B : Nat) (w : World) (s : Rd) (hB : B ≤ w.heap.size) (hR : BxL R w s) (hl : s.1.length ≤ 60000) {s1 : Rd} (hq1 : rdInt 1 s = (7, s1)) {y2 : Int} {s2 : Rd} (hq2 : rdInt 4 s1 = (y2, s2)) {y3 : Int} {s3 : Rd} (hq3 : rdInt 4 s2 = (y3, s3)) {y4 : Int} {s4 : Rd} (hq4 : rdInt 4 s3 = (y4, s4)) :
  Calls Tryz.prog 52 #[.pointer (some ⟨R, 0, none⟩)] w fun e w' => ∃ v, e = .returned v ∧ RcRes B (rdRec s).1 v w' ∧ Wb R w w' (rdRec s).2 := by
 have hRlt := hR.lt
 have hX := XR.start hR
 have HB : Aside (B ≤ w.heap.size) := hB
 clear hB hR
 have L1 : Aside (s1.1.length ≤ 60000) := ntQ (rd_len hq1) hl
 have L2 : Aside (s2.1.length ≤ 60000) := ntQ (rd_len hq2) L1.out
 have U2 : Aside (U32 y2) := rd_u32 hq2 (by omega)
 have m2 := mod_u32 U2.out
 have Q1 : Hid (_ = _) := hq1
 have Q2 : Hid (_ = _) := hq2
 have Q3 : Hid (_ = _) := hq3
 have L3 : Aside (s3.1.length ≤ 60000) := ntQ (rd_len hq3) L2.out
 have U3 : Aside (U32 y3) := rd_u32 hq3 (by omega)
 have m3 := w64_u32 U3.out
 have Q4 : Hid (_ = _) := hq4
 have L4 : Aside (s4.1.length ≤ 60000) := ntQ (rd_len hq4) L3.out
 have U4 : Aside (U32 y4) := rd_u32 hq4 (by omega)
 have m4 := w64_u32 U4.out
 have hC := int_rd R 1 _ s hX.wb.rdr (by omega) (by omega) hq1
 have HX0 : Aside (XR R w ⟨0, 0, 0, none, 0, [], none, 0, [], 0, none, 0, [], 0, 0, none, 0, []⟩ s ((w.alloc (.cells #[.int .u8 0, .int .u32 0, .int .u32 0, .slice none 0 0, .slice none 0 0, .int .u32 0, .slice none 0 0, .int .i64 0, .int .i64 0, .slice none 0 0] 46)).alloc (.cells #[.int .u8 0, .int .u32 0, .int .u32 0, .slice none 0 0, .slice none 0 0, .int .u32 0, .slice none 0 0, .int .i64 0, .int .i64 0, .slice none 0 0] 46))) := hX
 clear hX
 go_enter Tryz.func52, Tryz.ntmps52
 go_wp2_with (go_at_call 75; refine hC.mono ?_; rintro e w1 ⟨rfl, g1⟩; refine Hid.out ?_)
 refine hid ?_
 have hM := HX0.out.moved hRlt g1
 have cj : w1.cell? ⟨w.heap.size + 1, 0, none⟩ = some (.int .u8 0) := hM.bx.cell (j := 0) rfl
 have zj := hM.bx.frz 0
 have o := hM.far 0 (.int .u8 7)
 have HX1 : Aside (XR R w ⟨7, 0, 0, none, 0, [], none, 0, [], 0, none, 0, [], 0, 0, none, 0, []⟩ s1 (w1.setCell ⟨w.heap.size + 1, 0, none⟩ (.int .u8 7))) := hM.set hRlt 0 (.int .u8 7) (by first | rfl | simp [rcC]) ⟨by simp, o.id, o.at_, o.nodes, o.facts, o.epoch, o.spans, o.frm, o.til, o.ents⟩
 clear hM o hC g1 HX0
 go_upto_region 3 with fail
 generalize w1.setCell ⟨w.heap.size + 1, 0, none⟩ (.int .u8 7) = u1 at HX1 ⊢
 clear cj zj
 have hC := int_rd R 4 u1 s1 HX1.out.wb.rdr (by omega) (by omega) hq2
 go_wp2_with (go_at_call 75; refine hC.mono ?_; rintro e w2 ⟨rfl, g2⟩; refine Hid.out ?_)
 refine hid ?_
 have hM := HX1.out.moved hRlt g2
 have cj : w2.cell? ⟨w.heap.size + 1, 1, none⟩ = some (.int .u32 0) := hM.bx.cell (j := 1) rfl
 have zj := hM.bx.frz 1
 have o := hM.far 1 (.int .u32 y2)
 have HX2 : Aside (XR R w ⟨7, y2, 0, none, 0, [], none, 0, [], 0, none, 0, [], 0, 0, none, 0, []⟩ s2 (w2.setCell ⟨w.heap.size + 1, 1, none⟩ (.int .u32 y2))) := hM.set hRlt 1 (.int .u32 y2) (by first | rfl | simp [rcC]) ⟨o.kind, U2.out, o.at_, o.nodes, o.facts, o.epoch, o.spans, o.frm, o.til, o.ents⟩
 clear hM o hC g2 HX1
 go_upto_region 4 with fail
 generalize w2.setCell ⟨w.heap.size + 1, 1, none⟩ (.int .u32 y2) = u2 at HX2 ⊢
 clear cj zj
 have ck : u2.cell? ⟨w.heap.size + 1, 0, none⟩ = some (.int .u8 7) := HX2.out.bx.cell (j := 0) rfl
 have hC := int_rd R 4 u2 s2 HX2.out.wb.rdr (by omega) (by omega) hq3
 go_wp2_with (go_at_call 75; refine hC.mono ?_; rintro e w3 ⟨rfl, g3⟩; refine Hid.out ?_)
 refine hid ?_
 have hM := HX2.out.moved hRlt g3
 have cj : w3.cell? ⟨w.heap.size + 1, 7, none⟩ = some (.int .i64 0) := hM.bx.cell (j := 7) rfl
 have zj := hM.bx.frz 7
 have o := hM.far 7 (.int .i64 y3)
 have HX3 : Aside (XR R w ⟨7, y2, 0, none, 0, [], none, 0, [], 0, none, 0, [], y3, 0, none, 0, []⟩ s3 (w3.setCell ⟨w.heap.size + 1, 7, none⟩ (.int .i64 y3))) := hM.set hRlt 7 (.int .i64 y3) (by first | rfl | simp [rcC]) ⟨o.kind, o.id, o.at_, o.nodes, o.facts, o.epoch, o.spans, i64_u32 U3.out, o.til, o.ents⟩
 clear hM o hC g3 HX2
 go_upto_region 23 with fail
 generalize w3.setCell ⟨w.heap.size + 1, 7, none⟩ (.int .i64 y3) = u3 at HX3 ⊢
 clear cj zj
 have hC := int_rd R 4 u3 s3 HX3.out.wb.rdr (by omega) (by omega) hq4
 go_wp2_with (go_at_call 75; refine hC.mono ?_; rintro e w4 ⟨rfl, g4⟩; refine Hid.out ?_)
 refine hid ?_
 have hM := HX3.out.moved hRlt g4
 have cj : w4.cell? ⟨w.heap.size + 1, 8, none⟩ = some (.int .i64 0) := hM.bx.cell (j := 8) rfl
 have zj := hM.bx.frz 8
 have o := hM.far 8 (.int .i64 y4)
 have HX4 : Aside (XR R w ⟨7, y2, 0, none, 0, [], none, 0, [], 0, none, 0, [], y3, y4, none, 0, []⟩ s4 (w4.setCell ⟨w.heap.size + 1, 8, none⟩ (.int .i64 y4))) := hM.set hRlt 8 (.int .i64 y4) (by first | rfl | simp [rcC]) ⟨o.kind, o.id, o.at_, o.nodes, o.facts, o.epoch, o.spans, o.frm, i64_u32 U4.out, o.ents⟩
 clear hM o hC g4 HX3
 go_upto_region 24 with fail
 generalize w4.setCell ⟨w.heap.size + 1, 8, none⟩ (.int .i64 y4) = u4 at HX4 ⊢
 clear cj zj
 have hC := ents_rd R w.heap.size u4 s4 HX4.out.wb.grown.size HX4.out.wb.rdr L4.out
 go_wp2_with (go_at_call 79; refine hC.mono ?_; rintro e w5 ⟨v, rfl, hn, g5⟩; refine Hid.out ?_)
 refine hid ?_
 obtain ⟨es, ho, he⟩ := hn
 obtain ⟨ea, ec, hv⟩ := es_form ho
 subst hv
 have HE : Hid (es.map pe = (rdEnts s4).1) := he
 have hM := HX4.out.moved hRlt g5
 have cj : w5.cell? ⟨w.heap.size + 1, 9, none⟩ = some (.slice none 0 0) := hM.bx.cell (j := 9) rfl
 have zj := hM.bx.frz 9
 have o := hM.far 9 (.slice ea es.length ec)
 have HX5 : Aside (XR R w ⟨7, y2, 0, none, 0, [], none, 0, [], 0, none, 0, [], y3, y4, ea, ec, es⟩ (rdEnts s4).2 (w5.setCell ⟨w.heap.size + 1, 9, none⟩ (.slice ea es.length ec))) := hM.set hRlt 9 (.slice ea es.length ec) (by first | rfl | simp [rcC]) ⟨o.kind, o.id, o.at_, o.nodes, o.facts, o.epoch, o.spans, o.frm, o.til, ho.far (grown_at _ _ _ _) (hM.bx.far (by decide)) (hM.bx.far (by decide)) (hM.bx.far (by decide))⟩
 clear hM o hC g5 HX4
 go_upto_region 25 with fail
 generalize w5.setCell ⟨w.heap.size + 1, 9, none⟩ (.slice ea es.length ec) = u5 at HX5 ⊢
 clear cj zj
 clear ho he
 have E : Hid (rdRec s = (pr ⟨7, y2, 0, none, 0, [], none, 0, [], 0, none, 0, [], y3, y4, ea, ec, es⟩, (rdEnts s4).2)) := by show _ = _; simp [rdRec, Q1.out, Q2.out, Q3.out, Q4.out, pr, HE.out]
 have HF : Aside (∀ W, u5.grownBy W (some w.heap.size) → RcRes B (rdRec s).1 (.agg #[.int .u8 7, .int .u32 y2, .int .u32 0, .slice none 0 0, .slice none 0 0, .int .u32 0, .slice none 0 0, .int .i64 y3, .int .i64 y4, .slice ea (es : List _).length ec]) W ∧ Wb R w W (rdRec s).2) := fun W hG => by
  rw [E.out]
  exact HX5.out.fin hRlt HB.out rfl hG
 have cr0 : u5.cell? ⟨w.heap.size + 1, 0, none⟩ = some (.int .u8 7) := HX5.out.bx.cell (j := 0) rfl
 have cx0 := HX5.out.zx.cell (j := 0) rfl
 have zx0 := HX5.out.zx.frz 0
 have cr1 : u5.cell? ⟨w.heap.size + 1, 1, none⟩ = some (.int .u32 y2) := HX5.out.bx.cell (j := 1) rfl
 have cx1 := HX5.out.zx.cell (j := 1) rfl
 have zx1 := HX5.out.zx.frz 1
 have cr2 : u5.cell? ⟨w.heap.size + 1, 2, none⟩ = some (.int .u32 0) := HX5.out.bx.cell (j := 2) rfl
 have cx2 := HX5.out.zx.cell (j := 2) rfl
 have zx2 := HX5.out.zx.frz 2
 have cr3 : u5.cell? ⟨w.heap.size + 1, 3, none⟩ = some (.slice none 0 0) := HX5.out.bx.cell (j := 3) rfl
 have cx3 := HX5.out.zx.cell (j := 3) rfl
 have zx3 := HX5.out.zx.frz 3
 have cr4 : u5.cell? ⟨w.heap.size + 1, 4, none⟩ = some (.slice none 0 0) := HX5.out.bx.cell (j := 4) rfl
 have cx4 := HX5.out.zx.cell (j := 4) rfl
 have zx4 := HX5.out.zx.frz 4
 have cr5 : u5.cell? ⟨w.heap.size + 1, 5, none⟩ = some (.int .u32 0) := HX5.out.bx.cell (j := 5) rfl
 have cx5 := HX5.out.zx.cell (j := 5) rfl
 have zx5 := HX5.out.zx.frz 5
 have cr6 : u5.cell? ⟨w.heap.size + 1, 6, none⟩ = some (.slice none 0 0) := HX5.out.bx.cell (j := 6) rfl
 have cx6 := HX5.out.zx.cell (j := 6) rfl
 have zx6 := HX5.out.zx.frz 6
 have cr7 : u5.cell? ⟨w.heap.size + 1, 7, none⟩ = some (.int .i64 y3) := HX5.out.bx.cell (j := 7) rfl
 have cx7 := HX5.out.zx.cell (j := 7) rfl
 have zx7 := HX5.out.zx.frz 7
 have cr8 : u5.cell? ⟨w.heap.size + 1, 8, none⟩ = some (.int .i64 y4) := HX5.out.bx.cell (j := 8) rfl
 have cx8 := HX5.out.zx.cell (j := 8) rfl
 have zx8 := HX5.out.zx.frz 8
 have cr9 : u5.cell? ⟨w.heap.size + 1, 9, none⟩ = some (.slice ea (es : List _).length ec) := HX5.out.bx.cell (j := 9) rfl
 have cx9 := HX5.out.zx.cell (j := 9) rfl
 have zx9 := HX5.out.zx.frz 9
 clear HX5 E
 go_wp2
 refine bodyPost_ret (v := .agg #[.int .u8 7, .int .u32 y2, .int .u32 0, .slice none 0 0, .slice none 0 0, .int .u32 0, .slice none 0 0, .int .i64 y3, .int .i64 y4, .slice ea (es : List _).length ec]) (by simp [results, Tryz.results52, go_sem, *]) rfl ?_
 refine ⟨_, rfl, HF.out _ ?_⟩
 iterate 9 (refine grown_trans ?_ (grown_at _ _ _ _))
 exact grown_at _ _ _ _
structure S6 (R : Nat) (w : World) (y2 y3 : Int) (sa : Option Addr) (k sc : Nat) (ss : List PSpan) (s : Rd) (W : World) : Prop where
 zx : Boxed W w.heap.size #[.int .u8 0, .int .u32 0, .int .u32 0, .slice none 0 0, .slice none 0 0, .int .u32 0, .slice none 0 0, .int .i64 0, .int .i64 0, .slice none 0 0] 46
 bx : Boxed W (w.heap.size + 1) #[.int .u8 6, .int .u32 y2, .int .u32 0, .slice none 0 0, .slice none 0 0, .int .u32 y3, .slice sa k sc, .int .i64 0, .int .i64 0, .slice none 0 0] 46
 own : W.ownsRow w.heap.size 109 2 (.slice sa k sc) k (ss.flatMap spanC)
 len : ss.length = k
 all : ∀ s ∈ ss, I64 s.1 ∧ I64 s.2
 wb : Wb R w W s
theorem S6.below {R : Nat} {w W W' : World} {y2 y3 : Int} {sa : Option Addr} {k sc : Nat} {ss : List PSpan} {s : Rd} (h : S6 R w y2 y3 sa k sc ss s W) (hR : R < w.heap.size) (hb : Below W.heap.size W W') : S6 R w y2 y3 sa k sc ss s W' :=
 ⟨h.zx.below hb, h.bx.below hb, own_below h.own hb, h.len, h.all, h.wb.below hb hR⟩
theorem S6.moved {R : Nat} {w W W' : World} {y2 y3 : Int} {sa : Option Addr} {k sc : Nat} {ss : List PSpan} {s s' : Rd} (h : S6 R w y2 y3 sa k sc ss s W) (hR : R < w.heap.size) (g : Wb R W W' s') : S6 R w y2 y3 sa k sc ss s' W' :=
 ⟨h.zx.grown g.grown (by simp only [ne_eq, oiQ]; omega), h.bx.grown g.grown (by simp only [ne_eq, oiQ]; omega), own_far h.own g.grown (h.wb.rdr.far (by decide)), h.len, h.all, h.wb.trans g⟩
theorem S6.other {R Q j : Nat} {w W : World} {y2 y3 : Int} {sa : Option Addr} {k sc : Nat} {ss : List PSpan} {s : Rd} {v : Value} (h : S6 R w y2 y3 sa k sc ss s W) (hR : R < w.heap.size) (hQ : w.heap.size + 1 < Q) (hlt : ∀ q, (Value.slice sa k sc).ownBlock = some q → q < Q) : S6 R w y2 y3 sa k sc ss s (W.setCell ⟨Q, j, none⟩ v) :=
 ⟨h.zx.grown (grown_at _ _ _ _) (by simp only [ne_eq, oiQ]; omega), h.bx.grown (grown_at _ _ _ _) (by simp only [ne_eq, oiQ]; omega), h.own.kept (grown_at _ _ _ _) (Or.inr fun e => by have := hlt _ e; omega), h.len, h.all, h.wb.row (grown_at _ _ _ _) (fun q hq => by injection hq with hq; omega) hR⟩
theorem S6.ofXR {R : Nat} {w W : World} {y2 y3 : Int} {s : Rd} (h : XR R w ⟨6, y2, 0, none, 0, [], none, 0, [], y3, none, 0, [], 0, 0, none, 0, []⟩ s W) : S6 R w y2 y3 none 0 0 [] s W :=
 ⟨h.zx, h.bx, World.ownsRow_nil _ _ _ _, rfl, by simp, h.wb⟩
theorem S6.xr {R : Nat} {w W : World} {y2 y3 : Int} {sa : Option Addr} {k sc : Nat} {ss : List PSpan} {s : Rd} (h : S6 R w y2 y3 sa k sc ss s W) (h2 : U32 y2) (h3 : U32 y3) : XR R w ⟨6, y2, 0, none, 0, [], none, 0, [], y3, sa, sc, ss, 0, 0, none, 0, []⟩ s W := by
 obtain rfl := h.len
 exact ⟨h.zx, h.bx, ⟨by simp, h2, u32_nought, ns_nil _ _, fs_nil _ _, h3, ⟨h.own, h.all⟩, i64_nought, i64_nought, es_nil _ _⟩, h.wb⟩
theorem S6.push {R g c3 : Nat} {w W w3 : World} {y2 y3 a b : Int} {sa : Option Addr} {k sc : Nat} {ss : List PSpan} {s : Rd} {o : Obj} (h : S6 R w y2 y3 sa k sc ss s W) (hR : R < w.heap.size) (hs : w.heap.size + 1 < W.heap.size) (hn : (Value.slice sa k sc).ownBlock ≠ some w.heap.size ∧ (Value.slice sa k sc).ownBlock ≠ some (w.heap.size + 1)) (hg : (W.alloc o).grownBy w3 (Value.slice sa k sc).ownBlock) (hat : (Value.slice sa k sc).ownBlock = some g ∨ g = W.heap.size + 1)
  (hown : w3.ownsRow w.heap.size 109 2 (.slice (some ⟨g, 0, none⟩) (k + 1) c3) (k + 1) (ss.flatMap spanC ++ [.int .i64 a, .int .i64 b])) (ha : I64 a) (hb : I64 b) :
  S6 R w y2 y3 (some ⟨g, 0, none⟩) (k + 1) c3 (ss ++ [(a, b)]) s (w3.setCell ⟨w.heap.size + 1, 6, none⟩ (.slice (some ⟨g, 0, none⟩) (k + 1) c3)) := by
 have hb0 : Below W.heap.size W (W.alloc o) := (Below.refl _ _).alloc (nrQ _) o
 have h1 := (h.zx.below hb0).grown hg (fun e => hn.1 e.symm)
 have h2 := (h.bx.below hb0).grown hg (fun e => hn.2 e.symm)
 have hgn : g ≠ w.heap.size + 1 := fun e => by
  rcases hat with h | h
  ·rw [e] at h; exact hn.2 h
  ·omega
 refine ⟨h1.grown (grown_at _ _ _ _) (by simp only [ne_eq, oiQ]; omega), h2.set 6 _, ?_, by simp [h.len], fun x hx => ?_, ?_⟩
 ·have e : (ss ++ [(a, b)]).flatMap spanC = ss.flatMap spanC ++ [Value.int .i64 a, Value.int .i64 b] := by simp [spanC]
  rw [e]
  refine hown.kept (grown_at _ _ _ _) (Or.inr fun e => ?_)
  simp only [Value.ownBlock, oiQ] at e
  exact hgn e
 ·rcases List.mem_append.1 hx with hx | hx
  ·exact h.all x hx
  ·simp only [List.mem_singleton] at hx
   subst hx
   exact ⟨ha, hb⟩
 ·exact ((h.wb.below hb0 hR).row hg (fun q hq => (World.ownsRow.lt h.own _ hq).1) hR).row (grown_at _ _ _ _) (fun q hq => by injection hq with hq; omega) hR

theorem rec_6 (R B : Nat) (w : World) (s : Rd) (hB : B ≤ w.heap.size) (hR : BxL R w s) (hl : s.1.length ≤ 60000) {s1 : Rd} (hq1 : rdInt 1 s = (6, s1)) {y2 : Int} {s2 : Rd} (hq2 : rdInt 4 s1 = (y2, s2)) {y3 : Int} {s3 : Rd} (hq3 : rdInt 4 s2 = (y3, s3)) {n : Nat} {sm : Rd} (hqm : rdMany 1 5 s3 = (n, sm)) :
  Calls Tryz.prog 52 #[.pointer (some ⟨R, 0, none⟩)] w fun e w' => ∃ v, e = .returned v ∧ RcRes B (rdRec s).1 v w' ∧ Wb R w w' (rdRec s).2 := by
 have hRlt := hR.lt
 have hX := XR.start hR
 have HB : Aside (B ≤ w.heap.size) := hB
 clear hB hR
 obtain ⟨j0, hj, hy0, hy1, hy2⟩ := info_parts info_span
 have L1 : Aside (s1.1.length ≤ 60000) := ntQ (rd_len hq1) hl
 have L2 : Aside (s2.1.length ≤ 60000) := ntQ (rd_len hq2) L1.out
 have U2 : Aside (U32 y2) := rd_u32 hq2 (by omega)
 have m2 := mod_u32 U2.out
 have Q1 : Hid (_ = _) := hq1
 have Q2 : Hid (_ = _) := hq2
 have Q3 : Hid (_ = _) := hq3
 have L3 : Aside (s3.1.length ≤ 60000) := ntQ (rd_len hq3) L2.out
 have U3 : Aside (U32 y3) := rd_u32 hq3 (by omega)
 have m3 := mod_u32 U3.out
 have Q4 : Hid (_ = _) := hqm
 have hn6 : n ≤ 60000 := by have h := rdMany_le 1 5 s3; rw [hqm] at h; have := L3.out; omega
 have L4 : Aside (sm.1.length ≤ 60000) := by have h := rdMany_len 1 5 s3; rw [hqm] at h; exact ntQ h L3.out
 have hC := int_rd R 1 _ s hX.wb.rdr (by omega) (by omega) hq1
 have HX0 : Aside (XR R w ⟨0, 0, 0, none, 0, [], none, 0, [], 0, none, 0, [], 0, 0, none, 0, []⟩ s ((w.alloc (.cells #[.int .u8 0, .int .u32 0, .int .u32 0, .slice none 0 0, .slice none 0 0, .int .u32 0, .slice none 0 0, .int .i64 0, .int .i64 0, .slice none 0 0] 46)).alloc (.cells #[.int .u8 0, .int .u32 0, .int .u32 0, .slice none 0 0, .slice none 0 0, .int .u32 0, .slice none 0 0, .int .i64 0, .int .i64 0, .slice none 0 0] 46))) := hX
 clear hX
 go_enter Tryz.func52, Tryz.ntmps52
 go_wp2_with (go_at_call 75; refine hC.mono ?_; rintro e w1 ⟨rfl, g1⟩; refine Hid.out ?_)
 refine hid ?_
 have hM := HX0.out.moved hRlt g1
 have cj : w1.cell? ⟨w.heap.size + 1, 0, none⟩ = some (.int .u8 0) := hM.bx.cell (j := 0) rfl
 have zj := hM.bx.frz 0
 have o := hM.far 0 (.int .u8 6)
 have HX1 : Aside (XR R w ⟨6, 0, 0, none, 0, [], none, 0, [], 0, none, 0, [], 0, 0, none, 0, []⟩ s1 (w1.setCell ⟨w.heap.size + 1, 0, none⟩ (.int .u8 6))) := hM.set hRlt 0 (.int .u8 6) (by first | rfl | simp [rcC]) ⟨by simp, o.id, o.at_, o.nodes, o.facts, o.epoch, o.spans, o.frm, o.til, o.ents⟩
 clear hM o hC g1 HX0
 go_upto_region 3 with fail
 generalize w1.setCell ⟨w.heap.size + 1, 0, none⟩ (.int .u8 6) = u1 at HX1 ⊢
 clear cj zj
 have hC := int_rd R 4 u1 s1 HX1.out.wb.rdr (by omega) (by omega) hq2
 go_wp2_with (go_at_call 75; refine hC.mono ?_; rintro e w2 ⟨rfl, g2⟩; refine Hid.out ?_)
 refine hid ?_
 have hM := HX1.out.moved hRlt g2
 have cj : w2.cell? ⟨w.heap.size + 1, 1, none⟩ = some (.int .u32 0) := hM.bx.cell (j := 1) rfl
 have zj := hM.bx.frz 1
 have o := hM.far 1 (.int .u32 y2)
 have HX2 : Aside (XR R w ⟨6, y2, 0, none, 0, [], none, 0, [], 0, none, 0, [], 0, 0, none, 0, []⟩ s2 (w2.setCell ⟨w.heap.size + 1, 1, none⟩ (.int .u32 y2))) := hM.set hRlt 1 (.int .u32 y2) (by first | rfl | simp [rcC]) ⟨o.kind, U2.out, o.at_, o.nodes, o.facts, o.epoch, o.spans, o.frm, o.til, o.ents⟩
 clear hM o hC g2 HX1
 go_upto_region 4 with fail
 generalize w2.setCell ⟨w.heap.size + 1, 1, none⟩ (.int .u32 y2) = u2 at HX2 ⊢
 clear cj zj
 have ck : u2.cell? ⟨w.heap.size + 1, 0, none⟩ = some (.int .u8 6) := HX2.out.bx.cell (j := 0) rfl
 have hC := int_rd R 4 u2 s2 HX2.out.wb.rdr (by omega) (by omega) hq3
 go_wp2_with (go_at_call 75; refine hC.mono ?_; rintro e w3 ⟨rfl, g3⟩; refine Hid.out ?_)
 refine hid ?_
 have hM := HX2.out.moved hRlt g3
 have cj : w3.cell? ⟨w.heap.size + 1, 5, none⟩ = some (.int .u32 0) := hM.bx.cell (j := 5) rfl
 have zj := hM.bx.frz 5
 have o := hM.far 5 (.int .u32 y3)
 have HX3 : Aside (XR R w ⟨6, y2, 0, none, 0, [], none, 0, [], y3, none, 0, [], 0, 0, none, 0, []⟩ s3 (w3.setCell ⟨w.heap.size + 1, 5, none⟩ (.int .u32 y3))) := hM.set hRlt 5 (.int .u32 y3) (by first | rfl | simp [rcC]) ⟨o.kind, o.id, o.at_, o.nodes, o.facts, U3.out, o.spans, o.frm, o.til, o.ents⟩
 clear hM o hC g3 HX2
 go_upto_region 13 with fail
 generalize w3.setCell ⟨w.heap.size + 1, 5, none⟩ (.int .u32 y3) = u3 at HX3 ⊢
 clear cj zj
 have hC := many_any R 1 5 u3 s3 HX3.out.wb.rdr (by omega) (by omega) (by omega) (by omega) L3.out
 rw [hqm] at hC
 go_wp2_with (go_at_call 78; refine hC.mono ?_; rintro e w4 ⟨rfl, g4⟩; refine Hid.out ?_)
 refine hid ?_
 have H4 : Aside (S6 R w y2 y3 none 0 0 [] sm w4) := S6.ofXR (HX3.out.moved hRlt g4)
 clear hC g4 HX3 ck hq1 hq2 hq3 hqm m2 m3
 go_wp2_with fail
 go_loopg [5] n (fun g1 vi wr => ∃ (k : Nat), vi = .int .i64 k ∧ k ≤ n ∧ n - k ≤ g1 ∧ Aside (∃ sa sc ss sk, S6 R w y2 y3 sa k sc ss sk wr ∧ sk.1.length ≤ 60000 ∧ rdTimes rdSpan n sm = (ss ++ (rdTimes rdSpan (n - k) sk).1, (rdTimes rdSpan (n - k) sk).2) ∧ (Value.slice sa k sc).ownBlock ≠ some w.heap.size ∧ (Value.slice sa k sc).ownBlock ≠ some (w.heap.size + 1)))
 case atStart => exact ⟨0, rfl, Nat.zero_le _, nrQ _, none, 0, [], sm, H4.out, L4.out, by simp, by simp [Value.ownBlock], by simp [Value.ownBlock]⟩
 case round =>
  obtain ⟨k, rfl, hk, hgk, SK⟩ := hrel
  by_cases hlt : k < n
  ·have hltz : (k : Int) < (n : Int) := by omega
   obtain ⟨sa, sc, ss, sk, hS, hsl, hsr, hn1, hn2⟩ := SK.out
   obtain ⟨jj, hjj⟩ : ∃ jj, n - k = jj + 1 := ⟨n - k - 1, by omega⟩
   rw [hjj] at hsr
   have hsr2 := rdTimes_step hsr
   obtain ⟨y, t1, hq1⟩ : ∃ y t1, rdInt 4 sk = (y, t1) := ⟨_, _, rfl⟩
   obtain ⟨z, t2, hq2⟩ : ∃ z t2, rdInt 1 t1 = (z, t2) := ⟨_, _, rfl⟩
   have hsp : rdSpan sk = ((y, z), t2) := by unfold rdSpan; simp [hq1, hq2]
   rw [hsp] at hsr2
   have T1 := rd_u32 hq1 (by omega)
   have T2 := rd_u32 hq2 (by omega)
   have w1 := w64_u32 T1
   have w2 := w64_u32 T2
   have HI : Aside (I64 y ∧ I64 z ∧ t2.1.length ≤ 60000) := ⟨i64_u32 T1, i64_u32 T2, ntQ (rd_len hq2) (ntQ (rd_len hq1) hsl)⟩
   generalize hWr : wr = W1 at *
   clear hWr
   have hlq : w.heap.size + 1 < W1.heap.size := hS.bx.lt
   have hown0 : ∀ q, (Value.slice sa k sc).ownBlock = some q → q < W1.heap.size := fun q hq => (World.ownsRow.lt hS.own _ hq).2
   have HK : Aside (rdTimes rdSpan n sm = ((ss ++ [(y, z)]) ++ (rdTimes rdSpan jj t2).1, (rdTimes rdSpan jj t2).2) ∧ n - k = jj + 1 ∧ (Value.slice sa k sc).ownBlock ≠ some w.heap.size ∧ (Value.slice sa k sc).ownBlock ≠ some (w.heap.size + 1) ∧ ∀ q, (Value.slice sa k sc).ownBlock = some q → q < W1.heap.size) := ⟨hsr2, hjj, hn1, hn2, hown0⟩
   have hS0 := hS.below hRlt (W' := W1.alloc (.cells #[.int .i64 0, .int .i64 0] 109)) ((Below.refl _ _).alloc (nrQ _) _)
   have HS0 : Aside (S6 R w y2 y3 sa k sc ss sk (W1.alloc (.cells #[.int .i64 0, .int .i64 0] 109)) ∧ Boxed (W1.alloc (.cells #[.int .i64 0, .int .i64 0] 109)) W1.heap.size #[.int .i64 0, .int .i64 0] 109) := ⟨hS0, Boxed.new _ _ _⟩
   have hC := int_rd R 4 _ sk hS0.wb.rdr (by omega) (by omega) hq1
   have HQ2 : Hid (rdInt 1 t1 = (z, t2)) := hq2
   clear SK hS hS0 hsl hsr hsr2 hn1 hn2 hown0 hjj hq1 hq2 hsp T1 T2
   go_wp2_with (go_at_call 75; refine hC.mono ?_; rintro e v2 ⟨rfl, g2⟩; refine Hid.out ?_)
   refine hid ?_
   have hbx := HS0.out.2.grown g2.grown (by simp only [ne_eq, oiQ]; omega)
   have q0 := hbx.cell (j := 0) rfl
   have z0 := hbx.frz 0
   have HS2 : Aside (S6 R w y2 y3 sa k sc ss t1 (v2.setCell ⟨W1.heap.size, 0, none⟩ (.int .i64 y)) ∧ Boxed (v2.setCell ⟨W1.heap.size, 0, none⟩ (.int .i64 y)) W1.heap.size #[.int .i64 y, .int .i64 0] 109) := ⟨(HS0.out.1.moved hRlt g2).other hRlt hlq HK.out.2.2.2.2, hbx.set 0 _⟩
   clear hC g2 hbx HS0
   go_upto_region 19 with fail
   generalize v2.setCell ⟨W1.heap.size, 0, none⟩ (.int .i64 y) = x2 at HS2 ⊢
   clear q0 z0 w1
   have hC := int_rd R 1 x2 t1 HS2.out.1.wb.rdr (by omega) (by omega) HQ2.out
   go_wp2_with (go_at_call 75; refine hC.mono ?_; rintro e v3 ⟨rfl, g3⟩; refine Hid.out ?_)
   refine hid ?_
   have hbx := HS2.out.2.grown g3.grown (by simp only [ne_eq, oiQ]; omega)
   have q0 := hbx.cell (j := 1) rfl
   have z0 := hbx.frz 1
   have HS3 : Aside (S6 R w y2 y3 sa k sc ss t2 (v3.setCell ⟨W1.heap.size, 1, none⟩ (.int .i64 z)) ∧ Boxed (v3.setCell ⟨W1.heap.size, 1, none⟩ (.int .i64 z)) W1.heap.size #[.int .i64 y, .int .i64 z] 109) := ⟨(HS2.out.1.moved hRlt g3).other hRlt hlq HK.out.2.2.2.2, hbx.set 1 _⟩
   clear hC g3 hbx HS2
   go_upto_region 20 with fail
   generalize v3.setCell ⟨W1.heap.size, 1, none⟩ (.int .i64 z) = x3 at HS3 ⊢
   clear q0 z0 w2
   have q0 := HS3.out.2.cell (j := 0) rfl
   have q1 := HS3.out.2.cell (j := 1) rfl
   have c6 := HS3.out.1.bx.cell (j := 6) rfl
   have hown2 := HS3.out.1.own
   have hsz : w.heap.size + 1 < x3.heap.size := HS3.out.1.bx.lt
   have HX3 : ∀ o w6, (x3.alloc o).grownBy w6 (Value.slice sa k sc).ownBlock → Boxed w6 (w.heap.size + 1) #[.int .u8 6, .int .u32 y2, .int .u32 0, .slice none 0 0, .slice none 0 0, .int .u32 y3, .slice sa k sc, .int .i64 0, .int .i64 0, .slice none 0 0] 46 := fun o w6 hg => (HS3.out.1.bx.below ((Below.refl _ _).alloc (nrQ _) o)).grown hg (fun e => HK.out.2.2.2.1 e.symm)
   go_wp2_with (at_builtin; refine wpList_append_lies _ rfl _ _ 41 rfl w.heap.size 109 j0 _ 2 16 Tryz.underlying41 hj hy0 hy1 hy2 rfl (by decide) _ k _ rfl (hown2.alloc _) ⟨x3.heap.size, 0, none⟩ 1 1 [Value.int .i64 y, Value.int .i64 z] rfl rfl (cells_two_new _ _ _ _) (by intro u hu; simp at hu; first | (rcases hu with rfl | rfl <;> rfl) | (subst hu; rfl)) (by omega) (by unfold maxLen; omega) (by omega) (by simp; omega) (x3.heap.size + 1) (by simp) ?_; intro gg c3 w6 hown3 hgrow hat hglt; have hx6 := HX3 _ _ hgrow; have q6 := hx6.cell (j := 6) rfl; have z6 := hx6.frz 6; refine Hid.out ?_)
   refine hid ?_
   have S3 : Aside (∃ sa sc ss sk, S6 R w y2 y3 sa (k + 1) sc ss sk (w6.setCell ⟨w.heap.size + 1, 6, none⟩ (.slice (some ⟨gg, 0, none⟩) (k + 1) c3)) ∧ sk.1.length ≤ 60000 ∧ rdTimes rdSpan n sm = (ss ++ (rdTimes rdSpan (n - (k + 1)) sk).1, (rdTimes rdSpan (n - (k + 1)) sk).2) ∧ (Value.slice sa (k + 1) sc).ownBlock ≠ some w.heap.size ∧ (Value.slice sa (k + 1) sc).ownBlock ≠ some (w.heap.size + 1)) := by
    have hne : gg ≠ w.heap.size ∧ gg ≠ w.heap.size + 1 := by
     rcases hat with h | h
     ·exact ⟨fun e => HK.out.2.2.1 (Eq.trans h (congrArg some e)), fun e => HK.out.2.2.2.1 (Eq.trans h (congrArg some e))⟩
     ·constructor <;> omega
    refine ⟨_, _, _, t2, HS3.out.1.push hRlt hsz ⟨HK.out.2.2.1, HK.out.2.2.2.1⟩ hgrow hat hown3 HI.out.1 HI.out.2.1, HI.out.2.2, ?_, by simp only [Value.ownBlock, ne_eq, oiQ]; exact hne.1, by simp only [Value.ownBlock, ne_eq, oiQ]; exact hne.2⟩
    rw [show n - (k + 1) = jj by have := HK.out.2.1; omega]
    exact HK.out.1
   clear hown3 hgrow hat hglt hown2 q0 q1 c6 HX3 hx6 HS3
   go_wp2
   go_roundg (n - (k + 1))
   case measure => omega
   case rel => exact ⟨k + 1, by go_num, by omega, by omega, S3⟩
  ·have hltz : ¬ (k : Int) < (n : Int) := by omega
   obtain ⟨sa, sc, ss, sk, hS, hsl, hsr, hn1, hn2⟩ := SK.out
   rw [show n - k = 0 by omega] at hsr
   have hsr2 := rdTimes_end hsr
   have hXX := hS.xr U2.out U3.out
   have HLN : Hid (ss.length = k) := hS.len
   have E : Hid (rdRec s = (pr ⟨6, y2, 0, none, 0, [], none, 0, [], y3, sa, sc, ss, 0, 0, none, 0, []⟩, sk)) := by show _ = _; simp [rdRec, rdSpans, Q1.out, Q2.out, Q3.out, Q4.out, hsr2, pr]
   have HF : Aside (∀ W, wr.grownBy W (some w.heap.size) → RcRes B (rdRec s).1 (.agg #[.int .u8 6, .int .u32 y2, .int .u32 0, .slice none 0 0, .slice none 0 0, .int .u32 y3, .slice sa k sc, .int .i64 0, .int .i64 0, .slice none 0 0]) W ∧ Wb R w W (rdRec s).2) := fun W hG => by
    rw [E.out]
    have h := hXX.fin hRlt HB.out rfl hG
    unfold rcV rcC at h
    simp only at h
    rw [HLN.out] at h
    exact h

   have cr0 := hS.bx.cell (j := 0) rfl
   have cx0 := hS.zx.cell (j := 0) rfl
   have zx0 := hS.zx.frz 0
   have cr1 := hS.bx.cell (j := 1) rfl
   have cx1 := hS.zx.cell (j := 1) rfl
   have zx1 := hS.zx.frz 1
   have cr2 := hS.bx.cell (j := 2) rfl
   have cx2 := hS.zx.cell (j := 2) rfl
   have zx2 := hS.zx.frz 2
   have cr3 := hS.bx.cell (j := 3) rfl
   have cx3 := hS.zx.cell (j := 3) rfl
   have zx3 := hS.zx.frz 3
   have cr4 := hS.bx.cell (j := 4) rfl
   have cx4 := hS.zx.cell (j := 4) rfl
   have zx4 := hS.zx.frz 4
   have cr5 := hS.bx.cell (j := 5) rfl
   have cx5 := hS.zx.cell (j := 5) rfl
   have zx5 := hS.zx.frz 5
   have cr6 := hS.bx.cell (j := 6) rfl
   have cx6 := hS.zx.cell (j := 6) rfl
   have zx6 := hS.zx.frz 6
   have cr7 := hS.bx.cell (j := 7) rfl
   have cx7 := hS.zx.cell (j := 7) rfl
   have zx7 := hS.zx.frz 7
   have cr8 := hS.bx.cell (j := 8) rfl
   have cx8 := hS.zx.cell (j := 8) rfl
   have zx8 := hS.zx.frz 8
   have cr9 := hS.bx.cell (j := 9) rfl
   have cx9 := hS.zx.cell (j := 9) rfl
   have zx9 := hS.zx.frz 9
   clear SK hS hsl hsr hsr2 hn1 hn2 hXX E H4
   go_wp2
   refine bodyPost_ret (v := .agg #[.int .u8 6, .int .u32 y2, .int .u32 0, .slice none 0 0, .slice none 0 0, .int .u32 y3, .slice sa k sc, .int .i64 0, .int .i64 0, .slice none 0 0]) (by simp [results, Tryz.results52, go_sem, *]) rfl ?_
   refine ⟨_, rfl, HF.out _ ?_⟩
   iterate 9 (refine grown_trans ?_ (grown_at _ _ _ _))
   exact grown_at _ _ _ _
theorem rec_rd (R B : Nat) (w : World) (s : Rd) (hB : B ≤ w.heap.size) (hR : BxL R w s) (hl : s.1.length ≤ 60000) :
  Calls Tryz.prog 52 #[.pointer (some ⟨R, 0, none⟩)] w fun e w' => ∃ v, e = .returned v ∧ RcRes B (rdRec s).1 v w' ∧ Wb R w w' (rdRec s).2 := by
 obtain ⟨y1, s1, hq1⟩ : ∃ y t, rdInt 1 s = (y, t) := ⟨_, _, rfl⟩
 obtain ⟨y2, s2, hq2⟩ : ∃ y t, rdInt 4 s1 = (y, t) := ⟨_, _, rfl⟩
 obtain ⟨y3, s3, hq3⟩ : ∃ y t, rdInt 4 s2 = (y, t) := ⟨_, _, rfl⟩
 obtain ⟨y4, s4, hq4⟩ : ∃ y t, rdInt 4 s3 = (y, t) := ⟨_, _, rfl⟩
 obtain ⟨n, sm, hqm⟩ : ∃ y t, rdMany 1 5 s3 = (y, t) := ⟨_, _, rfl⟩
 by_cases k1 : y1 = 1
 ·subst k1; exact rec_1 R B w s hB hR hl hq1 hq2
 by_cases k2 : y1 = 2
 ·subst k2; exact rec_2 R B w s hB hR hl hq1 hq2 hq3
 by_cases k6 : y1 = 6
 ·subst k6; exact rec_6 R B w s hB hR hl hq1 hq2 hq3 hqm
 by_cases k7 : y1 = 7
 ·subst k7; exact rec_7 R B w s hB hR hl hq1 hq2 hq3 hq4
 exact rec_0 R B w s hB hR hl hq1 hq2 (by simpa using k1) (by simpa using k2) (by simpa using k6) (by simpa using k7)
theorem BytesAt.grown {w w1 : World} {B R : Nat} {a : Option Addr} {n c : Nat} {l : List UInt8} (h : BytesAt w a n c l) (hl : l ≠ [] → ∀ p, a = some p → p.block < B) (hB : B ≤ w.heap.size) (hR : B ≤ R) (hg : w.grownBy w1 (some R)) : BytesAt w1 a n c l := by
 refine ⟨?_, fun h0 p hp => Nat.lt_of_lt_of_le (h.low h0 p hp) hg.size, h.len, h.cap⟩
 rcases h.mem with h0 | ⟨b, off, ha, hc⟩
 ·exact .inl h0
 ·refine .inr ⟨b, off, ha, fun i hi => ?_⟩
  have hb := hl (by intro e; rw [e] at hi; simp at hi) _ ha
  simp only at hb
  exact (World.cell?_of_block (a := ⟨b, off + i, none⟩) (hg.block b (by omega) (by simp only [ne_eq, oiQ]; omega))).trans (hc i hi)
def DecOut (l : List UInt8) (e : Ending) (W : World) : Prop :=
 (dec l = none ∧ e = .returned (.tuple #[.agg recZ, .int .i64 70])) ∨ ∃ r, e = .returned (.tuple #[rcV r, .int .i64 0]) ∧ dec l = some (pr r) ∧ OwnIn W r

theorem refDecode_any (w : World) (a : Option Addr) (n c : Nat) (l : List UInt8) (hb : BytesAt w a n c l) (h6 : n ≤ 60000) (hty : ∀ x, dec l = some x → Typed x) :
  Calls Tryz.prog 29 #[.slice a n c] w fun e w' => DecOut l e w' ∧ Below w.heap.size w w' := by
 have hl := hb.len
 have hz : ¬ (60000 : Int) < (n : Int) := by omega
 have hW0 : Below w.heap.size w ((w.alloc (.cells #[.int .u8 0, .int .u32 0, .int .u32 0, .slice none 0 0, .slice none 0 0, .int .u32 0, .slice none 0 0, .int .i64 0, .int .i64 0, .slice none 0 0] 46)).alloc (.cells #[.slice a n c, .bool false] 101)) := by (repeat (first | with_reducible exact Below.refl _ _ | (with_reducible refine Below.drew ?_) | (with_reducible refine Below.alloc ?_ (by first | omega | (simp; done) | (simp; omega)) _) | (with_reducible refine Below.setCell ?_ (by first | exact nrQ _ | omega | (simp; done) | (simp; omega)) _)))
 have hP : Boxed ((w.alloc (.cells #[.int .u8 0, .int .u32 0, .int .u32 0, .slice none 0 0, .slice none 0 0, .int .u32 0, .slice none 0 0, .int .i64 0, .int .i64 0, .slice none 0 0] 46)).alloc (.cells #[.slice a n c, .bool false] 101)) w.heap.size #[.int .u8 0, .int .u32 0, .int .u32 0, .slice none 0 0, .slice none 0 0, .int .u32 0, .slice none 0 0, .int .i64 0, .int .i64 0, .slice none 0 0] 46 := (Boxed.new w _ _).below ((Below.refl _ _).alloc (nrQ _) _)
 have hX : BxL (w.heap.size + 1) ((w.alloc (.cells #[.int .u8 0, .int .u32 0, .int .u32 0, .slice none 0 0, .slice none 0 0, .int .u32 0, .slice none 0 0, .int .i64 0, .int .i64 0, .slice none 0 0] 46)).alloc (.cells #[.slice a n c, .bool false] 101)) (l, false) := by
  refine ⟨a, n, c, ?_, hl, hb.cap, fun h0 p hp => by have := hb.low h0 p hp; omega, hb.mem.keep hW0⟩
  show Boxed _ _ #[.slice a n c, .bool false] _
  have := Boxed.new (w.alloc (.cells #[.int .u8 0, .int .u32 0, .int .u32 0, .slice none 0 0, .slice none 0 0, .int .u32 0, .slice none 0 0, .int .i64 0, .int .i64 0, .slice none 0 0] 46)) #[.slice a n c, .bool false] 101
  simpa using this
 have hbb := hb.keep hW0
 have hsz0 : w.heap.size + 2 = ((w.alloc (.cells #[.int .u8 0, .int .u32 0, .int .u32 0, .slice none 0 0, .slice none 0 0, .int .u32 0, .slice none 0 0, .int .i64 0, .int .i64 0, .slice none 0 0] 46)).alloc (.cells #[.slice a n c, .bool false] 101)).heap.size := by simp
 generalize hWW : ((w.alloc (.cells #[.int .u8 0, .int .u32 0, .int .u32 0, .slice none 0 0, .slice none 0 0, .int .u32 0, .slice none 0 0, .int .i64 0, .int .i64 0, .slice none 0 0] 46)).alloc (.cells #[.slice a n c, .bool false] 101)) = W0 at hW0 hP hX hbb hsz0
 have HW : Hid (_ = W0) := hWW
 have hC := rec_rd (w.heap.size + 1) W0.heap.size W0 (l, false) (nrQ _) hX (by simp only; omega)
 have H0 : Aside (Below w.heap.size w W0 ∧ Boxed W0 w.heap.size #[.int .u8 0, .int .u32 0, .int .u32 0, .slice none 0 0, .slice none 0 0, .int .u32 0, .slice none 0 0, .int .i64 0, .int .i64 0, .slice none 0 0] 46 ∧ BytesAt W0 a n c l ∧ (l ≠ [] → ∀ p, a = some p → p.block < w.heap.size) ∧ w.heap.size + 2 = W0.heap.size ∧ (∀ x, dec l = some x → Typed x)) := ⟨hW0, hP, hbb, hb.low, hsz0, hty⟩
 have HLN : Hid (l.length = n) := hl
 clear hW0 hP hX hbb hWW hsz0 hb hl hty
 go_enter Tryz.func29, Tryz.ntmps29
 go_wp2_with fail
 rw [HW.out]
 refine hC.mono ?_
 rintro e w1 ⟨v, rfl, ⟨r, hv, hpr, hown⟩, g1⟩
 subst hv
 clear hC
 have b1 : Below w.heap.size w w1 := H0.out.1.grown g1.grown H0.out.1.size (fun q hq => by injection hq with hq; omega)
 have hP1 := H0.out.2.1.grown g1.grown (by simp only [ne_eq, oiQ]; omega)
 have hb1 := H0.out.2.2.1.grown H0.out.2.2.2.1 H0.out.1.size (Nat.le_succ _) g1.grown
 have b2 : Below w1.heap.size w1 (w1.alloc (.cells (rcC r) 46)) := (Below.refl _ _).alloc (nrQ _) _
 obtain ⟨s2, hs2⟩ : ∃ s2, (rdRec (l, false)).2 = s2 := ⟨_, rfl⟩
 obtain ⟨y, hy⟩ : ∃ y, (rdRec (l, false)).1 = y := ⟨_, rfl⟩
 have HQ : Hid ((rdRec (l, false)).2 = s2 ∧ (rdRec (l, false)).1 = pr r) := ⟨hs2, hpr.symm⟩
 rw [hs2] at g1
 have S2 : Aside (Below w.heap.size w (w1.alloc (.cells (rcC r) 46)) ∧ Boxed (w1.alloc (.cells (rcC r) 46)) w.heap.size #[.int .u8 0, .int .u32 0, .int .u32 0, .slice none 0 0, .slice none 0 0, .int .u32 0, .slice none 0 0, .int .i64 0, .int .i64 0, .slice none 0 0] 46 ∧ BytesAt (w1.alloc (.cells (rcC r) 46)) a n c l ∧ BxL (w.heap.size + 1) (w1.alloc (.cells (rcC r) 46)) s2 ∧ RcOwn W0.heap.size (w1.alloc (.cells (rcC r) 46)) r ∧ Boxed (w1.alloc (.cells (rcC r) 46)) w1.heap.size (rcC r) 46) :=
  ⟨b1.trans (b2.mono b1.size), hP1.below b2, hb1.keep b2, g1.rdr.keep b2, hown.far (grown_below b2) (far_none _ _) (far_none _ _) (far_none _ _) (far_none _ _), Boxed.new _ _ _⟩
 have hlX : w.heap.size + 1 < w1.heap.size := by have := g1.grown.size; have := H0.out.2.2.2.2.1; omega
 have HTY : Aside (∀ x, dec l = some x → Typed x) := H0.out.2.2.2.2.2
 clear b1 hP1 hb1 b2 hs2 hy hpr hown g1 H0
 unfold rcV rcC
 go_upto_region 5 with fail
 have hW5 : w1.alloc (.cells #[.int .u8 r.kind, .int .u32 r.id, .int .u32 r.at_, .slice r.na r.nodes.length r.nc, .slice r.fa r.facts.length r.fc, .int .u32 r.epoch, .slice r.sa r.spans.length r.sc, .int .i64 r.frm, .int .i64 r.til, .slice r.ea r.ents.length r.ec] 46) = w1.alloc (.cells (rcC r) 46) := rfl
 rw [hW5]
 obtain ⟨X, hXX⟩ : ∃ X, w1.heap.size = X := ⟨_, rfl⟩
 rw [hXX] at S2 hlX ⊢
 generalize w1.alloc (.cells (rcC r) 46) = w2 at S2 ⊢
 clear hW5 hXX
 obtain ⟨aR, nR, cR, hBx⟩ := S2.out.2.2.2.1
 have HBx : Aside (Bx (w.heap.size + 1) w2 aR nR cR s2) := hBx
 clear hBx
 have d0 : w2.cell? ⟨X, 0, none⟩ = some (.int .u8 r.kind) := S2.out.2.2.2.2.2.cell (j := 0) rfl
 have d1 : w2.cell? ⟨X, 1, none⟩ = some (.int .u32 r.id) := S2.out.2.2.2.2.2.cell (j := 1) rfl
 have d2 : w2.cell? ⟨X, 2, none⟩ = some (.int .u32 r.at_) := S2.out.2.2.2.2.2.cell (j := 2) rfl
 have d3 : w2.cell? ⟨X, 3, none⟩ = some (.slice r.na r.nodes.length r.nc) := S2.out.2.2.2.2.2.cell (j := 3) rfl
 have d4 : w2.cell? ⟨X, 4, none⟩ = some (.slice r.fa r.facts.length r.fc) := S2.out.2.2.2.2.2.cell (j := 4) rfl
 have d5 : w2.cell? ⟨X, 5, none⟩ = some (.int .u32 r.epoch) := S2.out.2.2.2.2.2.cell (j := 5) rfl
 have d6 : w2.cell? ⟨X, 6, none⟩ = some (.slice r.sa r.spans.length r.sc) := S2.out.2.2.2.2.2.cell (j := 6) rfl
 have d7 : w2.cell? ⟨X, 7, none⟩ = some (.int .i64 r.frm) := S2.out.2.2.2.2.2.cell (j := 7) rfl
 have d8 : w2.cell? ⟨X, 8, none⟩ = some (.int .i64 r.til) := S2.out.2.2.2.2.2.cell (j := 8) rfl
 have d9 : w2.cell? ⟨X, 9, none⟩ = some (.slice r.ea r.ents.length r.ec) := S2.out.2.2.2.2.2.cell (j := 9) rfl
 have hTyp : Aside (Typed (pr r)) := S2.out.2.2.2.2.1.recIn.typed
 have hDS : Aside (∀ x, dec l = some x → s2 = ([], false) ∧ pr r = x ∧ l = recB x ∧ sndRec x = true) := fun x hx => by
  obtain ⟨e1, e2⟩ := dec_is hx
  have h := rdRec_back x e2 (HTY.out x hx) []
  rw [List.append_nil, ← e1] at h
  exact ⟨by rw [← HQ.out.1, h], by rw [← HQ.out.2, h], e1, e2⟩
 cases hbad : s2.2 with
 | true =>
  have HN : Aside (dec l = none) := by
   cases hd : dec l with
   | none => rfl
   | some x => have h := (hDS.out x hd).1; rw [h] at hbad; cases hbad
  cases hsnd : sndRec (pr r) with
  | false =>
   have hE : Calls Tryz.prog 34 #[.agg #[.int .u8 r.kind, .int .u32 r.id, .int .u32 r.at_, .slice r.na r.nodes.length r.nc, .slice r.fa r.facts.length r.fc, .int .u32 r.epoch, .slice r.sa r.spans.length r.sc, .int .i64 r.frm, .int .i64 r.til, .slice r.ea r.ents.length r.ec]] w2 fun e w' => e = .returned (.tuple #[.slice none 0 0, .int .i64 1]) ∧ Below w2.heap.size w2 w' := refEncode_no w2 r S2.out.2.2.2.2.1.recIn hsnd
   go_wp2_with (go_at_call 34; refine hE.mono ?_; rintro e w3 ⟨rfl, g3⟩; refine Hid.out ?_)
   refine hid ?_
   clear hE d0 d1 d2 d3 d4 d5 d6 d7 d8 d9
   have hBx3 := HBx.out.keep g3
   have cb : w3.cell? ⟨w.heap.size + 1, 1, none⟩ = some (.bool true) := by have := hBx3.cell1; rw [hbad] at this; exact this
   have hP3 := S2.out.2.1.below g3
   have cx0 := hP3.cell (j := 0) rfl
   have zx0 := hP3.frz 0
   have cx1 := hP3.cell (j := 1) rfl
   have zx1 := hP3.frz 1
   have cx2 := hP3.cell (j := 2) rfl
   have zx2 := hP3.frz 2
   have cx3 := hP3.cell (j := 3) rfl
   have zx3 := hP3.frz 3
   have cx4 := hP3.cell (j := 4) rfl
   have zx4 := hP3.frz 4
   have cx5 := hP3.cell (j := 5) rfl
   have zx5 := hP3.frz 5
   have cx6 := hP3.cell (j := 6) rfl
   have zx6 := hP3.frz 6
   have cx7 := hP3.cell (j := 7) rfl
   have zx7 := hP3.frz 7
   have cx8 := hP3.cell (j := 8) rfl
   have zx8 := hP3.frz 8
   have cx9 := hP3.cell (j := 9) rfl
   have zx9 := hP3.frz 9
   have HF : Aside (∀ W, w3.grownBy W (some w.heap.size) → DecOut l (.returned (.tuple #[.agg recZ, .int .i64 70])) W ∧ Below w.heap.size w W) := fun W hG => by
    have b3 := S2.out.1.trans (g3.mono S2.out.1.size)
    exact ⟨.inl ⟨HN.out, rfl⟩, b3.grown hG b3.size (fun q hq => by injection hq with hq; omega)⟩
   clear hBx3 hP3 g3
   unfold recZ at HF
   go_wp2
   refine bodyPost_ret (v := .tuple #[.agg #[.int .u8 0, .int .u32 0, .int .u32 0, .slice none 0 0, .slice none 0 0, .int .u32 0, .slice none 0 0, .int .i64 0, .int .i64 0, .slice none 0 0], .int .i64 70]) (by simp [results, Tryz.results29, go_sem, *]) rfl (HF.out _ ?_)
   iterate 9 (refine grown_trans ?_ (grown_at _ _ _ _))
   exact grown_at _ _ _ _
  | true =>
   by_cases hlong : (recB (pr r)).length ≤ 60000
   ·have hE : Calls Tryz.prog 34 #[.agg #[.int .u8 r.kind, .int .u32 r.id, .int .u32 r.at_, .slice r.na r.nodes.length r.nc, .slice r.fa r.facts.length r.fc, .int .u32 r.epoch, .slice r.sa r.spans.length r.sc, .int .i64 r.frm, .int .i64 r.til, .slice r.ea r.ents.length r.ec]] w2 fun e w' => ∃ v, e = .returned (.tuple #[v, .int .i64 0]) ∧ Strs w' v (recB (pr r)) ∧ Below w2.heap.size w2 w' := (refEncode_snd w2 r S2.out.2.2.2.2.1.recIn hsnd (snd_ents r hsnd) (snd_small r hsnd)).mono fun e w' ⟨v, h1, h2, h3⟩ => ⟨v, h1.trans (if_pos hlong), h2.strs, h3⟩
    go_wp2_with (go_at_call 34; refine hE.mono ?_; rintro e w3 ⟨va, rfl, hst, g3⟩; refine Hid.out ?_)
    refine hid ?_
    clear hE d0 d1 d2 d3 d4 d5 d6 d7 d8 d9
    have hBx3 := HBx.out.keep g3
    have cb : w3.cell? ⟨w.heap.size + 1, 1, none⟩ = some (.bool true) := by have := hBx3.cell1; rw [hbad] at this; exact this
    have hP3 := S2.out.2.1.below g3
    have cx0 := hP3.cell (j := 0) rfl
    have zx0 := hP3.frz 0
    have cx1 := hP3.cell (j := 1) rfl
    have zx1 := hP3.frz 1
    have cx2 := hP3.cell (j := 2) rfl
    have zx2 := hP3.frz 2
    have cx3 := hP3.cell (j := 3) rfl
    have zx3 := hP3.frz 3
    have cx4 := hP3.cell (j := 4) rfl
    have zx4 := hP3.frz 4
    have cx5 := hP3.cell (j := 5) rfl
    have zx5 := hP3.frz 5
    have cx6 := hP3.cell (j := 6) rfl
    have zx6 := hP3.frz 6
    have cx7 := hP3.cell (j := 7) rfl
    have zx7 := hP3.frz 7
    have cx8 := hP3.cell (j := 8) rfl
    have zx8 := hP3.frz 8
    have cx9 := hP3.cell (j := 9) rfl
    have zx9 := hP3.frz 9
    have HF : Aside (∀ W, w3.grownBy W (some w.heap.size) → DecOut l (.returned (.tuple #[.agg recZ, .int .i64 70])) W ∧ Below w.heap.size w W) := fun W hG => by
     have b3 := S2.out.1.trans (g3.mono S2.out.1.size)
     exact ⟨.inl ⟨HN.out, rfl⟩, b3.grown hG b3.size (fun q hq => by injection hq with hq; omega)⟩
    clear hBx3 hP3 g3
    unfold recZ at HF
    go_wp2
    refine bodyPost_ret (v := .tuple #[.agg #[.int .u8 0, .int .u32 0, .int .u32 0, .slice none 0 0, .slice none 0 0, .int .u32 0, .slice none 0 0, .int .i64 0, .int .i64 0, .slice none 0 0], .int .i64 70]) (by simp [results, Tryz.results29, go_sem, *]) rfl (HF.out _ ?_)
    iterate 9 (refine grown_trans ?_ (grown_at _ _ _ _))
    exact grown_at _ _ _ _
   ·have hE : Calls Tryz.prog 34 #[.agg #[.int .u8 r.kind, .int .u32 r.id, .int .u32 r.at_, .slice r.na r.nodes.length r.nc, .slice r.fa r.facts.length r.fc, .int .u32 r.epoch, .slice r.sa r.spans.length r.sc, .int .i64 r.frm, .int .i64 r.til, .slice r.ea r.ents.length r.ec]] w2 fun e w' => e = .returned (.tuple #[.slice none 0 0, .int .i64 3]) ∧ Below w2.heap.size w2 w' := (refEncode_snd w2 r S2.out.2.2.2.2.1.recIn hsnd (snd_ents r hsnd) (snd_small r hsnd)).mono fun e w' ⟨v, h1, h2, h3⟩ => ⟨h1.trans (if_neg hlong), h3⟩
    go_wp2_with (go_at_call 34; refine hE.mono ?_; rintro e w3 ⟨rfl, g3⟩; refine Hid.out ?_)
    refine hid ?_
    clear hE d0 d1 d2 d3 d4 d5 d6 d7 d8 d9
    have hBx3 := HBx.out.keep g3
    have cb : w3.cell? ⟨w.heap.size + 1, 1, none⟩ = some (.bool true) := by have := hBx3.cell1; rw [hbad] at this; exact this
    have hP3 := S2.out.2.1.below g3
    have cx0 := hP3.cell (j := 0) rfl
    have zx0 := hP3.frz 0
    have cx1 := hP3.cell (j := 1) rfl
    have zx1 := hP3.frz 1
    have cx2 := hP3.cell (j := 2) rfl
    have zx2 := hP3.frz 2
    have cx3 := hP3.cell (j := 3) rfl
    have zx3 := hP3.frz 3
    have cx4 := hP3.cell (j := 4) rfl
    have zx4 := hP3.frz 4
    have cx5 := hP3.cell (j := 5) rfl
    have zx5 := hP3.frz 5
    have cx6 := hP3.cell (j := 6) rfl
    have zx6 := hP3.frz 6
    have cx7 := hP3.cell (j := 7) rfl
    have zx7 := hP3.frz 7
    have cx8 := hP3.cell (j := 8) rfl
    have zx8 := hP3.frz 8
    have cx9 := hP3.cell (j := 9) rfl
    have zx9 := hP3.frz 9
    have HF : Aside (∀ W, w3.grownBy W (some w.heap.size) → DecOut l (.returned (.tuple #[.agg recZ, .int .i64 70])) W ∧ Below w.heap.size w W) := fun W hG => by
     have b3 := S2.out.1.trans (g3.mono S2.out.1.size)
     exact ⟨.inl ⟨HN.out, rfl⟩, b3.grown hG b3.size (fun q hq => by injection hq with hq; omega)⟩
    clear hBx3 hP3 g3
    unfold recZ at HF
    go_wp2
    refine bodyPost_ret (v := .tuple #[.agg #[.int .u8 0, .int .u32 0, .int .u32 0, .slice none 0 0, .slice none 0 0, .int .u32 0, .slice none 0 0, .int .i64 0, .int .i64 0, .slice none 0 0], .int .i64 70]) (by simp [results, Tryz.results29, go_sem, *]) rfl (HF.out _ ?_)
    iterate 9 (refine grown_trans ?_ (grown_at _ _ _ _))
    exact grown_at _ _ _ _
 | false =>
  cases hsnd : sndRec (pr r) with
  | false =>
   have HN : Aside (dec l = none) := by
    cases hd : dec l with
    | none => rfl
    | some x => have h := hDS.out x hd; rw [h.2.1, h.2.2.2] at hsnd; cases hsnd
   have hE : Calls Tryz.prog 34 #[.agg #[.int .u8 r.kind, .int .u32 r.id, .int .u32 r.at_, .slice r.na r.nodes.length r.nc, .slice r.fa r.facts.length r.fc, .int .u32 r.epoch, .slice r.sa r.spans.length r.sc, .int .i64 r.frm, .int .i64 r.til, .slice r.ea r.ents.length r.ec]] w2 fun e w' => e = .returned (.tuple #[.slice none 0 0, .int .i64 1]) ∧ Below w2.heap.size w2 w' := refEncode_no w2 r S2.out.2.2.2.2.1.recIn hsnd
   go_wp2_with (go_at_call 34; refine hE.mono ?_; rintro e w3 ⟨rfl, g3⟩; refine Hid.out ?_)
   refine hid ?_
   clear hE d0 d1 d2 d3 d4 d5 d6 d7 d8 d9
   have hBx3 := HBx.out.keep g3
   have cb : w3.cell? ⟨w.heap.size + 1, 1, none⟩ = some (.bool false) := by have := hBx3.cell1; rw [hbad] at this; exact this
   have hP3 := S2.out.2.1.below g3
   have cx0 := hP3.cell (j := 0) rfl
   have zx0 := hP3.frz 0
   have cx1 := hP3.cell (j := 1) rfl
   have zx1 := hP3.frz 1
   have cx2 := hP3.cell (j := 2) rfl
   have zx2 := hP3.frz 2
   have cx3 := hP3.cell (j := 3) rfl
   have zx3 := hP3.frz 3
   have cx4 := hP3.cell (j := 4) rfl
   have zx4 := hP3.frz 4
   have cx5 := hP3.cell (j := 5) rfl
   have zx5 := hP3.frz 5
   have cx6 := hP3.cell (j := 6) rfl
   have zx6 := hP3.frz 6
   have cx7 := hP3.cell (j := 7) rfl
   have zx7 := hP3.frz 7
   have cx8 := hP3.cell (j := 8) rfl
   have zx8 := hP3.frz 8
   have cx9 := hP3.cell (j := 9) rfl
   have zx9 := hP3.frz 9
   have HF : Aside (∀ W, w3.grownBy W (some w.heap.size) → DecOut l (.returned (.tuple #[.agg recZ, .int .i64 70])) W ∧ Below w.heap.size w W) := fun W hG => by
    have b3 := S2.out.1.trans (g3.mono S2.out.1.size)
    exact ⟨.inl ⟨HN.out, rfl⟩, b3.grown hG b3.size (fun q hq => by injection hq with hq; omega)⟩
   clear hBx3 hP3 g3
   unfold recZ at HF
   go_wp2
   refine bodyPost_ret (v := .tuple #[.agg #[.int .u8 0, .int .u32 0, .int .u32 0, .slice none 0 0, .slice none 0 0, .int .u32 0, .slice none 0 0, .int .i64 0, .int .i64 0, .slice none 0 0], .int .i64 70]) (by simp [results, Tryz.results29, go_sem, *]) rfl (HF.out _ ?_)
   iterate 9 (refine grown_trans ?_ (grown_at _ _ _ _))
   exact grown_at _ _ _ _
  | true =>
   by_cases hlong : (recB (pr r)).length ≤ 60000
   ·by_cases hne : recB (pr r) = l
    ·have HD : Aside (dec l = some (pr r)) := by
      show _ = _
      have h := dec_recB hsnd hTyp.out
      rw [hne] at h
      exact h
     have hE : Calls Tryz.prog 34 #[.agg #[.int .u8 r.kind, .int .u32 r.id, .int .u32 r.at_, .slice r.na r.nodes.length r.nc, .slice r.fa r.facts.length r.fc, .int .u32 r.epoch, .slice r.sa r.spans.length r.sc, .int .i64 r.frm, .int .i64 r.til, .slice r.ea r.ents.length r.ec]] w2 fun e w' => ∃ v, e = .returned (.tuple #[v, .int .i64 0]) ∧ Strs w' v (recB (pr r)) ∧ Below w2.heap.size w2 w' := (refEncode_snd w2 r S2.out.2.2.2.2.1.recIn hsnd (snd_ents r hsnd) (snd_small r hsnd)).mono fun e w' ⟨v, h1, h2, h3⟩ => ⟨v, h1.trans (if_pos hlong), h2.strs, h3⟩
     rw [hne] at hE
     go_wp2_with (go_at_call 34; refine hE.mono ?_; rintro e w3 ⟨va, rfl, hst, g3⟩; refine Hid.out ?_)
     refine hid ?_
     clear hE d0 d1 d2 d3 d4 d5 d6 d7 d8 d9
     have hBx3 := HBx.out.keep g3
     have cb : w3.cell? ⟨w.heap.size + 1, 1, none⟩ = some (.bool false) := by have := hBx3.cell1; rw [hbad] at this; exact this
     have hcv2 := str_of (S2.out.2.2.1.keep g3).mem n c S2.out.2.2.1.len
     have hcv1 := hst w3 (Below.refl _ _)
     have hP3 := S2.out.2.1.below g3
     have cx0 := hP3.cell (j := 0) rfl
     have zx0 := hP3.frz 0
     have cx1 := hP3.cell (j := 1) rfl
     have zx1 := hP3.frz 1
     have cx2 := hP3.cell (j := 2) rfl
     have zx2 := hP3.frz 2
     have cx3 := hP3.cell (j := 3) rfl
     have zx3 := hP3.frz 3
     have cx4 := hP3.cell (j := 4) rfl
     have zx4 := hP3.frz 4
     have cx5 := hP3.cell (j := 5) rfl
     have zx5 := hP3.frz 5
     have cx6 := hP3.cell (j := 6) rfl
     have zx6 := hP3.frz 6
     have cx7 := hP3.cell (j := 7) rfl
     have zx7 := hP3.frz 7
     have cx8 := hP3.cell (j := 8) rfl
     have zx8 := hP3.frz 8
     have cx9 := hP3.cell (j := 9) rfl
     have zx9 := hP3.frz 9
     have hX3 := S2.out.2.2.2.2.2.below g3
     have d0 : w3.cell? ⟨X, 0, none⟩ = some (.int .u8 r.kind) := hX3.cell (j := 0) rfl
     have d1 : w3.cell? ⟨X, 1, none⟩ = some (.int .u32 r.id) := hX3.cell (j := 1) rfl
     have d2 : w3.cell? ⟨X, 2, none⟩ = some (.int .u32 r.at_) := hX3.cell (j := 2) rfl
     have d3 : w3.cell? ⟨X, 3, none⟩ = some (.slice r.na r.nodes.length r.nc) := hX3.cell (j := 3) rfl
     have d4 : w3.cell? ⟨X, 4, none⟩ = some (.slice r.fa r.facts.length r.fc) := hX3.cell (j := 4) rfl
     have d5 : w3.cell? ⟨X, 5, none⟩ = some (.int .u32 r.epoch) := hX3.cell (j := 5) rfl
     have d6 : w3.cell? ⟨X, 6, none⟩ = some (.slice r.sa r.spans.length r.sc) := hX3.cell (j := 6) rfl
     have d7 : w3.cell? ⟨X, 7, none⟩ = some (.int .i64 r.frm) := hX3.cell (j := 7) rfl
     have d8 : w3.cell? ⟨X, 8, none⟩ = some (.int .i64 r.til) := hX3.cell (j := 8) rfl
     have d9 : w3.cell? ⟨X, 9, none⟩ = some (.slice r.ea r.ents.length r.ec) := hX3.cell (j := 9) rfl
     have HF : Aside (∀ W, w3.grownBy W (some w.heap.size) → DecOut l (.returned (.tuple #[.agg #[.int .u8 r.kind, .int .u32 r.id, .int .u32 r.at_, .slice r.na r.nodes.length r.nc, .slice r.fa r.facts.length r.fc, .int .u32 r.epoch, .slice r.sa r.spans.length r.sc, .int .i64 r.frm, .int .i64 r.til, .slice r.ea r.ents.length r.ec], .int .i64 0])) W ∧ Below w.heap.size w W) := fun W hG => by
      have b3 := S2.out.1.trans (g3.mono S2.out.1.size)
      exact ⟨.inr ⟨r, rfl, HD.out, ⟨_, (S2.out.2.2.2.2.1.far (grown_below g3) (far_none _ _) (far_none _ _) (far_none _ _) (far_none _ _)).far hG (hP3.far (by decide)) (hP3.far (by decide)) (hP3.far (by decide)) (hP3.far (by decide))⟩⟩, b3.grown hG b3.size (fun q hq => by injection hq with hq; omega)⟩
     clear hX3
     clear hBx3 hP3 g3
     skip
     go_wp2
     refine bodyPost_ret (v := .tuple #[.agg #[.int .u8 r.kind, .int .u32 r.id, .int .u32 r.at_, .slice r.na r.nodes.length r.nc, .slice r.fa r.facts.length r.fc, .int .u32 r.epoch, .slice r.sa r.spans.length r.sc, .int .i64 r.frm, .int .i64 r.til, .slice r.ea r.ents.length r.ec], .int .i64 0]) (by simp [results, Tryz.results29, go_sem, *]) rfl (HF.out _ ?_)
     iterate 9 (refine grown_trans ?_ (grown_at _ _ _ _))
     exact grown_at _ _ _ _
    ·have HN : Aside (dec l = none) := by
      cases hd : dec l with
      | none => rfl
      | some x => have h := hDS.out x hd; exact absurd (by rw [h.2.1, ← h.2.2.1]) hne
     have hE : Calls Tryz.prog 34 #[.agg #[.int .u8 r.kind, .int .u32 r.id, .int .u32 r.at_, .slice r.na r.nodes.length r.nc, .slice r.fa r.facts.length r.fc, .int .u32 r.epoch, .slice r.sa r.spans.length r.sc, .int .i64 r.frm, .int .i64 r.til, .slice r.ea r.ents.length r.ec]] w2 fun e w' => ∃ v, e = .returned (.tuple #[v, .int .i64 0]) ∧ Strs w' v (recB (pr r)) ∧ Below w2.heap.size w2 w' := (refEncode_snd w2 r S2.out.2.2.2.2.1.recIn hsnd (snd_ents r hsnd) (snd_small r hsnd)).mono fun e w' ⟨v, h1, h2, h3⟩ => ⟨v, h1.trans (if_pos hlong), h2.strs, h3⟩
     go_wp2_with (go_at_call 34; refine hE.mono ?_; rintro e w3 ⟨va, rfl, hst, g3⟩; refine Hid.out ?_)
     refine hid ?_
     clear hE d0 d1 d2 d3 d4 d5 d6 d7 d8 d9
     have hBx3 := HBx.out.keep g3
     have cb : w3.cell? ⟨w.heap.size + 1, 1, none⟩ = some (.bool false) := by have := hBx3.cell1; rw [hbad] at this; exact this
     have hcv2 := str_of (S2.out.2.2.1.keep g3).mem n c S2.out.2.2.1.len
     have hcv1 := hst w3 (Below.refl _ _)
     have hsn : (recB (pr r) == l) = false := by simpa using hne
     have hP3 := S2.out.2.1.below g3
     have cx0 := hP3.cell (j := 0) rfl
     have zx0 := hP3.frz 0
     have cx1 := hP3.cell (j := 1) rfl
     have zx1 := hP3.frz 1
     have cx2 := hP3.cell (j := 2) rfl
     have zx2 := hP3.frz 2
     have cx3 := hP3.cell (j := 3) rfl
     have zx3 := hP3.frz 3
     have cx4 := hP3.cell (j := 4) rfl
     have zx4 := hP3.frz 4
     have cx5 := hP3.cell (j := 5) rfl
     have zx5 := hP3.frz 5
     have cx6 := hP3.cell (j := 6) rfl
     have zx6 := hP3.frz 6
     have cx7 := hP3.cell (j := 7) rfl
     have zx7 := hP3.frz 7
     have cx8 := hP3.cell (j := 8) rfl
     have zx8 := hP3.frz 8
     have cx9 := hP3.cell (j := 9) rfl
     have zx9 := hP3.frz 9
     have HF : Aside (∀ W, w3.grownBy W (some w.heap.size) → DecOut l (.returned (.tuple #[.agg recZ, .int .i64 70])) W ∧ Below w.heap.size w W) := fun W hG => by
      have b3 := S2.out.1.trans (g3.mono S2.out.1.size)
      exact ⟨.inl ⟨HN.out, rfl⟩, b3.grown hG b3.size (fun q hq => by injection hq with hq; omega)⟩
     clear hBx3 hP3 g3
     unfold recZ at HF
     go_wp2
     refine bodyPost_ret (v := .tuple #[.agg #[.int .u8 0, .int .u32 0, .int .u32 0, .slice none 0 0, .slice none 0 0, .int .u32 0, .slice none 0 0, .int .i64 0, .int .i64 0, .slice none 0 0], .int .i64 70]) (by simp [results, Tryz.results29, go_sem, *]) rfl (HF.out _ ?_)
     iterate 9 (refine grown_trans ?_ (grown_at _ _ _ _))
     exact grown_at _ _ _ _
   ·have HN : Aside (dec l = none) := by
     cases hd : dec l with
     | none => rfl
     | some x => have h := hDS.out x hd; rw [h.2.1, ← h.2.2.1, HLN.out] at hlong; omega
    have hE : Calls Tryz.prog 34 #[.agg #[.int .u8 r.kind, .int .u32 r.id, .int .u32 r.at_, .slice r.na r.nodes.length r.nc, .slice r.fa r.facts.length r.fc, .int .u32 r.epoch, .slice r.sa r.spans.length r.sc, .int .i64 r.frm, .int .i64 r.til, .slice r.ea r.ents.length r.ec]] w2 fun e w' => e = .returned (.tuple #[.slice none 0 0, .int .i64 3]) ∧ Below w2.heap.size w2 w' := (refEncode_snd w2 r S2.out.2.2.2.2.1.recIn hsnd (snd_ents r hsnd) (snd_small r hsnd)).mono fun e w' ⟨v, h1, h2, h3⟩ => ⟨h1.trans (if_neg hlong), h3⟩
    go_wp2_with (go_at_call 34; refine hE.mono ?_; rintro e w3 ⟨rfl, g3⟩; refine Hid.out ?_)
    refine hid ?_
    clear hE d0 d1 d2 d3 d4 d5 d6 d7 d8 d9
    have hBx3 := HBx.out.keep g3
    have cb : w3.cell? ⟨w.heap.size + 1, 1, none⟩ = some (.bool false) := by have := hBx3.cell1; rw [hbad] at this; exact this
    have hP3 := S2.out.2.1.below g3
    have cx0 := hP3.cell (j := 0) rfl
    have zx0 := hP3.frz 0
    have cx1 := hP3.cell (j := 1) rfl
    have zx1 := hP3.frz 1
    have cx2 := hP3.cell (j := 2) rfl
    have zx2 := hP3.frz 2
    have cx3 := hP3.cell (j := 3) rfl
    have zx3 := hP3.frz 3
    have cx4 := hP3.cell (j := 4) rfl
    have zx4 := hP3.frz 4
    have cx5 := hP3.cell (j := 5) rfl
    have zx5 := hP3.frz 5
    have cx6 := hP3.cell (j := 6) rfl
    have zx6 := hP3.frz 6
    have cx7 := hP3.cell (j := 7) rfl
    have zx7 := hP3.frz 7
    have cx8 := hP3.cell (j := 8) rfl
    have zx8 := hP3.frz 8
    have cx9 := hP3.cell (j := 9) rfl
    have zx9 := hP3.frz 9
    have HF : Aside (∀ W, w3.grownBy W (some w.heap.size) → DecOut l (.returned (.tuple #[.agg recZ, .int .i64 70])) W ∧ Below w.heap.size w W) := fun W hG => by
     have b3 := S2.out.1.trans (g3.mono S2.out.1.size)
     exact ⟨.inl ⟨HN.out, rfl⟩, b3.grown hG b3.size (fun q hq => by injection hq with hq; omega)⟩
    clear hBx3 hP3 g3
    unfold recZ at HF
    go_wp2
    refine bodyPost_ret (v := .tuple #[.agg #[.int .u8 0, .int .u32 0, .int .u32 0, .slice none 0 0, .slice none 0 0, .int .u32 0, .slice none 0 0, .int .i64 0, .int .i64 0, .slice none 0 0], .int .i64 70]) (by simp [results, Tryz.results29, go_sem, *]) rfl (HF.out _ ?_)
    iterate 9 (refine grown_trans ?_ (grown_at _ _ _ _))
    exact grown_at _ _ _ _
end code
end Go.Proofs.YtlcjllgfpfldlaaGreat
