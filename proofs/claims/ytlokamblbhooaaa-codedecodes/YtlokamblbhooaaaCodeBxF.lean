/-
  The chapter's reader: facts.
-/
import Derived.Test.YtlokamblbhooaaaCodeBxN
import Derived.Test.YtlokamblbhooaaaCodeMakeB
namespace Go.Proofs.Ytlokamblbhooaaa.code
open Go.ChangeShapes Go.WideShapes Go.ChangeAt Go.RowKit Go.Deep
open Go.Proofs.Ytlokamblbhooaaa.dims (nth Ints cell_lt vals vals_len vals_get vals_one vals_app own_below own_mono own_out own_apart RowOut ret_bool ret_int)
set_option linter.unusedVariables false
set_option maxRecDepth 100000
set_option linter.unusedSimpArgs false

theorem rdWhile_step {α : Type} {p : Rd → α × Rd} {n j : Nat} {s0 sk : Rd} {xs : List α} (h : rdWhile p n s0 = (xs ++ (rdWhile p (j + 1) sk).1, (rdWhile p (j + 1) sk).2)) (hb : sk.2 = false) :
    rdWhile p n s0 = ((xs ++ [(p sk).1]) ++ (rdWhile p j (p sk).2).1, (rdWhile p j (p sk).2).2) := by
  rw [h]
  simp [rdWhile, hb]
theorem rdWhile_stop {α : Type} {p : Rd → α × Rd} {n m : Nat} {s0 sk : Rd} {xs : List α} (h : rdWhile p n s0 = (xs ++ (rdWhile p m sk).1, (rdWhile p m sk).2)) (hb : sk.2 = true ∨ m = 0) : rdWhile p n s0 = (xs, sk) := by
  rw [h]
  cases m with
  | zero => simp [rdWhile]
  | succ m =>
    have hb2 : sk.2 = true := hb.resolve_right (by omega)
    simp [rdWhile, hb2]
theorem rdTimes_len {α : Type} {p : Rd → α × Rd} (hp : ∀ s, (p s).2.1.length ≤ s.1.length) : ∀ n s, (rdTimes p n s).2.1.length ≤ s.1.length
  | 0, s => Nat.le_refl _
  | n + 1, s => Nat.le_trans (rdTimes_len hp n (p s).2) (hp s)
theorem rdWhile_len {α : Type} {p : Rd → α × Rd} (hp : ∀ s, (p s).2.1.length ≤ s.1.length) : ∀ n s, (rdWhile p n s).2.1.length ≤ s.1.length
  | 0, s => Nat.le_refl _
  | n + 1, s => by
    unfold rdWhile
    split
    · exact Nat.le_refl _
    · exact Nat.le_trans (rdWhile_len hp n (p s).2) (hp s)
theorem rdFact_len (s : Rd) : (rdFact s).2.1.length ≤ s.1.length :=
  Nat.le_trans (rdGet_len 8 _) (Nat.le_trans (rdTimes_len (p := rdInt 4) (fun s => rdGet_len 4 s) _ _) (rdMany_len 1 4 s))
theorem rdFacts_len (s : Rd) : (rdFacts s).2.1.length ≤ s.1.length := Nat.le_trans (rdWhile_len rdFact_len _ _) (rdMany_len 4 9 s)

theorem BxL.drew {R : Nat} {w : World} {s : Rd} (h : BxL R w s) : BxL R w.drew s := h.keep (Below.refl _ _).drew
/-- a fact in a variable while it is read -/
structure FR (R : Nat) (W1 : World) (v : Int) (ks : List Int) (a : Option Addr) (j c : Nat) (s : Rd) (W : World) : Prop where
  box : Boxed W W1.heap.size #[.slice a j c, .int .i64 v] 53
  own : W.ownsRow (W1.heap.size + 1) 3 1 (.slice a j c) j (vals ks)
  len : ks.length = j
  all : ∀ x ∈ ks, I64 x
  wb : Wb R W1 W s
theorem FR.start {R : Nat} {W : World} {s : Rd} (h : BxL R W s) : FR R W 0 [] none 0 0 s (W.alloc (.cells #[.slice none 0 0, .int .i64 0] 53)) :=
  ⟨Boxed.new _ _ _, World.ownsRow_nil _ _ _ _, rfl, by simp, Wb.start h ((Below.refl _ _).alloc (Nat.le_refl _) _)⟩
theorem FR.moved {R : Nat} {W1 W W' : World} {v : Int} {ks : List Int} {a : Option Addr} {j c : Nat} {s s' : Rd} (h : FR R W1 v ks a j c s W) (hR : R < W1.heap.size) (g : Wb R W W' s') : FR R W1 v ks a j c s' W' :=
  ⟨h.box.grown g.grown (by simp only [ne_eq, Option.some.injEq]; omega), own_far h.own g.grown (h.wb.rdr.far (by decide)), h.len, h.all, h.wb.trans g⟩
theorem FR.drew {R : Nat} {W1 W : World} {v : Int} {ks : List Int} {a : Option Addr} {j c : Nat} {s : Rd} (h : FR R W1 v ks a j c s W) (hR : R < W1.heap.size) : FR R W1 v ks a j c s W.drew :=
  h.moved hR (Wb.start h.wb.rdr (Below.refl _ _).drew)
theorem FR.push {R : Nat} {W1 W w3 : World} {v : Int} {ks : List Int} {a : Option Addr} {j c g c3 : Nat} {s : Rd} {x : Int} {o : Obj} (h : FR R W1 v ks a j c s W) (hR : R < W1.heap.size) (hg : (W.alloc o).grownBy w3 (Value.slice a j c).ownBlock)
    (hown : w3.ownsRow (W1.heap.size + 1) 3 1 (.slice (some ⟨g, 0, none⟩) (j + 1) c3) (j + 1) (vals ks ++ [.int .i64 x])) (hx : I64 x) :
    FR R W1 v (ks ++ [x]) (some ⟨g, 0, none⟩) (j + 1) c3 s (w3.setCell ⟨W1.heap.size, 0, none⟩ (.slice (some ⟨g, 0, none⟩) (j + 1) c3)) := by
  have hlow : ∀ q, (Value.slice a j c).ownBlock = some q → W1.heap.size + 1 ≤ q := fun q hq => (World.ownsRow.lt h.own _ hq).1
  have hne : some W1.heap.size ≠ (Value.slice a j c).ownBlock := fun e => by have := hlow _ e.symm; omega
  have hb0 : Below W.heap.size W (W.alloc o) := (Below.refl _ _).alloc (Nat.le_refl _) o
  have hbx := (h.box.below hb0).grown hg hne
  refine ⟨hbx.set 0 _, ?_, by simp [h.len], fun y hy => ?_, ?_⟩
  · have e : vals (ks ++ [x]) = vals ks ++ [Value.int .i64 x] := by simp [vals]
    rw [e]
    refine hown.kept (grown_at _ _ _ _) (Or.inr ?_)
    intro e1
    have := (World.ownsRow.lt hown _ e1).1
    omega
  · rcases List.mem_append.1 hy with hy | hy
    · exact h.all y hy
    · simp only [List.mem_singleton] at hy
      subst hy
      exact hx
  · exact ((h.wb.below hb0 hR).row hg (fun q hq => by have := hlow q hq; omega) hR).row (grown_at _ _ _ _) (fun q hq => by injection hq with hq; omega) hR
theorem FR.num {R : Nat} {W1 W : World} {v : Int} {ks : List Int} {a : Option Addr} {j c : Nat} {s : Rd} (h : FR R W1 v ks a j c s W) (hR : R < W1.heap.size) (y : Int) : FR R W1 y ks a j c s (W.setCell ⟨W1.heap.size, 1, none⟩ (.int .i64 y)) := by
  refine ⟨h.box.set 1 _, ?_, h.len, h.all, ?_⟩
  · refine h.own.kept (grown_at _ _ _ _) (Or.inr ?_)
    intro e1
    have := (World.ownsRow.lt h.own _ e1).1
    omega
  · exact h.wb.row (grown_at _ _ _ _) (fun q hq => by injection hq with hq; omega) hR
theorem FR.fact {R : Nat} {W1 W : World} {v : Int} {ks : List Int} {a : Option Addr} {j c B : Nat} {s : Rd} (h : FR R W1 v ks a j c s W) (hB : B ≤ W1.heap.size) (hv : I64 v) : FtOwn B W ⟨a, c, ks, v⟩ := by
  obtain rfl := h.len
  exact ⟨own_mono h.own (by omega), h.all, hv⟩
theorem FsOwn.moved {B R : Nat} {W W' : World} {v : Value} {os : List Ft} {s s' : Rd} (h : FsOwn B W v os) (hR : BxL R W s) (g : Wb R W W' s') : FsOwn B W' v os := h.far g.grown (hR.far (by decide)) (hR.far (by decide))
theorem i64_small {x : Nat} (h : x < 4294967296) : IntKind.i64.wrap (x : Int) = (x : Int) := by rw [IntKind.wrap_i64]; omega
/-- facts that were read -/
def FsRes (B : Nat) (ys : List PFact) (v : Value) (W : World) : Prop := ∃ os, FsOwn B W v os ∧ os.map pf = ys
theorem asI64_ok (n : Nat) (h : n < 18446744073709551616) : I64 (asI64 n) := by unfold I64 asI64; split <;> omega

set_option maxHeartbeats 16000000 in
theorem facts_rd (R B : Nat) (w : World) (s : Rd) (hB : B ≤ w.heap.size) (hR : BxL R w s) (hl : s.1.length ≤ 60000) :
    Calls Try.prog 70 #[.pointer (some ⟨R, 0, none⟩)] w fun e w' => ∃ v, e = .returned v ∧ FsRes B (rdFacts s).1 v w' ∧ Wb R w w' (rdFacts s).2 := by
  obtain ⟨i0, hi, hz0, hz1, hz2⟩ := info_parts info_int2
  obtain ⟨j0, hj, hy0, hy1, hy2⟩ := info_parts info_fact
  have hRlt := hR.lt
  have hM := many_any R 4 9 w s hR (by omega) (by omega) (by omega) (by omega) hl
  have h2 := rdMany_len 4 9 s
  have h3 := rdMany_le 4 9 s
  unfold rdFacts
  generalize rdMany 4 9 s = g at hM h2 h3 ⊢
  obtain ⟨n, s1⟩ := g
  simp only at hM h2 h3 ⊢
  have hn6 : n ≤ 60000 := by omega
  have H : Aside (B ≤ w.heap.size ∧ s1.1.length ≤ 60000) := ⟨hB, by omega⟩
  clear hB hR h2 h3 hl
  go_enter Try.func70, Try.ntmps70
  go_wp2_with (go_at_call 71; refine hM.mono ?_; rintro e w1 ⟨rfl, hW1⟩; refine Hid.out ?_)
  refine hid ?_
  have HW1 : Aside (Wb R w w1 s1) := hW1
  clear hM hW1
  go_wp2_with fail
  go_loopg [3, 5] n (fun g1 vv vi wr => ∃ (k : Nat) (av : Option Addr) (cv : Nat), vv = .slice av k cv ∧ vi = .int .i64 k ∧ k ≤ n ∧ n - k ≤ g1 ∧ Aside (∃ (os : List Ft) (sk : Rd), FsOwn w.heap.size wr (.slice av k cv) os ∧ os.length = k ∧ Wb R w wr sk ∧ sk.1.length ≤ 60000 ∧ rdWhile rdFact n s1 = (os.map pf ++ (rdWhile rdFact (n - k) sk).1, (rdWhile rdFact (n - k) sk).2)))
  case atStart => exact ⟨0, none, 0, rfl, rfl, Nat.zero_le _, Nat.le_refl _, [], s1, fs_nil _ _, rfl, HW1.out, H.out.2, by simp⟩
  case round =>
    obtain ⟨k, av, cv, rfl, rfl, hk, hgk, SK⟩ := hrel
    by_cases hlt : k < n
    · have hltz : (k : Int) < (n : Int) := by omega
      obtain ⟨os, sk, hx1, hx2, hx4, hx5, hx6⟩ := SK.out
      obtain ⟨aR, nR, cR, hBx⟩ := hx4.rdr
      have c1 := hBx.cell1
      clear hBx
      by_cases hbad : sk.2 = true
      · rw [hbad] at c1
        have S3 : Aside (∃ (os : List Ft) (sk : Rd), FsOwn w.heap.size wr (.slice av k cv) os ∧ Wb R w wr sk ∧ rdWhile rdFact n s1 = (os.map pf, sk)) := ⟨os, sk, hx1, hx4, rdWhile_stop hx6 (.inl hbad)⟩
        clear SK hx1 hx2 hx4 hx5 hx6 hbad
        go_wp2
        go_ret
        obtain ⟨os, sk, a1, a2, a3⟩ := S3.out
        rw [a3]
        exact ⟨_, rfl, ⟨os, a1.mono H.out.1, rfl⟩, a2⟩
      have hbad2 : sk.2 = false := by simpa using hbad
      rw [hbad2] at c1
      obtain ⟨jj, hjj⟩ : ∃ jj, n - k = jj + 1 := ⟨n - k - 1, by omega⟩
      rw [hjj] at hx6
      have hx7 := rdWhile_step hx6 hbad2
      have hflen := rdFact_len sk
      obtain ⟨sf, hsf⟩ : ∃ sf, (rdFact sk).2 = sf := ⟨_, rfl⟩
      obtain ⟨yf, hyf⟩ : ∃ yf, (rdFact sk).1 = yf := ⟨_, rfl⟩
      rw [hsf, hyf] at hx7
      rw [hsf] at hflen
      generalize hWr : wr = W1 at *
      clear hWr
      have hsz : w.heap.size ≤ W1.heap.size := hx4.grown.size
      have hR1 : R < W1.heap.size := by omega
      have FcS := FR.start hx4.rdr
      have HK : Aside (FsOwn w.heap.size W1 (.slice av k cv) os ∧ os.length = k ∧ Wb R w W1 sk ∧ sf.1.length ≤ 60000 ∧ rdWhile rdFact n s1 = ((os.map pf ++ [yf]) ++ (rdWhile rdFact jj sf).1, (rdWhile rdFact jj sf).2) ∧ n - k = jj + 1) := ⟨hx1, hx2, hx4, by omega, hx7, hjj⟩
      unfold rdFact at hsf hyf
      have hM := many_any R 1 4 _ sk FcS.wb.rdr (by omega) (by omega) (by omega) (by omega) hx5
      have hm1 := rdMany_len 1 4 sk
      have hm2 := rdMany_le 1 4 sk
      generalize rdMany 1 4 sk = gm at hM hm1 hm2 hsf hyf
      obtain ⟨m, sm⟩ := gm
      simp only at hM hm1 hm2 hsf hyf
      have hm6 : m ≤ 60000 := by omega
      have HF : Aside (((rdTimes (rdInt 4) m sm).1, asI64 (rdGet 8 (rdTimes (rdInt 4) m sm).2).1) = yf ∧ (rdGet 8 (rdTimes (rdInt 4) m sm).2).2 = sf) := ⟨hyf, hsf⟩
      have HFS : Aside (FR R W1 0 [] none 0 0 sk (W1.alloc (.cells #[.slice none 0 0, .int .i64 0] 53)) ∧ sm.1.length ≤ 60000) := ⟨FcS, by omega⟩
      clear SK hx1 hx2 hx4 hx5 hx6 hx7 hbad hbad2 hjj hflen hsf hyf FcS hm1 hm2
      go_wp2_with (go_at_call 71; refine hM.mono ?_; rintro e w2 ⟨rfl, hW2⟩; refine Hid.out ?_)
      refine hid ?_
      have HF2 : Aside (FR R W1 0 [] none 0 0 sm w2) := HFS.out.1.moved hR1 hW2
      clear hM hW2
      go_wp2_with fail
      go_loopg [8] m (fun g2 vk wr => ∃ (j : Nat) (a2 : Option Addr) (c2 : Nat) (y0 : Nat), vk = .int .i64 j ∧ j ≤ m ∧ m - j ≤ g2 ∧ Aside (∃ ks sj, FR R W1 0 ks a2 j c2 sj wr ∧ rdTimes (rdInt 4) m sm = (ks ++ (rdTimes (rdInt 4) (m - j) sj).1, (rdTimes (rdInt 4) (m - j) sj).2)))
      case atStart => exact ⟨0, none, 0, 0, rfl, Nat.zero_le _, Nat.le_refl _, [], sm, HF2.out, by simp⟩
      case round =>
        clear HF2 HFS
        obtain ⟨j, a2, c2, y0, rfl, hjm, hg2, SJ⟩ := hrel
        obtain ⟨ks, sj, hf1, hf2⟩ := SJ.out
        have q0 := hf1.box.cell (j := 0) rfl
        have z0 := hf1.box.frz 0
        have z1 := hf1.box.frz 1
        have hbl := hf1.box.lt
        by_cases hltj : j < m
        · have hltjz : (j : Int) < (m : Int) := by omega
          obtain ⟨ii, hii⟩ : ∃ ii, m - j = ii + 1 := ⟨m - j - 1, by omega⟩
          rw [hii] at hf2
          have hf3 := rdTimes_step hf2
          unfold rdInt at hf3
          have hC := get_any R 4 wr.drew sj hf1.wb.rdr.drew (by omega) (by omega)
          have hx4 := rdGet_lt4 sj (k := 4) (by omega)
          obtain ⟨x, hx⟩ : ∃ x, (rdGet 4 sj).1 = x := ⟨_, rfl⟩
          obtain ⟨s2, hs2⟩ : ∃ s2, (rdGet 4 sj).2 = s2 := ⟨_, rfl⟩
          rw [hx, hs2] at hf3 hC
          rw [hx] at hx4
          have HXW : Hid (IntKind.i64.wrap (x : Int) = (x : Int)) := i64_small hx4
          have hx64 : I64 (IntKind.i64.wrap (x : Int)) := by rw [HXW.out]; unfold I64; omega
          have hfd := hf1.drew hR1
          have HM : ∀ W, Wb R wr.drew W s2 → FR R W1 0 ks a2 j c2 s2 W := fun W hW => hfd.moved hR1 hW
          have HJ : Aside (rdTimes (rdInt 4) m sm = ((ks ++ [(x : Int)]) ++ (rdTimes (rdInt 4) ii s2).1, (rdTimes (rdInt 4) ii s2).2) ∧ m - j = ii + 1) := ⟨hf3, hii⟩
          clear SJ hf1 hf2 hf3 hfd hx hs2 hii
          go_wp2_with fail
          go_region_law (first
            | (go_simp; refine hC.mono ?_; rintro e wf ⟨rfl, hWf⟩; have hFR := HM _ hWf; have q0f := hFR.box.cell (j := 0) rfl; have hownF := hFR.own; have hszF : W1.heap.size < wf.heap.size := hFR.box.lt)
            | (refine step_append_lies _ (by rfl) _ _ _ (by rfl) (W1.heap.size + 1) 3 i0 _ 1 8 Try.underlying23 hi hz0 hz1 hz2 rfl (by decide) _ j _ (by rfl) (World.ownsRow.alloc hownF _) ⟨wf.heap.size, 0, none⟩ 1 1 [.int .i64 (IntKind.i64.wrap (x : Int))] (by rfl) rfl (cell_one_new wf _ _) (by intro u hu; simp at hu; subst hu; rfl) (by decide) (by unfold maxLen; omega) (by omega) (by first | omega | (simp; done) | (simp; omega)) _ rfl ?_; intro g3 c3 w3 hown3 hgrow hat hglt; have hS := hFR.push hR1 hgrow hown3 hx64; have hx3 := (hFR.box.below ((Below.refl _ _).alloc (Nat.le_refl _) _)).grown hgrow (fun e => by have := (World.ownsRow.lt hownF _ e.symm).1; omega); have q3 := hx3.cell (j := 0) rfl; have z3 := hx3.frz 0))
          · have S2 : Aside _ := hS
            rw [HXW.out] at S2
            clear hown3 hgrow hat hglt hx3 q3 z3 hS hownF hFR q0f hszF hWf HM hC q0 z0 z1
            go_wp2
            go_roundg (m - (j + 1))
            case measure => omega
            case rel => exact ⟨j + 1, _, _, 0, by go_num, by omega, by omega, _, _, S2.out, by rw [show m - (j + 1) = ii by have := HJ.out.2; omega]; exact HJ.out.1⟩
          · have S2 : Aside _ := hS
            rw [HXW.out] at S2
            clear hown3 hgrow hat hglt hx3 q3 z3 hS hownF hFR q0f hszF hWf HM hC q0 z0 z1
            go_wp2
            go_roundg (m - (j + 1))
            case measure => omega
            case rel => exact ⟨j + 1, _, _, 0, by go_num, by omega, by omega, _, _, S2.out, by rw [show m - (j + 1) = ii by have := HJ.out.2; omega]; exact HJ.out.1⟩
          · have S2 : Aside _ := hS
            rw [HXW.out] at S2
            clear hown3 hgrow hat hglt hx3 q3 z3 hS hownF hFR q0f hszF hWf HM hC q0 z0 z1
            go_wp2
            go_roundg (m - (j + 1))
            case measure => omega
            case rel => exact ⟨j + 1, _, _, 0, by go_num, by omega, by omega, _, _, S2.out, by rw [show m - (j + 1) = ii by have := HJ.out.2; omega]; exact HJ.out.1⟩
        · have hltjz : ¬ (j : Int) < (m : Int) := by omega
          rw [show m - j = 0 by omega] at hf2
          have hf3 := rdTimes_end hf2
          have hG := get_any R 8 wr sj hf1.wb.rdr (by omega) (by omega)
          have hvlt := rdGet_lt sj (k := 8) (by omega)
          have hF1 := HF.out
          rw [hf3] at hF1
          obtain ⟨y, hy⟩ : ∃ y, (rdGet 8 sj).1 = y := ⟨_, rfl⟩
          obtain ⟨s2, hs2⟩ : ∃ s2, (rdGet 8 sj).2 = s2 := ⟨_, rfl⟩
          rw [hy, hs2] at hG
          rw [hy] at hvlt
          simp only at hF1
          rw [hy, hs2] at hF1
          have hyw : wrap64 (y : Int) = asI64 y := wrap_asI64 hvlt
          have hy64 := asI64_ok y hvlt
          generalize asI64 y = v at hyw hy64 hF1
          have HE : Aside (FR R W1 0 ks a2 j c2 sj wr ∧ (ks, v) = yf ∧ s2 = sf ∧ I64 v) := ⟨hf1, hF1.1, hF1.2, hy64⟩
          clear SJ hf1 hf2 hf3 hF1 hy hs2 HF hy64 q0 z0
          go_wp2_with (go_at_call 68; refine hG.mono ?_; rintro e w4 ⟨rfl, hW4⟩; refine Hid.out ?_)
          refine hid ?_
          have hF4 := HE.out.1.moved hR1 hW4
          have q1 := hF4.box.cell (j := 1) rfl
          have z4 := hF4.box.frz 1
          have HF5 : Aside (FR R W1 v ks a2 j c2 s2 (w4.setCell ⟨W1.heap.size, 1, none⟩ (.int .i64 v))) := hF4.num hR1 v
          clear hG hW4 hF4 z1 hbl
          go_upto_region 13 with fail
          generalize w4.setCell ⟨W1.heap.size, 1, none⟩ (.int .i64 v) = w5 at HF5 ⊢
          clear q1 z4
          have q0 := HF5.out.box.cell (j := 0) rfl
          have q1 := HF5.out.box.cell (j := 1) rfl
          have hFs := HK.out.1.moved HK.out.2.2.1.rdr HF5.out.wb
          have hbz : w.heap.size ≤ w5.heap.size := Nat.le_trans hsz HF5.out.wb.grown.size
          have hown2 : w5.ownsRow w.heap.size 53 2 (.slice av k cv) k (os.flatMap factC) := by have h := hFs.own; rw [HK.out.2.1] at h; exact h
          have HFs : Aside (FsOwn w.heap.size w5 (.slice av k cv) os) := hFs
          clear hFs
          go_wp2_with (at_builtin; refine wpList_append_lies _ rfl _ _ 24 rfl w.heap.size 53 j0 _ 2 32 Try.underlying24 hj hy0 hy1 hy2 rfl (by decide) _ k _ rfl (hown2.alloc _) ⟨w5.heap.size, 0, none⟩ 1 1 [Value.slice a2 j c2, Value.int .i64 v] rfl rfl (cells_two_new _ _ _ _) (by intro u hu; simp at hu; first | (rcases hu with rfl | rfl <;> rfl) | (subst hu; rfl)) (by omega) (by unfold maxLen; omega) (by omega) (by simp; omega) (w5.heap.size + 1) (by simp) ?_; intro g3 c3 w3 hown3 hgrow hat hglt)
          have S3 : Aside (∃ (os : List Ft) (sk : Rd), FsOwn w.heap.size w3 (.slice (some ⟨g3, 0, none⟩) (k + 1) c3) os ∧ os.length = k + 1 ∧ Wb R w w3 sk ∧ sk.1.length ≤ 60000 ∧ rdWhile rdFact n s1 = (os.map pf ++ (rdWhile rdFact (n - (k + 1)) sk).1, (rdWhile rdFact (n - (k + 1)) sk).2)) := by
            refine ⟨os ++ [⟨a2, c2, ks, v⟩], sf, HFs.out.push (f := ⟨a2, c2, ks, v⟩) HK.out.2.1 (HF5.out.fact hsz HE.out.2.2.2) hgrow ?_, by simp [HK.out.2.1], ?_, HK.out.2.2.2.1, ?_⟩
            · show w3.ownsRow w.heap.size 53 2 _ (k + 1) (os.flatMap factC ++ [.slice a2 ks.length c2, .int .i64 v])
              rw [HF5.out.len]; exact hown3
            · have h := HK.out.2.2.1.trans HF5.out.wb
              rw [HE.out.2.2.1] at h
              exact (h.below (by (repeat (first | with_reducible exact Below.refl _ _ | (with_reducible refine Below.drew ?_) | (with_reducible refine Below.alloc ?_ (by first | omega | (simp; done) | (simp; omega)) _) | (with_reducible refine Below.setCell ?_ (by first | exact Nat.le_refl _ | omega | (simp; done) | (simp; omega)) _)))) hRlt).row hgrow (fun q hq => (World.ownsRow.lt hown2 _ hq).1) hRlt
            · rw [show n - (k + 1) = jj by have := HK.out.2.2.2.2.2; omega, HK.out.2.2.2.2.1, ← HE.out.2.1]
              simp [pf]
          clear hown3 hgrow hat hglt hown2 q0 q1
          go_wp2
          go_roundg (n - (k + 1))
          case measure => omega
          case rel => exact ⟨k + 1, _, _, rfl, by go_num, by omega, by omega, S3⟩
    · have hltz : ¬ (k : Int) < (n : Int) := by omega
      have S3 : Aside (∃ (os : List Ft) (sk : Rd), FsOwn w.heap.size wr (.slice av k cv) os ∧ Wb R w wr sk ∧ rdWhile rdFact n s1 = (os.map pf, sk)) := by
        obtain ⟨os, sk, a1, a2, a3, a4, a5⟩ := SK.out
        exact ⟨os, sk, a1, a3, rdWhile_stop a5 (.inr (by omega))⟩
      clear SK
      go_wp2
      go_ret
      obtain ⟨os, sk, a1, a2, a3⟩ := S3.out
      rw [a3]
      exact ⟨_, rfl, ⟨os, a1.mono H.out.1, rfl⟩, a2⟩
end Go.Proofs.Ytlokamblbhooaaa.code
