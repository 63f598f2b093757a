/-
 The chapter's reader: its box, its Get and its Many.
 The chapter's reader: how many there are to be.
 The chapter's reader: nodes.
-/
import Derived.Test.YtlcjllgfpfldlaaGreatWalZ22K
set_option maxHeartbeats 8000000
open Go.ChangeShapes Go.WideShapes Go.ChangeAt Go.RowKit Go.Deep
set_option linter.unusedVariables false
set_option maxRecDepth 100000
set_option linter.unusedSimpArgs false
namespace Go.Proofs.YtlcjllgfpfldlaaGreat
namespace code
open dims (cell_lt vals own_mono ret_int)
structure Bx (R : Nat) (w : World) (a : Option Addr) (n c : Nat) (s : Rd) : Prop where
 box : w.heap[R]? = some (.cells #[.slice a n c, .bool s.2] 101 (0, 0))
 len : s.1.length = n
 cap : n ≤ c
 low : s.1 ≠ [] → ∀ p, a = some p → p.block < R
 mem : ByIn w a s.1
theorem Bx.cell0 {R n c : Nat} {w : World} {a : Option Addr} {s : Rd} (h : Bx R w a n c s) : w.cell? ⟨R, 0, none⟩ = some (.slice a n c) := by
 have := cell_of_row w R 0 _ _ _ h.box
 simpa using this
theorem Bx.cell1 {R n c : Nat} {w : World} {a : Option Addr} {s : Rd} (h : Bx R w a n c s) : w.cell? ⟨R, 1, none⟩ = some (.bool s.2) := by
 have := cell_of_row w R 1 _ _ _ h.box
 simpa using this
theorem Bx.frz {R n c : Nat} {w : World} {a : Option Addr} {s : Rd} (h : Bx R w a n c s) (j : Nat) : w.frozen? ⟨R, j, none⟩ = false := by
 simp [World.frozen?, h.box]
theorem Bx.keep {R n c : Nat} {w w' : World} {a : Option Addr} {s : Rd} (h : Bx R w a n c s) (hb : Below w.heap.size w w') : Bx R w' a n c s :=
 ⟨(hb.block R (cell_lt h.cell0)).trans h.box, h.len, h.cap, h.low, h.mem.keep hb⟩
theorem Bx.kept {R n c : Nat} {w w' : World} {a : Option Addr} {s : Rd} (h : Bx R w a n c s) (hk : ∀ i, i ≤ R → w'.heap[i]? = w.heap[i]?) : Bx R w' a n c s := by
 refine ⟨(hk R (nrQ _)).trans h.box, h.len, h.cap, h.low, ?_⟩
 rcases h.mem with h0 | ⟨b, off, ha, hc⟩
 ·exact .inl h0
 ·exact .inr ⟨b, off, ha, fun i hi => (World.cell?_of_block (a := ⟨b, off + i, none⟩) (hk b (by have := h.low (by intro e; rw [e] at hi; simp at hi) _ ha; simp at this; omega))).trans (hc i hi)⟩
theorem Bx.step {R n c k : Nat} {w : World} {a a' : Option Addr} {l : List UInt8} (h : Bx R w a n c (l, false)) (hk : k ≤ n) (hlow : ∀ p, a' = some p → p.block < R) (hm : ByIn w a' (l.drop k)) :
  Bx R (w.setCell ⟨R, 0, none⟩ (.slice a' (n - k) (c - k))) a' (n - k) (c - k) (l.drop k, false) := by
 refine ⟨?_, by have := h.len; simp only at this; rw [List.length_drop, this], by have := h.cap; omega, fun _ => hlow, ?_⟩
 ·simp [World.setCell, Array.getElem?_modify, h.box]
 ·rcases hm with h0 | ⟨b, off, ha, hc⟩
  ·exact .inl h0
  ·refine .inr ⟨b, off, ha, fun i hi => ?_⟩
   have hb : b < R := hlow _ ha
   rw [World.cell?_setCell_other _ _ _ _ (by intro e; injection e with e1 e2; omega)]
   exact hc i hi
theorem Bx.miss {R n c : Nat} {w : World} {a : Option Addr} {s : Rd} (h : Bx R w a n c s) : Bx R (w.setCell ⟨R, 1, none⟩ (.bool true)) a n c (s.1, true) := by
 refine ⟨?_, h.len, h.cap, h.low, ?_⟩
 ·simp [World.setCell, Array.getElem?_modify, h.box]
 ·rcases h.mem with h0 | ⟨b, off, ha, hc⟩
  ·exact .inl h0
  ·refine .inr ⟨b, off, ha, fun i hi => ?_⟩
   have hb : b < R := h.low (by intro e; simp only at hi; rw [e] at hi; simp at hi) _ ha
   rw [World.cell?_setCell_other _ _ _ _ (by intro e; injection e with e1 e2; omega)]
   exact hc i hi
def BxL (R : Nat) (w : World) (s : Rd) : Prop := ∃ a n c, Bx R w a n c s
theorem BxL.lt {R : Nat} {w : World} {s : Rd} (h : BxL R w s) : R < w.heap.size := by
 obtain ⟨a, n, c, h⟩ := h
 exact cell_lt h.cell0
theorem BxL.keep {R : Nat} {w w' : World} {s : Rd} (h : BxL R w s) (hb : Below w.heap.size w w') : BxL R w' s := by
 obtain ⟨a, n, c, h⟩ := h
 exact ⟨a, n, c, h.keep hb⟩
theorem BxL.far {R : Nat} {w : World} {s : Rd} (h : BxL R w s) {e : TypeId} (hne : 101 ≠ e) : Far w (some R) e := by
 obtain ⟨a, n, c, h⟩ := h
 intro g cur t fr hr hg
 simp only [oiQ] at hr
 subst hr
 rw [h.box] at hg
 simp only [oiQ, Obj.cells.injEq] at hg
 rw [← hg.2.1]; exact hne
structure Wb (R : Nat) (w w' : World) (s : Rd) : Prop where
 rdr : BxL R w' s
 grown : w.grownBy w' (some R)
theorem Wb.trans {R : Nat} {w w1 w2 : World} {s s' : Rd} (h : Wb R w w1 s) (k : Wb R w1 w2 s') : Wb R w w2 s' := ⟨k.rdr, grown_trans h.grown k.grown⟩
theorem Wb.row {R : Nat} {w w2 w3 : World} {s : Rd} {row : Option Nat} (h : Wb R w w2 s) (hg : w2.grownBy w3 row) (hr : ∀ g, row = some g → w.heap.size ≤ g) (hR : R < w.heap.size) : Wb R w w3 s := by
 have hb : ∀ i, i < w.heap.size → w3.heap[i]? = w2.heap[i]? := fun i hi => hg.block i (Nat.lt_of_lt_of_le hi h.grown.size) fun e => by have := hr i e.symm; omega
 obtain ⟨a, n, c, hr2⟩ := h.rdr
 exact ⟨⟨a, n, c, hr2.kept fun i hi => hb i (by omega)⟩, ⟨hg.os.trans h.grown.os, hg.tape.trans h.grown.tape, hg.output.trans h.grown.output, ntQ h.grown.size hg.size, fun i hi hne => (hb i hi).trans (h.grown.block i hi hne)⟩⟩
theorem Wb.below {R : Nat} {w w2 w3 : World} {s : Rd} (h : Wb R w w2 s) (hb : Below w2.heap.size w2 w3) (hR : R < w.heap.size) : Wb R w w3 s := h.row (grown_below hb) (fun g e => by cases e) hR
theorem Wb.start {R : Nat} {w w2 : World} {s : Rd} (h : BxL R w s) (hb : Below w.heap.size w w2) : Wb R w w2 s := ⟨h.keep hb, grown_below' hb⟩
 where grown_below' {W W' : World} (hb : Below W.heap.size W W') : W.grownBy W' (some R) := ⟨hb.os, hb.tape, hb.output, hb.size, fun i hi _ => hb.block i hi⟩
theorem grown_set1 (w : World) (R : Nat) (v : Value) : w.grownBy (w.setCell ⟨R, 1, none⟩ v) (some R) :=
 ⟨rfl, rfl, rfl, by simp [World.setCell], fun k hk hne => by
  have : R ≠ k := fun e => hne (by rw [e])
  simp [World.setCell, Array.getElem?_modify, this]⟩
theorem byte_add (v x : Nat) (hx : x < 256) (hv : v * 256 + x < 18446744073709551616) : IntKind.u64.wrap (IntKind.u64.wrap ((v : Int) * 256) + (x : Int)) = ((v * 256 + x : Nat) : Int) := by
 rw [IntKind.wrap_u64, IntKind.wrap_u64]; omega

theorem get_bad (R n c k : Nat) (w : World) (a : Option Addr) (s : Rd) (h : Bx R w a n c s) (hk : s.2 = true ∨ n < k) :
  Calls Tryz.prog 75 #[.pointer (some ⟨R, 0, none⟩), .int .i64 k] w fun e w' => e = .returned (.int .u64 0) ∧ Wb R w w' (s.1, true) := by
 have c0 := h.cell0
 have c1 := h.cell1
 have f1 := h.frz 1
 have H : Aside (Wb R w (w.setCell ⟨R, 1, none⟩ (.bool true)) (s.1, true)) := ⟨⟨a, n, c, h.miss⟩, grown_set1 _ _ _⟩
 clear h
 by_cases hb : s.2 = true
 ·rw [hb] at c1
  clear hk hb
  go_enter Tryz.func75, Tryz.ntmps75
  go_wp2
  go_ret
  exact ⟨rfl, H.out⟩
 ·have hkz : (n : Int) < (k : Int) := by
   rcases hk with hk | hk
   ·exact absurd hk hb
   ·omega
  rw [show s.2 = false by simpa using hb] at c1
  clear hk hb
  go_enter Tryz.func75, Tryz.ntmps75
  go_wp2
  go_ret
  exact ⟨rfl, H.out⟩

theorem get_ok (R n c k : Nat) (w : World) (a : Option Addr) (l : List UInt8) (h : Bx R w a n c (l, false)) (hk : k ≤ n) (h1 : 1 ≤ k) (h8 : k ≤ 8) :
  Calls Tryz.prog 75 #[.pointer (some ⟨R, 0, none⟩), .int .i64 k] w fun e w' => e = .returned (.int .u64 ((valB (l.take k) : Nat) : Int)) ∧ Wb R w w' (l.drop k, false) := by
 have r0 := h.cell0
 have r1 := h.cell1
 have f0 := h.frz 0
 have hkz : ¬ (n : Int) < (k : Int) := by omega
 have hl : l.length = n := h.len
 have hc := h.cap
 obtain ⟨b, off, ha, hcc⟩ := ByIn.get h.mem (by simp only; omega)
 subst ha
 have H : Aside (Bx R w (some ⟨b, off, none⟩) n c (l, false)) := h
 have hlow : b < R := h.low (by intro e; simp only at e; rw [e] at hl; simp at hl; omega) _ rfl
 clear h
 have HLEN : Hid (l.length = n) := hl
 have HC : Aside (∀ i, i < n → w.cell? ⟨b, off + i, none⟩ = some (.int .u8 (bth l i))) := fun i hi => hcc i (by simp only; omega)
 clear hcc hl
 go_enter Tryz.func75, Tryz.ntmps75
 go_wp2_with fail
 go_loopg [5, 6] k (fun g1 vv vi wr => ∃ (i v : Nat), vi = .int .i64 i ∧ i ≤ k ∧ k - i ≤ g1 ∧ Aside (wr = w) ∧ vv = .int .u64 (v : Nat) ∧ Aside (v = valB (l.take i)))
 case atStart => exact ⟨0, 0, rfl, Nat.zero_le _, nrQ _, rfl, rfl, rfl⟩
 case round =>
  obtain ⟨i, v, rfl, hi, hg1, HW, rfl, HV⟩ := hrel
  have hww := HW.out
  subst hww
  have hbnd : Aside (v < 256 ^ i) := by
   have h2 := valB_lt (l.take i)
   rw [List.length_take, Nat.min_eq_left (by have := HLEN.out; omega), ← HV.out] at h2
   exact h2
  by_cases hlt : i < k
  ·have hltz : (i : Int) < (k : Int) := by omega
   have c0 := HC.out i (by omega)
   obtain ⟨x, hx⟩ : ∃ x : Nat, (l.getD i 0).toNat = x := ⟨_, rfl⟩
   have hx2 : x < 256 := by rw [← hx]; exact UInt8.toNat_lt _
   have HX : Hid ((l.getD i 0).toNat = x) := hx
   unfold bth at c0
   rw [hx] at c0
   have hv2 : v * 256 + x < 18446744073709551616 := by
    have h3 : 256 ^ i ≤ 256 ^ 7 := Nat.pow_le_pow_right (by omega) (by omega)
    have h4 : (256 : Nat) ^ 7 = 72057594037927936 := by decide
    have := hbnd.out
    omega
   clear hx
   go_wp2
   go_roundg (k - (i + 1))
   case measure => omega
   case rel =>
    refine ⟨i + 1, v * 256 + x, by go_num, by omega, by omega, rfl, ?_, ?_⟩
    ·have hadd := byte_add v x hx2 hv2
     first | rfl | (rw [hadd]) | (congr 1; omega) | (simp; omega)
    ·show _ = _
     rw [valB_take (by have := HLEN.out; omega), ← HV.out, HX.out]
  ·have hltz : ¬ (i : Int) < (k : Int) := by omega
   obtain rfl : i = k := by omega
   by_cases hck : c = i
   ·have S : Aside (ByIn wr (some ⟨b, off, none⟩) (l.drop i)) := .inl (by rw [List.drop_eq_nil_iff]; have := HLEN.out; omega)
    go_wp2
    go_ret
    refine ⟨by rw [← HV.out]; rfl, ⟨some ⟨b, off, none⟩, n - i, 0, ?_⟩, grown_set _ _ _⟩
    have := H.out.step hk (a' := some ⟨b, off, none⟩) (fun p hp => by injection hp with hp; rw [← hp]; exact hlow) S.out
    rw [hck, Nat.sub_self] at this
    exact this
   ·have S : Aside (ByIn wr (some ⟨b, off + i, none⟩) (l.drop i)) := by
     by_cases hnk : i = n
     ·exact .inl (by rw [List.drop_eq_nil_iff]; have := HLEN.out; omega)
     ·refine .inr ⟨b, off + i, rfl, fun j hj => ?_⟩
      rw [List.length_drop] at hj
      rw [bth_drop, Nat.add_assoc]
      exact HC.out (i + j) (by have := HLEN.out; omega)
    go_wp2
    go_ret
    exact ⟨by rw [← HV.out]; rfl, ⟨some ⟨b, off + i, none⟩, _, _, H.out.step hk (a' := some ⟨b, off + i, none⟩) (fun p hp => by injection hp with hp; rw [← hp]; exact hlow) S.out⟩, grown_set _ _ _⟩
theorem get_any (R k : Nat) (w : World) (s : Rd) (h : BxL R w s) (h1 : 1 ≤ k) (h8 : k ≤ 8) :
  Calls Tryz.prog 75 #[.pointer (some ⟨R, 0, none⟩), .int .i64 k] w fun e w' => e = .returned (.int .u64 ((rdGet k s).1 : Nat)) ∧ Wb R w w' (rdGet k s).2 := by
 obtain ⟨a, n, c, h⟩ := h
 obtain ⟨l, b⟩ := s
 have hl : l.length = n := h.len
 by_cases hb : b = true ∨ n < k
 ·refine (get_bad R n c k w a _ h hb).mono fun e w' ⟨h1, h2⟩ => ?_
  unfold rdGet
  have hb2 : b = true ∨ l.length < k := hb.imp id fun h => by omega
  rw [if_pos hb2]
  exact ⟨h1, h2⟩
 ·obtain rfl : b = false := by simpa using fun e => hb (.inl e)
  have hk : k ≤ n := Nat.le_of_not_lt fun e => hb (.inr e)
  refine (get_ok R n c k w a l h hk h1 h8).mono fun e w' ⟨h1, h2⟩ => ?_
  unfold rdGet
  have hb2 : ¬ (false = true ∨ l.length < k) := by simp; omega
  rw [if_neg hb2]
  exact ⟨h1, h2⟩
theorem rdGet_len (k : Nat) (s : Rd) : (rdGet k s).2.1.length ≤ s.1.length := by
 unfold rdGet
 split
 ·exact nrQ _
 ·simp only [List.length_drop]; omega
theorem rdGet_lt {k : Nat} (s : Rd) (h8 : k ≤ 8) : (rdGet k s).1 < 18446744073709551616 := by
 unfold rdGet
 split
 ·simp
 ·have h2 := valB_lt (s.1.take k)
  have h3 : 256 ^ (s.1.take k).length ≤ 256 ^ 8 := Nat.pow_le_pow_right (by omega) (by rw [List.length_take]; omega)
  have h4 : (256 : Nat) ^ 8 = 18446744073709551616 := by decide
  simp only; omega
theorem rdMany_len (k least : Nat) (s : Rd) : (rdMany k least s).2.1.length ≤ s.1.length := by
 have h := rdGet_len k s
 unfold rdMany
 simp only
 split
 ·exact h
 ·exact h
theorem rdMany_le (k least : Nat) (s : Rd) : (rdMany k least s).1 ≤ s.1.length := by
 have h := rdGet_len k s
 unfold rdMany
 simp only
 split
 ·simp
 ·have := Nat.div_le_self (rdGet k s).2.1.length least
  omega

theorem many_any (R k least : Nat) (w : World) (s : Rd) (h : BxL R w s) (h1 : 1 ≤ k) (h8 : k ≤ 8) (l1 : 1 ≤ least) (l9 : least ≤ 9) (hl : s.1.length ≤ 60000) :
  Calls Tryz.prog 78 #[.pointer (some ⟨R, 0, none⟩), .int .i64 k, .int .i64 least] w fun e w' => e = .returned (.int .i64 ((rdMany k least s).1 : Nat)) ∧ Wb R w w' (rdMany k least s).2 := by
 have hG := get_any R k w s h h1 h8
 have h2 := rdGet_len k s
 have h3 := rdGet_lt s h8
 unfold rdMany
 generalize rdGet k s = g at hG h2 h3 ⊢
 obtain ⟨m, l, b⟩ := g
 simp only at hG h2 h3 ⊢
 obtain ⟨q, hq⟩ : ∃ q, l.length / least = q := ⟨_, rfl⟩
 have HQ : Hid (l.length / least = q) := hq
 have hq6 : q ≤ 60000 := by rw [← hq]; exact ntQ (Nat.div_le_self _ _) (by omega)
 have hl6 : l.length ≤ 60000 := by omega
 rw [hq]
 clear h2 hq
 by_cases hgt : q < m
 ·rw [if_pos hgt]
  have hgz : (q : Int) < (m : Int) := by omega
  go_enter Tryz.func78, Tryz.ntmps78
  go_wp2_with (go_at_call 75; refine hG.mono ?_; rintro e w1 ⟨rfl, hW⟩; refine Hid.out ?_)
  refine hid ?_
  obtain ⟨a, n, c, hB⟩ := hW.rdr
  have hn : l.length = n := hB.len
  have c0 := hB.cell0
  have f1 := hB.frz 1
  have c1 := hB.cell1
  have hz : ¬ (least : Int) = 0 := by omega
  have hd1 : wrap64 ((n : Int) / (least : Int)) = (q : Int) := by
   have e : (n : Int) / (least : Int) = (q : Int) := by rw [← HQ.out, hn]; rfl
   rw [e]; unfold wrap64; omega
  have hd3 : IntKind.u64.wrap (q : Int) = (q : Int) := by rw [IntKind.wrap_u64]; omega
  have H : Aside (Wb R w (w1.setCell ⟨R, 1, none⟩ (.bool true)) (l, true)) := ⟨⟨a, n, c, hB.miss⟩, grown_trans hW.grown (grown_set1 _ _ _)⟩
  clear hG hW hB hn
  go_wp2
  go_ret
  exact ⟨rfl, H.out⟩
 ·rw [if_neg hgt]
  have hgz : ¬ (q : Int) < (m : Int) := by omega
  go_enter Tryz.func78, Tryz.ntmps78
  go_wp2_with (go_at_call 75; refine hG.mono ?_; rintro e w1 ⟨rfl, hW⟩; refine Hid.out ?_)
  refine hid ?_
  obtain ⟨a, n, c, hB⟩ := hW.rdr
  have hn : l.length = n := hB.len
  have c0 := hB.cell0
  have hz : ¬ (least : Int) = 0 := by omega
  have hd1 : wrap64 ((n : Int) / (least : Int)) = (q : Int) := by
   have e : (n : Int) / (least : Int) = (q : Int) := by rw [← HQ.out, hn]; rfl
   rw [e]; unfold wrap64; omega
  have hd3 : IntKind.u64.wrap (q : Int) = (q : Int) := by rw [IntKind.wrap_u64]; omega
  have H : Aside (Wb R w w1 (l, b)) := hW
  clear hG hW hB hn
  go_wp2
  go_ret
  exact ⟨by first | rfl | (exact ret_int (by unfold wrap64; omega)), H.out⟩
theorem rdGet_lt4 {k : Nat} (s : Rd) (h4 : k ≤ 4) : (rdGet k s).1 < 4294967296 := by
 unfold rdGet
 split
 ·simp
 ·have h2 := valB_lt (s.1.take k)
  have h3 : 256 ^ (s.1.take k).length ≤ 256 ^ 4 := Nat.pow_le_pow_right (by omega) (by rw [List.length_take]; omega)
  have h5 : (256 : Nat) ^ 4 = 4294967296 := by decide
  simp only; omega
theorem rdTimes_step {α : Type} {p : Rd → α × Rd} {n j : Nat} {s0 sk : Rd} {xs : List α} (h : rdTimes p n s0 = (xs ++ (rdTimes p (j + 1) sk).1, (rdTimes p (j + 1) sk).2)) :
  rdTimes p n s0 = ((xs ++ [(p sk).1]) ++ (rdTimes p j (p sk).2).1, (rdTimes p j (p sk).2).2) := by
 rw [h]
 simp [rdTimes]
theorem rdTimes_end {α : Type} {p : Rd → α × Rd} {n : Nat} {s0 sk : Rd} {xs : List α} (h : rdTimes p n s0 = (xs ++ (rdTimes p 0 sk).1, (rdTimes p 0 sk).2)) : rdTimes p n s0 = (xs, sk) := by
 rw [h]
 simp [rdTimes]

theorem nodes_rd (R B : Nat) (w : World) (s : Rd) (hB : B ≤ w.heap.size) (hR : BxL R w s) (hl : s.1.length ≤ 60000) :
  Calls Tryz.prog 76 #[.pointer (some ⟨R, 0, none⟩)] w fun e w' => ∃ v, e = .returned v ∧ NsOwn B w' v (rdNodes s).1 ∧ Wb R w w' (rdNodes s).2 := by
 obtain ⟨i0, hi, hz0, hz1, hz2⟩ := info_parts info_int2
 have hRlt := hR.lt
 have hM := many_any R 1 1 w s hR (by omega) (by omega) (by omega) (by omega) hl
 have h2 := rdMany_len 1 1 s
 have h3 := rdMany_le 1 1 s
 unfold rdNodes
 generalize rdMany 1 1 s = g at hM h2 h3 ⊢
 obtain ⟨n, s1⟩ := g
 simp only at hM h2 h3 ⊢
 have hn6 : n ≤ 60000 := by omega
 have H : Aside (B ≤ w.heap.size ∧ s1.1.length ≤ 60000) := ⟨hB, by omega⟩
 clear hB hR h2 h3 hl
 go_enter Tryz.func76, Tryz.ntmps76
 go_wp2_with (go_at_call 78; refine hM.mono ?_; rintro e w1 ⟨rfl, hW1⟩; refine Hid.out ?_)
 refine hid ?_
 have HW1 : Aside (Wb R w w1 s1) := hW1
 clear hM hW1
 go_wp2_with fail
 go_loopg [3, 5] n (fun g1 vv vi wr => ∃ (k : Nat), vi = .int .i64 k ∧ k ≤ n ∧ n - k ≤ g1 ∧ Aside (∃ (xs : List Int) (sk : Rd), xs.length = k ∧ wr.ownsRow w.heap.size 3 1 vv k (vals xs) ∧ (∀ x ∈ xs, I64 x) ∧ Wb R w wr sk ∧ sk.1.length ≤ 60000 ∧ rdTimes (rdInt 1) n s1 = (xs ++ (rdTimes (rdInt 1) (n - k) sk).1, (rdTimes (rdInt 1) (n - k) sk).2)))
 case atStart => exact ⟨0, rfl, Nat.zero_le _, nrQ _, [], s1, rfl, World.ownsRow_nil _ _ _ _, by simp, HW1.out, H.out.2, by simp⟩
 case round =>
  obtain ⟨k, rfl, hk, hgk, SK⟩ := hrel
  by_cases hlt : k < n
  ·have hltz : (k : Int) < (n : Int) := by omega
   obtain ⟨xs, sk, hx1, hx2, hx3, hx4, hx5, hx6⟩ := SK.out
   obtain ⟨j, hj⟩ : ∃ j, n - k = j + 1 := ⟨n - k - 1, by omega⟩
   rw [hj] at hx6
   have hG := get_any R 1 wr sk hx4.rdr (by omega) (by omega)
   have hm4 := rdGet_lt4 sk (k := 1) (by omega)
   have hlen := rdGet_len 1 sk
   have hx7 := rdTimes_step hx6
   unfold rdInt at hx7
   obtain ⟨m, hm⟩ : ∃ m, (rdGet 1 sk).1 = m := ⟨_, rfl⟩
   obtain ⟨s2, hs2⟩ : ∃ s2, (rdGet 1 sk).2 = s2 := ⟨_, rfl⟩
   rw [hm, hs2] at hx7 hG
   rw [hm] at hm4
   rw [hs2] at hlen
   have hmw : wrap64 (m : Int) = (m : Int) := by unfold wrap64; omega
   have HS : Aside (xs.length = k ∧ wr.ownsRow w.heap.size 3 1 u3 k (vals xs) ∧ (∀ x ∈ xs, I64 x) ∧ Wb R w wr sk ∧ s2.1.length ≤ 60000 ∧ rdTimes (rdInt 1) n s1 = ((xs ++ [(m : Int)]) ++ (rdTimes (rdInt 1) j s2).1, (rdTimes (rdInt 1) j s2).2)) := ⟨hx1, hx2, hx3, hx4, by omega, hx7⟩
   have HJ : Hid (n - k = j + 1) := hj
   clear SK hx1 hx2 hx3 hx4 hx5 hx6 hx7 hj hlen hm hs2
   go_wp2_with (go_at_call 75; refine hG.mono ?_; rintro e w2 ⟨rfl, hW2⟩; refine Hid.out ?_)
   refine hid ?_
   have hWW : Aside (Wb R w w2 s2) := HS.out.2.2.2.1.trans hW2
   have hbz : w.heap.size ≤ w2.heap.size := hWW.out.grown.size
   have hown2 : w2.ownsRow w.heap.size 3 1 u3 k (vals xs) := own_far HS.out.2.1 hW2.grown (HS.out.2.2.2.1.rdr.far (by decide))
   clear hW2 hG
   go_wp2_with (at_builtin; refine wpList_append_lies _ rfl _ _ 39 rfl w.heap.size 3 i0 _ 1 8 Tryz.underlying39 hi hz0 hz1 hz2 rfl (by decide) _ k _ rfl (hown2.alloc _) ⟨w2.heap.size, 0, none⟩ 1 1 [Value.int .i64 m] rfl rfl (cell_one_new _ _ _) (by intro u hu; simp at hu; first | (rcases hu with rfl | rfl <;> rfl) | (subst hu; rfl)) (by omega) (by unfold maxLen; omega) (by omega) (by simp; omega) (w2.heap.size + 1) (by simp) ?_; intro g c3 w3 hown3 hgrow hat hglt)
   have S3 : Aside (∃ (xs : List Int) (sk : Rd), xs.length = k + 1 ∧ w3.ownsRow w.heap.size 3 1 (.slice (some ⟨g, 0, none⟩) (k + 1) c3) (k + 1) (vals xs) ∧ (∀ x ∈ xs, I64 x) ∧ Wb R w w3 sk ∧ sk.1.length ≤ 60000 ∧ rdTimes (rdInt 1) n s1 = (xs ++ (rdTimes (rdInt 1) (n - (k + 1)) sk).1, (rdTimes (rdInt 1) (n - (k + 1)) sk).2)) := by
    obtain ⟨a1, a2, a3, a4, a5, a6⟩ := HS.out
    refine ⟨xs ++ [(m : Int)], s2, by simp [a1], ?_, fun x hx => ?_, (hWW.out.below (by (repeat (first | with_reducible exact Below.refl _ _ | (with_reducible refine Below.drew ?_) | (with_reducible refine Below.alloc ?_ (by first | omega | (simp; done) | (simp; omega)) _) | (with_reducible refine Below.setCell ?_ (by first | exact nrQ _ | omega | (simp; done) | (simp; omega)) _)))) hRlt).row hgrow (fun q hq => (hown2.lt q hq).1) hRlt, a5, ?_⟩
    ·have e1 : vals (xs ++ [(m : Int)]) = vals xs ++ [Value.int .i64 m] := by simp [vals]
     rw [e1]; exact hown3
    ·rcases List.mem_append.1 hx with hx | hx
     ·exact a3 x hx
     ·simp only [List.mem_singleton] at hx
      subst hx
      unfold I64; omega
    ·rw [show n - (k + 1) = j by have := HJ.out; omega]
     exact a6
   clear hown3 hgrow hat hglt hown2
   go_wp2
   go_roundg (n - (k + 1))
   case measure => omega
   case rel => exact ⟨k + 1, by go_num, by omega, by omega, S3⟩
  ·have hltz : ¬ (k : Int) < (n : Int) := by omega
   have S3 : Aside (∃ (xs : List Int) (sk : Rd), xs.length = k ∧ wr.ownsRow w.heap.size 3 1 u3 k (vals xs) ∧ (∀ x ∈ xs, I64 x) ∧ Wb R w wr sk ∧ rdTimes (rdInt 1) n s1 = (xs, sk)) := by
    obtain ⟨xs, sk, a1, a2, a3, a4, a5, a6⟩ := SK.out
    refine ⟨xs, sk, a1, a2, a3, a4, ?_⟩
    rw [show n - k = 0 by omega] at a6
    exact rdTimes_end a6
   clear SK
   go_wp2
   go_ret
   obtain ⟨xs, sk, a1, a2, a3, a4, a5⟩ := S3.out
   rw [a5]
   rw [← a1] at a2
   exact ⟨_, rfl, ⟨own_mono a2 H.out.1, a3⟩, a4⟩
end code
end Go.Proofs.YtlcjllgfpfldlaaGreat
