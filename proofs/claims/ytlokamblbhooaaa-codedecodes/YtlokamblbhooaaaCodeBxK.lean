/-
  The chapter's reader: its box, its Get and its Many.
  The chapter's reader: how many there are to be.
-/
import Derived.Test.YtlokamblbhooaaaCodeOwn
import Derived.Test.YtlokamblbhooaaaCodeBack
namespace Go.Proofs.Ytlokamblbhooaaa.code
open Go.ChangeShapes Go.WideShapes Go.ChangeAt Go.RowKit Go.Deep
open Go.Proofs.Ytlokamblbhooaaa.dims (nth Ints cell_lt vals vals_len vals_get vals_one vals_app own_below own_mono own_out own_apart RowOut ret_bool ret_int)
set_option linter.unusedVariables false
set_option maxRecDepth 100000
set_option linter.unusedSimpArgs false

/-- the reader's box: what is left, and whether something was missing -/
structure Bx (R : Nat) (w : World) (a : Option Addr) (n c : Nat) (s : Rd) : Prop where
  box : w.heap[R]? = some (.cells #[.slice a n c, .bool s.2] 85 (0, 0))
  len : s.1.length = n
  cap : n ≤ c
  low : s.1 ≠ [] → ∀ p, a = some p → p.block < R
  mem : ByIn w a s.1
theorem Bx.cell0 {R n c : Nat} {w : World} {a : Option Addr} {s : Rd} (h : Bx R w a n c s) : w.cell? ⟨R, 0, none⟩ = some (.slice a n c) := by
  have := cell_of_row w R 0 _ _ _ h.box
  simpa using this
theorem Bx.cell1 {R n c : Nat} {w : World} {a : Option Addr} {s : Rd} (h : Bx R w a n c s) : w.cell? ⟨R, 1, none⟩ = some (.bool s.2) := by
  have := cell_of_row w R 1 _ _ _ h.box
  simpa using this
theorem Bx.frz {R n c : Nat} {w : World} {a : Option Addr} {s : Rd} (h : Bx R w a n c s) (j : Nat) : w.frozen? ⟨R, j, none⟩ = false := by
  simp [World.frozen?, h.box]
theorem Bx.keep {R n c : Nat} {w w' : World} {a : Option Addr} {s : Rd} (h : Bx R w a n c s) (hb : Below w.heap.size w w') : Bx R w' a n c s :=
  ⟨(hb.block R (cell_lt h.cell0)).trans h.box, h.len, h.cap, h.low, h.mem.keep hb⟩
theorem Bx.kept {R n c : Nat} {w w' : World} {a : Option Addr} {s : Rd} (h : Bx R w a n c s) (hk : ∀ i, i ≤ R → w'.heap[i]? = w.heap[i]?) : Bx R w' a n c s := by
  refine ⟨(hk R (Nat.le_refl _)).trans h.box, h.len, h.cap, h.low, ?_⟩
  rcases h.mem with h0 | ⟨b, off, ha, hc⟩
  · exact .inl h0
  · exact .inr ⟨b, off, ha, fun i hi => (World.cell?_of_block (a := ⟨b, off + i, none⟩) (hk b (by have := h.low (by intro e; rw [e] at hi; simp at hi) _ ha; simp at this; omega))).trans (hc i hi)⟩
/-- behind a step: the front is gone -/
theorem Bx.step {R n c k : Nat} {w : World} {a a' : Option Addr} {l : List UInt8} (h : Bx R w a n c (l, false)) (hk : k ≤ n) (hlow : ∀ p, a' = some p → p.block < R) (hm : ByIn w a' (l.drop k)) :
    Bx R (w.setCell ⟨R, 0, none⟩ (.slice a' (n - k) (c - k))) a' (n - k) (c - k) (l.drop k, false) := by
  refine ⟨?_, by have := h.len; simp only at this; rw [List.length_drop, this], by have := h.cap; omega, fun _ => hlow, ?_⟩
  · simp [World.setCell, Array.getElem?_modify, h.box]
  · rcases hm with h0 | ⟨b, off, ha, hc⟩
    · exact .inl h0
    · refine .inr ⟨b, off, ha, fun i hi => ?_⟩
      have hb : b < R := hlow _ ha
      rw [World.cell?_setCell_other _ _ _ _ (by intro e; injection e with e1 e2; omega)]
      exact hc i hi
/-- something was missing -/
theorem Bx.miss {R n c : Nat} {w : World} {a : Option Addr} {s : Rd} (h : Bx R w a n c s) : Bx R (w.setCell ⟨R, 1, none⟩ (.bool true)) a n c (s.1, true) := by
  refine ⟨?_, h.len, h.cap, h.low, ?_⟩
  · simp [World.setCell, Array.getElem?_modify, h.box]
  · rcases h.mem with h0 | ⟨b, off, ha, hc⟩
    · exact .inl h0
    · refine .inr ⟨b, off, ha, fun i hi => ?_⟩
      have hb : b < R := h.low (by intro e; simp only at hi; rw [e] at hi; simp at hi) _ ha
      rw [World.cell?_setCell_other _ _ _ _ (by intro e; injection e with e1 e2; omega)]
      exact hc i hi
def BxL (R : Nat) (w : World) (s : Rd) : Prop := ∃ a n c, Bx R w a n c s
theorem BxL.lt {R : Nat} {w : World} {s : Rd} (h : BxL R w s) : R < w.heap.size := by
  obtain ⟨a, n, c, h⟩ := h
  exact cell_lt h.cell0
theorem BxL.keep {R : Nat} {w w' : World} {s : Rd} (h : BxL R w s) (hb : Below w.heap.size w w') : BxL R w' s := by
  obtain ⟨a, n, c, h⟩ := h
  exact ⟨a, n, c, h.keep hb⟩
theorem BxL.far {R : Nat} {w : World} {s : Rd} (h : BxL R w s) {e : TypeId} (hne : 85 ≠ e) : Far w (some R) e := by
  obtain ⟨a, n, c, h⟩ := h
  intro g cur t fr hr hg
  simp only [Option.some.injEq] at hr
  subst hr
  rw [h.box] at hg
  simp only [Option.some.injEq, Obj.cells.injEq] at hg
  rw [← hg.2.1]; exact hne
/-- what is left behind a read; nothing but the reader's box and new memory has changed -/
structure Wb (R : Nat) (w w' : World) (s : Rd) : Prop where
  rdr : BxL R w' s
  grown : w.grownBy w' (some R)
theorem Wb.trans {R : Nat} {w w1 w2 : World} {s s' : Rd} (h : Wb R w w1 s) (k : Wb R w1 w2 s') : Wb R w w2 s' := ⟨k.rdr, grown_trans h.grown k.grown⟩
theorem Wb.row {R : Nat} {w w2 w3 : World} {s : Rd} {row : Option Nat} (h : Wb R w w2 s) (hg : w2.grownBy w3 row) (hr : ∀ g, row = some g → w.heap.size ≤ g) (hR : R < w.heap.size) : Wb R w w3 s := by
  have hb : ∀ i, i < w.heap.size → w3.heap[i]? = w2.heap[i]? := fun i hi => hg.block i (Nat.lt_of_lt_of_le hi h.grown.size) fun e => by have := hr i e.symm; omega
  obtain ⟨a, n, c, hr2⟩ := h.rdr
  exact ⟨⟨a, n, c, hr2.kept fun i hi => hb i (by omega)⟩, ⟨hg.os.trans h.grown.os, hg.tape.trans h.grown.tape, hg.output.trans h.grown.output, Nat.le_trans h.grown.size hg.size, fun i hi hne => (hb i hi).trans (h.grown.block i hi hne)⟩⟩
theorem Wb.below {R : Nat} {w w2 w3 : World} {s : Rd} (h : Wb R w w2 s) (hb : Below w2.heap.size w2 w3) (hR : R < w.heap.size) : Wb R w w3 s := h.row (grown_below hb) (fun g e => by cases e) hR
theorem Wb.start {R : Nat} {w w2 : World} {s : Rd} (h : BxL R w s) (hb : Below w.heap.size w w2) : Wb R w w2 s := ⟨h.keep hb, grown_below' hb⟩
  where grown_below' {W W' : World} (hb : Below W.heap.size W W') : W.grownBy W' (some R) := ⟨hb.os, hb.tape, hb.output, hb.size, fun i hi _ => hb.block i hi⟩
theorem grown_set1 (w : World) (R : Nat) (v : Value) : w.grownBy (w.setCell ⟨R, 1, none⟩ v) (some R) :=
  ⟨rfl, rfl, rfl, by simp [World.setCell], fun k hk hne => by
    have : R ≠ k := fun e => hne (by rw [e])
    simp [World.setCell, Array.getElem?_modify, this]⟩
theorem byte_add (v x : Nat) (hx : x < 256) (hv : v * 256 + x < 18446744073709551616) : IntKind.u64.wrap (IntKind.u64.wrap ((v : Int) * 256) + (x : Int)) = ((v * 256 + x : Nat) : Int) := by
  rw [IntKind.wrap_u64, IntKind.wrap_u64]; omega

set_option maxHeartbeats 4000000 in
theorem get_bad (R n c k : Nat) (w : World) (a : Option Addr) (s : Rd) (h : Bx R w a n c s) (hk : s.2 = true ∨ n < k) :
    Calls Try.prog 68 #[.pointer (some ⟨R, 0, none⟩), .int .i64 k] w fun e w' => e = .returned (.int .u64 0) ∧ Wb R w w' (s.1, true) := by
  have c0 := h.cell0
  have c1 := h.cell1
  have f1 := h.frz 1
  have H : Aside (Wb R w (w.setCell ⟨R, 1, none⟩ (.bool true)) (s.1, true)) := ⟨⟨a, n, c, h.miss⟩, grown_set1 _ _ _⟩
  clear h
  by_cases hb : s.2 = true
  · rw [hb] at c1
    clear hk hb
    go_enter Try.func68, Try.ntmps68
    go_wp2
    go_ret
    exact ⟨rfl, H.out⟩
  · have hkz : (n : Int) < (k : Int) := by
      rcases hk with hk | hk
      · exact absurd hk hb
      · omega
    rw [show s.2 = false by simpa using hb] at c1
    clear hk hb
    go_enter Try.func68, Try.ntmps68
    go_wp2
    go_ret
    exact ⟨rfl, H.out⟩

set_option maxHeartbeats 8000000 in
theorem get_ok (R n c k : Nat) (w : World) (a : Option Addr) (l : List UInt8) (h : Bx R w a n c (l, false)) (hk : k ≤ n) (h1 : 1 ≤ k) (h8 : k ≤ 8) :
    Calls Try.prog 68 #[.pointer (some ⟨R, 0, none⟩), .int .i64 k] w fun e w' => e = .returned (.int .u64 ((valB (l.take k) : Nat) : Int)) ∧ Wb R w w' (l.drop k, false) := by
  have r0 := h.cell0
  have r1 := h.cell1
  have f0 := h.frz 0
  have hkz : ¬ (n : Int) < (k : Int) := by omega
  have hl : l.length = n := h.len
  have hc := h.cap
  obtain ⟨b, off, ha, hcc⟩ := ByIn.get h.mem (by simp only; omega)
  subst ha
  have H : Aside (Bx R w (some ⟨b, off, none⟩) n c (l, false)) := h
  have hlow : b < R := h.low (by intro e; simp only at e; rw [e] at hl; simp at hl; omega) _ rfl
  clear h
  have HLEN : Hid (l.length = n) := hl
  have HC : Aside (∀ i, i < n → w.cell? ⟨b, off + i, none⟩ = some (.int .u8 (bth l i))) := fun i hi => hcc i (by simp only; omega)
  clear hcc hl
  go_enter Try.func68, Try.ntmps68
  go_wp2_with fail
  go_loopg [5, 6] k (fun g1 vv vi wr => ∃ (i v : Nat), vi = .int .i64 i ∧ i ≤ k ∧ k - i ≤ g1 ∧ Aside (wr = w) ∧ vv = .int .u64 (v : Nat) ∧ Aside (v = valB (l.take i)))
  case atStart => exact ⟨0, 0, rfl, Nat.zero_le _, Nat.le_refl _, rfl, rfl, rfl⟩
  case round =>
    obtain ⟨i, v, rfl, hi, hg1, HW, rfl, HV⟩ := hrel
    have hww := HW.out
    subst hww
    have hbnd : Aside (v < 256 ^ i) := by
      have h2 := valB_lt (l.take i)
      rw [List.length_take, Nat.min_eq_left (by have := HLEN.out; omega), ← HV.out] at h2
      exact h2
    by_cases hlt : i < k
    · have hltz : (i : Int) < (k : Int) := by omega
      have c0 := HC.out i (by omega)
      obtain ⟨x, hx⟩ : ∃ x : Nat, (l.getD i 0).toNat = x := ⟨_, rfl⟩
      have hx2 : x < 256 := by rw [← hx]; exact UInt8.toNat_lt _
      have HX : Hid ((l.getD i 0).toNat = x) := hx
      unfold bth at c0
      rw [hx] at c0
      have hv2 : v * 256 + x < 18446744073709551616 := by
        have h3 : 256 ^ i ≤ 256 ^ 7 := Nat.pow_le_pow_right (by omega) (by omega)
        have h4 : (256 : Nat) ^ 7 = 72057594037927936 := by decide
        have := hbnd.out
        omega
      clear hx
      go_wp2
      go_roundg (k - (i + 1))
      case measure => omega
      case rel =>
        refine ⟨i + 1, v * 256 + x, by go_num, by omega, by omega, rfl, ?_, ?_⟩
        · have hadd := byte_add v x hx2 hv2
          first | rfl | (rw [hadd]) | (congr 1; omega) | (simp; omega)
        · show _ = _
          rw [valB_take (by have := HLEN.out; omega), ← HV.out, HX.out]
    · have hltz : ¬ (i : Int) < (k : Int) := by omega
      obtain rfl : i = k := by omega
      by_cases hck : c = i
      · have S : Aside (ByIn wr (some ⟨b, off, none⟩) (l.drop i)) := .inl (by rw [List.drop_eq_nil_iff]; have := HLEN.out; omega)
        go_wp2
        go_ret
        refine ⟨by rw [← HV.out]; rfl, ⟨some ⟨b, off, none⟩, n - i, 0, ?_⟩, grown_set _ _ _⟩
        have := H.out.step hk (a' := some ⟨b, off, none⟩) (fun p hp => by injection hp with hp; rw [← hp]; exact hlow) S.out
        rw [hck, Nat.sub_self] at this
        exact this
      · have S : Aside (ByIn wr (some ⟨b, off + i, none⟩) (l.drop i)) := by
          by_cases hnk : i = n
          · exact .inl (by rw [List.drop_eq_nil_iff]; have := HLEN.out; omega)
          · refine .inr ⟨b, off + i, rfl, fun j hj => ?_⟩
            rw [List.length_drop] at hj
            rw [bth_drop, Nat.add_assoc]
            exact HC.out (i + j) (by have := HLEN.out; omega)
        go_wp2
        go_ret
        exact ⟨by rw [← HV.out]; rfl, ⟨some ⟨b, off + i, none⟩, _, _, H.out.step hk (a' := some ⟨b, off + i, none⟩) (fun p hp => by injection hp with hp; rw [← hp]; exact hlow) S.out⟩, grown_set _ _ _⟩
theorem get_any (R k : Nat) (w : World) (s : Rd) (h : BxL R w s) (h1 : 1 ≤ k) (h8 : k ≤ 8) :
    Calls Try.prog 68 #[.pointer (some ⟨R, 0, none⟩), .int .i64 k] w fun e w' => e = .returned (.int .u64 ((rdGet k s).1 : Nat)) ∧ Wb R w w' (rdGet k s).2 := by
  obtain ⟨a, n, c, h⟩ := h
  obtain ⟨l, b⟩ := s
  have hl : l.length = n := h.len
  by_cases hb : b = true ∨ n < k
  · refine (get_bad R n c k w a _ h hb).mono fun e w' ⟨h1, h2⟩ => ?_
    unfold rdGet
    have hb2 : b = true ∨ l.length < k := hb.imp id fun h => by omega
    rw [if_pos hb2]
    exact ⟨h1, h2⟩
  · obtain rfl : b = false := by simpa using fun e => hb (.inl e)
    have hk : k ≤ n := Nat.le_of_not_lt fun e => hb (.inr e)
    refine (get_ok R n c k w a l h hk h1 h8).mono fun e w' ⟨h1, h2⟩ => ?_
    unfold rdGet
    have hb2 : ¬ (false = true ∨ l.length < k) := by simp; omega
    rw [if_neg hb2]
    exact ⟨h1, h2⟩
end Go.Proofs.Ytlokamblbhooaaa.code

namespace Go.Proofs.Ytlokamblbhooaaa.code
open Go.ChangeShapes Go.WideShapes Go.ChangeAt Go.RowKit Go.Deep
open Go.Proofs.Ytlokamblbhooaaa.dims (nth Ints cell_lt vals vals_len vals_get vals_one vals_app own_below own_mono own_out own_apart RowOut ret_bool ret_int)
set_option linter.unusedVariables false
set_option maxRecDepth 100000
set_option linter.unusedSimpArgs false

theorem rdGet_len (k : Nat) (s : Rd) : (rdGet k s).2.1.length ≤ s.1.length := by
  unfold rdGet
  split
  · exact Nat.le_refl _
  · simp only [List.length_drop]; omega
theorem rdGet_lt {k : Nat} (s : Rd) (h8 : k ≤ 8) : (rdGet k s).1 < 18446744073709551616 := by
  unfold rdGet
  split
  · simp
  · have h2 := valB_lt (s.1.take k)
    have h3 : 256 ^ (s.1.take k).length ≤ 256 ^ 8 := Nat.pow_le_pow_right (by omega) (by rw [List.length_take]; omega)
    have h4 : (256 : Nat) ^ 8 = 18446744073709551616 := by decide
    simp only; omega
theorem rdMany_len (k least : Nat) (s : Rd) : (rdMany k least s).2.1.length ≤ s.1.length := by
  have h := rdGet_len k s
  unfold rdMany
  simp only
  split
  · exact h
  · exact h
theorem rdMany_le (k least : Nat) (s : Rd) : (rdMany k least s).1 ≤ s.1.length := by
  have h := rdGet_len k s
  unfold rdMany
  simp only
  split
  · simp
  · have := Nat.div_le_self (rdGet k s).2.1.length least
    omega

set_option maxHeartbeats 4000000 in
theorem many_any (R k least : Nat) (w : World) (s : Rd) (h : BxL R w s) (h1 : 1 ≤ k) (h8 : k ≤ 8) (l1 : 1 ≤ least) (l9 : least ≤ 9) (hl : s.1.length ≤ 60000) :
    Calls Try.prog 71 #[.pointer (some ⟨R, 0, none⟩), .int .i64 k, .int .i64 least] w fun e w' => e = .returned (.int .i64 ((rdMany k least s).1 : Nat)) ∧ Wb R w w' (rdMany k least s).2 := by
  have hG := get_any R k w s h h1 h8
  have h2 := rdGet_len k s
  have h3 := rdGet_lt s h8
  unfold rdMany
  generalize rdGet k s = g at hG h2 h3 ⊢
  obtain ⟨m, l, b⟩ := g
  simp only at hG h2 h3 ⊢
  obtain ⟨q, hq⟩ : ∃ q, l.length / least = q := ⟨_, rfl⟩
  have HQ : Hid (l.length / least = q) := hq
  have hq6 : q ≤ 60000 := by rw [← hq]; exact Nat.le_trans (Nat.div_le_self _ _) (by omega)
  have hl6 : l.length ≤ 60000 := by omega
  rw [hq]
  clear h2 hq
  by_cases hgt : q < m
  · rw [if_pos hgt]
    have hgz : (q : Int) < (m : Int) := by omega
    go_enter Try.func71, Try.ntmps71
    go_wp2_with (go_at_call 68; refine hG.mono ?_; rintro e w1 ⟨rfl, hW⟩; refine Hid.out ?_)
    refine hid ?_
    obtain ⟨a, n, c, hB⟩ := hW.rdr
    have hn : l.length = n := hB.len
    have c0 := hB.cell0
    have f1 := hB.frz 1
    have c1 := hB.cell1
    have hz : ¬ (least : Int) = 0 := by omega
    have hd1 : wrap64 ((n : Int) / (least : Int)) = (q : Int) := by
      have e : (n : Int) / (least : Int) = (q : Int) := by rw [← HQ.out, hn]; rfl
      rw [e]; unfold wrap64; omega
    have hd3 : IntKind.u64.wrap (q : Int) = (q : Int) := by rw [IntKind.wrap_u64]; omega
    have H : Aside (Wb R w (w1.setCell ⟨R, 1, none⟩ (.bool true)) (l, true)) := ⟨⟨a, n, c, hB.miss⟩, grown_trans hW.grown (grown_set1 _ _ _)⟩
    clear hG hW hB hn
    go_wp2
    go_ret
    exact ⟨rfl, H.out⟩
  · rw [if_neg hgt]
    have hgz : ¬ (q : Int) < (m : Int) := by omega
    go_enter Try.func71, Try.ntmps71
    go_wp2_with (go_at_call 68; refine hG.mono ?_; rintro e w1 ⟨rfl, hW⟩; refine Hid.out ?_)
    refine hid ?_
    obtain ⟨a, n, c, hB⟩ := hW.rdr
    have hn : l.length = n := hB.len
    have c0 := hB.cell0
    have hz : ¬ (least : Int) = 0 := by omega
    have hd1 : wrap64 ((n : Int) / (least : Int)) = (q : Int) := by
      have e : (n : Int) / (least : Int) = (q : Int) := by rw [← HQ.out, hn]; rfl
      rw [e]; unfold wrap64; omega
    have hd3 : IntKind.u64.wrap (q : Int) = (q : Int) := by rw [IntKind.wrap_u64]; omega
    have H : Aside (Wb R w w1 (l, b)) := hW
    clear hG hW hB hn
    go_wp2
    go_ret
    exact ⟨by first | rfl | (exact ret_int (by unfold wrap64; omega)), H.out⟩
end Go.Proofs.Ytlokamblbhooaaa.code
