/-
  The contracts of slices.BinarySearchFunc by a member, and of spans.upTo: how many spans begin below a member.
-/
import Derived.Test.YtfhihkogdnbghaaSpanSmall
namespace Go.Proofs.Ytfhihkogdnbghaa.spans
open Go.ChangeShapes Go.WideShapes Go.ChangeAt Go.RowKit Go.Deep
open Go.Proofs.Ytfhihkogdnbghaa.bytes (ret_bool hid nth addr_add cell_lt own_below own_mono)
set_option linter.unusedVariables false
set_option maxRecDepth 100000
set_option linter.unusedSimpArgs false

theorem upCmp_any (s : Sp) (m : Int) (w : World) (h : 0 ≤ s.1 ∧ s.1 ≤ 10000) (hm : 0 ≤ m ∧ m ≤ 10001) :
    Calls Try.prog 59 #[spV s, .int .i64 m] w fun e w' => e = .returned (.int .i64 (s.1 - m)) ∧ Below w.heap.size w w' := by
  obtain ⟨x, y⟩ := s
  obtain ⟨h1, h2⟩ := h
  obtain ⟨h3, h4⟩ := hm
  have hB : Below w.heap.size w (w.alloc (.cells #[.int .i64 x, .int .i64 y] 38)) := by (repeat (first | with_reducible exact Below.refl _ _ | (with_reducible refine Below.drew ?_) | (with_reducible refine Below.alloc ?_ (by first | omega | (simp; done) | (simp; omega)) _) | (with_reducible refine Below.setCell ?_ (by first | exact Nat.le_refl _ | omega | (simp; done) | (simp; omega)) _)))
  unfold spV
  dsimp only at h1 h2 ⊢
  have HB : Aside _ := hB
  clear hB
  go_enter Try.func59, Try.ntmps59
  go_wp2
  go_ret
  exact ⟨by go_num, HB.out⟩

/-- between two rounds: below i all begin below the member, from j on none -/
structure BS (l : List Sp) (m : Int) (i j : Nat) : Prop where
  le : i ≤ j
  ln : j ≤ l.length
  lo : ∀ k, k < i → (spn l k).1 < m
  hi : ∀ k, j ≤ k → k < l.length → m ≤ (spn l k).1
theorem BS.done {l : List Sp} {m : Int} {i : Nat} (h : BS l m i i) : upTo l m = i := by
  have e : l = l.take i ++ l.drop i := (List.take_append_drop i l).symm
  have hl := h.ln
  unfold upTo
  have e1 : (l.drop i).countP (fun s => decide (s.1 < m)) = 0 := List.countP_eq_zero.2 fun s hs => by
    obtain ⟨k, hk, rfl⟩ := List.mem_iff_getElem.1 hs
    rw [List.length_drop] at hk
    have := h.hi (i + k) (by omega) (by omega)
    rw [spn_eq (by omega)] at this
    rw [List.getElem_drop]
    simpa using this
  have e2 : (l.take i).countP (fun s => decide (s.1 < m)) = (l.take i).length := List.countP_eq_length.2 fun s hs => by
    obtain ⟨k, hk, rfl⟩ := List.mem_iff_getElem.1 hs
    rw [List.length_take] at hk
    have := h.lo k (by omega)
    rw [spn_eq (by omega)] at this
    rw [List.getElem_take]
    simpa using this
  rw [e, List.countP_append, e1, e2, List.length_take]
  omega
theorem spn_rise {l : List Sp} (hr : l.Pairwise (fun a b => a.1 < b.1)) {i j : Nat} (h : i < j) (hj : j < l.length) : (spn l i).1 < (spn l j).1 := by
  rw [spn_eq (by omega), spn_eq hj]
  exact List.pairwise_iff_getElem.1 hr i j (by omega) hj h
theorem BS.up {l : List Sp} {m : Int} {i j q : Nat} (h : BS l m i j) (hr : l.Pairwise (fun a b => a.1 < b.1)) (hq : i ≤ q ∧ q < j) (hm : (spn l q).1 < m) : BS l m (q + 1) j := by
  have hln := h.ln
  refine ⟨by omega, h.ln, fun k hk => ?_, h.hi⟩
  by_cases e : k = q
  · rw [e]; exact hm
  · have := spn_rise hr (show k < q by omega) (by omega); omega
theorem BS.down {l : List Sp} {m : Int} {i j q : Nat} (h : BS l m i j) (hr : l.Pairwise (fun a b => a.1 < b.1)) (hq : i ≤ q ∧ q < j) (hm : m ≤ (spn l q).1) : BS l m i q := by
  have hln := h.ln
  refine ⟨by omega, by omega, h.lo, fun k hk hk2 => ?_⟩
  by_cases e : k = q
  · rw [e]; exact hm
  · have := spn_rise hr (show q < k by omega) hk2; omega

def BinOut (u : Nat) (e : Ending) : Prop := ∃ v : Value, e = .returned (.tuple #[.int .i64 u, v])
theorem BinOut.mk {u i : Nat} (h : u = i) (v : Value) : BinOut u (.returned (.tuple #[.int .i64 i, v])) := by subst h; exact ⟨_, rfl⟩
set_option maxHeartbeats 4000000 in
theorem bin_any (a : Option Addr) (n c : Nat) (l : List Sp) (m : Int) (w : World) (hI : SpansIn w a l) (hn : l.length = n) (hr : l.Pairwise (fun a b => a.1 < b.1)) (h0 : ∀ s ∈ l, 0 ≤ s.1 ∧ s.1 ≤ 10000) (hm : 0 ≤ m ∧ m ≤ 10001) (hn9 : n ≤ 1000) :
    Calls Try.prog 58 #[.slice a n c, .int .i64 m, .func (.func 59) #[] #[]] w fun e w' => BinOut (upTo l m) e ∧ Below w.heap.size w w' := by
  have H : Aside (SpansIn w a l ∧ l.length = n ∧ l.Pairwise (fun a b => a.1 < b.1) ∧ (∀ s ∈ l, 0 ≤ s.1 ∧ s.1 ≤ 10000) ∧ 0 ≤ m ∧ m ≤ 10001) := ⟨hI, hn, hr, h0, hm⟩
  clear hI hn hr h0 hm
  go_enter Try.func58, Try.ntmps58
  go_wp2_with fail
  go_loopg [9, 10, 11] n (fun g1 vi vj vh wr => ∃ (i j : Nat), vi = .int .i64 i ∧ vj = .int .i64 j ∧ j - i ≤ g1 ∧ i ≤ j ∧ j ≤ n ∧ Aside (BS l m i j ∧ Below w.heap.size w wr))
  case atStart => exact ⟨0, n, rfl, rfl, by omega, by omega, by omega, ⟨by omega, by rw [H.out.2.1]; omega, fun k hk => by omega, fun k hk hk2 => by rw [H.out.2.1] at hk2; omega⟩, Below.refl _ _⟩
  case round =>
    obtain ⟨i, j, rfl, rfl, hg1, hij, hjn, SK⟩ := hrel
    by_cases hlt : i < j
    · have hltz : (i : Int) < (j : Int) := by omega
      obtain ⟨q, hq⟩ : ∃ q, (i + j) / 2 = q := ⟨_, rfl⟩
      have hqi : i ≤ q := by omega
      have hqj : q < j := by omega
      have hql : q < l.length := by rw [H.out.2.1]; omega
      obtain ⟨b, off, ha, hc⟩ := (H.out.1.keep SK.out.2).get hql
      subst ha
      obtain ⟨r1, r2, -, -⟩ := hc q hql
      have hs := H.out.2.2.2.1 _ (spn_mem hql)
      have hC := fun W => upCmp_any (spn l q) m W hs H.out.2.2.2.2
      unfold spV at hC
      clear hc hs
      have hqz : ((i : Int) + (j : Int)) / 2 = (q : Int) := by omega
      have HQ : Hid ((i + j) / 2 = q) := hq
      clear hq hql
      have SU : Aside ((spn l q).1 < m → BS l m (q + 1) j) := fun h => SK.out.1.up H.out.2.2.1 ⟨hqi, hqj⟩ h
      have SD : Aside (m ≤ (spn l q).1 → BS l m i q) := fun h => SK.out.1.down H.out.2.2.1 ⟨hqi, hqj⟩ h
      generalize (spn l q).1 = x at r1 hC SU SD
      generalize (spn l q).2 = y at r2 hC
      have HB : Aside (Below w.heap.size w wr) := SK.out.2
      clear SK
      by_cases hx : x < m
      · have hd : x - m < 0 := by omega
        have S2 : Aside (BS l m (q + 1) j) := SU.out hx
        clear SU SD hx
        go_wp2_with (go_at_call 59; refine (hC _).mono ?_; rintro e w2 ⟨rfl, hb2⟩)
        go_roundg (j - (q + 1))
        case measure => omega
        case rel => exact ⟨q + 1, j, by go_num, rfl, by omega, by omega, by omega, S2.out, HB.out.trans (hb2.mono HB.out.size)⟩
      · have hd : ¬ x - m < 0 := by omega
        have S2 : Aside (BS l m i q) := SD.out (by omega)
        clear SU SD hx
        go_wp2_with (go_at_call 59; refine (hC _).mono ?_; rintro e w2 ⟨rfl, hb2⟩)
        go_roundg (q - i)
        case measure => omega
        case rel => exact ⟨i, q, rfl, rfl, by omega, by omega, by omega, S2.out, HB.out.trans (hb2.mono HB.out.size)⟩
    · have hltz : ¬ (i : Int) < (j : Int) := by omega
      obtain rfl : i = j := by omega
      have E : Hid (upTo l m = i) := SK.out.1.done
      by_cases hn : i < n
      · have hnz : (i : Int) < (n : Int) := by omega
        have hil : i < l.length := by rw [H.out.2.1]; omega
        obtain ⟨b, off, ha, hc⟩ := (H.out.1.keep SK.out.2).get hil
        subst ha
        obtain ⟨r1, r2, -, -⟩ := hc i hil
        have hs := H.out.2.2.2.1 _ (spn_mem hil)
        have hC := fun W => upCmp_any (spn l i) m W hs H.out.2.2.2.2
        unfold spV at hC
        clear hc hs
        generalize (spn l i).1 = x at r1 hC
        generalize (spn l i).2 = y at r2 hC
        go_wp2_with (go_at_call 59; refine (hC _).mono ?_; rintro e w2 ⟨rfl, hb2⟩)
        go_ret2
        exact ⟨BinOut.mk E.out _, SK.out.2.trans (hb2.mono SK.out.2.size)⟩
      · have hnz : ¬ (i : Int) < (n : Int) := by omega
        go_wp2
        go_ret2
        exact ⟨BinOut.mk E.out _, SK.out.2⟩

set_option maxHeartbeats 1000000 in
theorem upTo_any (a : Option Addr) (n c : Nat) (l : List Sp) (m : Int) (w : World) (hI : SpansIn w a l) (hn : l.length = n) (hr : l.Pairwise (fun a b => a.1 < b.1)) (h0 : ∀ s ∈ l, 0 ≤ s.1 ∧ s.1 ≤ 10000) (hm : 0 ≤ m ∧ m ≤ 10001) (hn9 : n ≤ 1000) :
    Calls Try.prog 49 #[.slice a n c, .int .i64 m] w fun e w' => e = .returned (.int .i64 (upTo l m)) ∧ Below w.heap.size w w' := by
  have hC := bin_any a n c l m w hI hn hr h0 hm hn9
  generalize upTo l m = z at hC ⊢
  clear hI hn hr h0 hm
  go_enter Try.func49, Try.ntmps49
  go_wp2_with (go_at_call 58; refine hC.mono ?_; rintro e w2 ⟨⟨b, rfl⟩, hb2⟩)
  go_ret
  exact ⟨rfl, hb2⟩
end Go.Proofs.Ytfhihkogdnbghaa.spans
