/-
  The contracts of spans.follows, spans.New, the chapter's New and Find, and of the statements' own 'has'.
-/
import Derived.Test.YtfhihkogdnbghaaSpanDel
namespace Go.Proofs.Ytfhihkogdnbghaa.spans
open Go.ChangeShapes Go.WideShapes Go.ChangeAt Go.RowKit Go.Deep
open Go.Proofs.Ytfhihkogdnbghaa.bytes (ret_bool hid nth addr_add cell_lt own_below own_mono)
set_option linter.unusedVariables false
set_option maxRecDepth 100000
set_option linter.unusedSimpArgs false

def folB (a s : Sp) : Bool := decide (a.1 < s.1) && !decide (s.2 = a.2)
set_option maxHeartbeats 1000000 in
theorem follows_any (a s : Sp) (w : World) :
    Calls Try.prog 39 #[spV a, spV s] w fun e w' => e = .returned (.bool (folB a s)) ∧ Below w.heap.size w w' := by
  obtain ⟨a1, a2⟩ := a
  obtain ⟨s1, s2⟩ := s
  have hB : Below w.heap.size w ((w.alloc (.cells #[.int .i64 a1, .int .i64 a2] 38)).alloc (.cells #[.int .i64 s1, .int .i64 s2] 38)) := by (repeat (first | with_reducible exact Below.refl _ _ | (with_reducible refine Below.drew ?_) | (with_reducible refine Below.alloc ?_ (by first | omega | (simp; done) | (simp; omega)) _) | (with_reducible refine Below.setCell ?_ (by first | exact Nat.le_refl _ | omega | (simp; done) | (simp; omega)) _)))
  unfold spV folB
  dsimp only
  have HB : Aside _ := hB
  clear hB
  by_cases h : a1 < s1
  · by_cases h2 : s2 = a2
    · have E : Hid ((decide (a1 < s1) && !decide (s2 = a2)) = false) := by show _ = _; simp [h2]
      have d1 : (s2 != a2) = false := by simp [h2]
      clear h2
      go_enter Try.func39, Try.ntmps39
      go_wp2
      go_ret
      exact ⟨ret_bool E.out.symm, HB.out⟩
    · have E : Hid ((decide (a1 < s1) && !decide (s2 = a2)) = true) := by show _ = _; simp [h, h2]
      have d1 : (s2 != a2) = true := by simp [h2]
      go_enter Try.func39, Try.ntmps39
      go_wp2
      go_ret
      exact ⟨ret_bool E.out.symm, HB.out⟩
  · have E : Hid ((decide (a1 < s1) && !decide (s2 = a2)) = false) := by show _ = _; simp [h]
    go_enter Try.func39, Try.ntmps39
    go_wp2
    go_ret
    exact ⟨ret_bool E.out.symm, HB.out⟩

/-- a map of a call's own -/
def MapOut (w : World) (ep : Int) (l : List Sp) (e : Ending) (w' : World) : Prop := ∃ a n c, e = .returned (mapV ep a n c) ∧ Sps w' a n c l ∧ (l ≠ [] → ∀ p, a = some p → w.heap.size ≤ p.block) ∧ Below w.heap.size w w'

theorem results_cell_map {fn : Func} {p : Tmp} (h : fn.results = #[.cell p 29]) (tmps : Array Value) (w : World) (g : Nat) (ep : Int) (a : Option Addr) (n c : Nat) (hp : tmps.getD p undef = .pointer (some ⟨g, 0, none⟩)) (hc : Bx w g (mapC ep a n c) 29) : (results fn tmps).run Try.prog w = .ok (mapV ep a n c) w := by
  have hp' : tmps[p]?.getD undef = .pointer (some ⟨g, 0, none⟩) := by simpa using hp
  have h0 := hc.cell (j := 0) (x := .int .u32 ep) rfl
  have h1 := hc.cell (j := 1) (x := .slice a n c) rfl
  unfold mapV
  simp [results, h, hp', asAddr]
  go_simp
theorem mapOut_new (w : World) : MapOut w 1 [(0, 0)] (.returned (mapV 1 (some ⟨w.heap.size + 1, 0, none⟩) 1 1)) ((w.alloc (.cells (mapC 1 (some ⟨w.heap.size + 1, 0, none⟩) 1 1) 29)).alloc (.cells (spC (0, 0)) 38)) := by
  have hb := Bx.new (w.alloc (.cells (mapC 1 (some ⟨w.heap.size + 1, 0, none⟩) 1 1) 29)) (spC (0, 0)) 38
  have hs : (w.alloc (.cells (mapC 1 (some ⟨w.heap.size + 1, 0, none⟩) 1 1) 29)).heap.size = w.heap.size + 1 := by simp
  rw [hs] at hb
  refine ⟨_, _, _, rfl, ⟨.inr ⟨_, _, rfl, fun i hi => ?_⟩, rfl, Nat.le_refl _, by omega⟩, fun _ p hp => ?_, by (repeat (first | with_reducible exact Below.refl _ _ | (with_reducible refine Below.drew ?_) | (with_reducible refine Below.alloc ?_ (by first | omega | (simp; done) | (simp; omega)) _) | (with_reducible refine Below.setCell ?_ (by first | exact Nat.le_refl _ | omega | (simp; done) | (simp; omega)) _)))⟩
  · obtain rfl : i = 0 := by simpa using hi
    exact ⟨hb.cell (j := 0) rfl, hb.cell (j := 1) rfl, by unfold I64; simp [spn], by unfold I64; simp [spn]⟩
  · injection hp with hp; subst hp; show w.heap.size ≤ w.heap.size + 1; omega

set_option maxHeartbeats 1000000 in
theorem new_any (w : World) : Calls Try.prog 28 #[] w (MapOut w 1 [(0, 0)]) := by
  go_enter Try.func28, Try.ntmps28
  go_wp2
  refine bodyPost_ret (results_cell_map rfl _ _ w.heap.size 1 (some ⟨w.heap.size + 1, 0, none⟩) 1 1 rfl ?_) rfl (mapOut_new w)
  exact (Bx.new w _ _).below ((Below.refl _ _).alloc (Nat.le_refl _) _)
set_option maxHeartbeats 1000000 in
theorem refNew_any (w : World) : Calls Try.prog 29 #[] w (MapOut w 1 [(0, 0)]) := by
  go_enter Try.func29, Try.ntmps29
  go_wp2
  refine bodyPost_ret (results_cell_map rfl _ _ w.heap.size 1 (some ⟨w.heap.size + 1, 0, none⟩) 1 1 rfl ?_) rfl (mapOut_new w)
  exact (Bx.new w _ _).below ((Below.refl _ _).alloc (Nat.le_refl _) _)

set_option maxHeartbeats 4000000 in
theorem refFind_any (ep : Int) (a : Option Addr) (n c : Nat) (l : List Sp) (v : Int) (w : World) (h : Sps w a n c l) :
    Calls Try.prog 20 #[mapV ep a n c, .int .i64 v] w fun e w' => e = .returned (.int .i64 (find l v)) ∧ Below w.heap.size w w' := by
  have hnn : n ≤ 9223372036854775807 := Nat.le_trans h.cap h.big
  unfold mapV
  obtain ⟨W0, hW⟩ : ∃ W0, w.alloc (.cells #[.int .u32 ep, .slice a n c] 29) = W0 := ⟨_, rfl⟩
  have hB : Below w.heap.size w W0 := by rw [← hW]; exact (Below.refl _ w).alloc (Nat.le_refl _) _
  have hM : Bx W0 w.heap.size #[.int .u32 ep, .slice a n c] 29 := by rw [← hW]; exact Bx.new _ _ _
  have p1 := hM.cell (j := 1) rfl
  have H : Aside (Sps W0 a n c l ∧ Below w.heap.size w W0) := ⟨h.keep hB, hB⟩
  have HW : Hid (w.alloc (.cells #[.int .u32 ep, .slice a n c] 29) = W0) := hW
  clear h hB hW hM
  go_enter Try.func20, Try.ntmps20
  go_wp2_with fail
  rw [HW.out]
  go_loopg [5, 6] n (fun g1 vn vi wr => ∃ (k : Nat) (r : Int), vn = .int .i64 r ∧ vi = .int .i64 k ∧ k ≤ n ∧ n - k ≤ g1 ∧ wr = W0 ∧ Aside (r = find (l.take k) v))
  case atStart => exact ⟨0, -1, rfl, rfl, Nat.zero_le _, Nat.le_refl _, rfl, rfl⟩
  case round =>
    obtain ⟨k, r, rfl, rfl, hk, hg1, rfl, SR⟩ := hrel
    by_cases hlt : k < n
    · have hltz : (k : Int) < (n : Int) := by omega
      have hkl : k < l.length := by rw [H.out.1.len]; exact hlt
      obtain ⟨b, off, ha, hc⟩ := H.out.1.mem.get hkl
      subst ha
      obtain ⟨r1, r2, -, -⟩ := hc k hkl
      clear hc
      have HF : Aside (find (l.take (k + 1)) v = if (spn l k).1 ≤ v then (spn l k).2 else r) := by show _ = _; rw [take_spn hkl, find_snoc, SR.out]
      generalize (spn l k).1 = x1 at r1 HF
      generalize (spn l k).2 = x2 at r2 HF
      clear SR
      by_cases hx : x1 ≤ v
      · rw [if_pos hx] at HF
        go_wp2
        go_roundg (n - (k + 1))
        case measure => omega
        case rel => exact ⟨k + 1, x2, rfl, by go_num, by omega, by omega, rfl, HF.out.symm⟩
      · rw [if_neg hx] at HF
        go_wp2
        go_roundg (n - (k + 1))
        case measure => omega
        case rel => exact ⟨k + 1, r, rfl, by go_num, by omega, by omega, rfl, HF.out.symm⟩
    · have hltz : ¬ (k : Int) < (n : Int) := by omega
      have E : Hid (r = find l v) := by
        have := SR.out
        rwa [List.take_of_length_le (by rw [H.out.1.len]; omega)] at this
      go_wp2
      go_ret
      exact ⟨by rw [← E.out]; rfl, H.out.2⟩

set_option maxHeartbeats 4000000 in
theorem has_any (w : World) (a : Option Addr) (l : List Int) (n c : Nat) (x : Int) (hI : Ints w a l) (hn : l.length = n) (hn9 : n ≤ 9223372036854775807) :
    Calls Try.prog 16 #[.slice a n c, .int .i64 x] w fun e w' => e = .returned (.bool (decide (x ∈ l))) ∧ w' = w := by
  have H : Aside (Ints w a l ∧ l.length = n) := ⟨hI, hn⟩
  clear hI hn
  go_enter Try.func16, Try.ntmps16
  go_wp2_with fail
  go_loopg [5] n (fun g1 vi wr => ∃ (k : Nat), vi = .int .i64 k ∧ k ≤ n ∧ n - k ≤ g1 ∧ wr = w ∧ Aside (x ∉ l.take k))
  case atStart => exact ⟨0, rfl, Nat.zero_le _, Nat.le_refl _, rfl, by show x ∉ l.take 0; simp⟩
  case round =>
    obtain ⟨k, rfl, hk, hg1, rfl, SR⟩ := hrel
    by_cases hlt : k < n
    · have hltz : (k : Int) < (n : Int) := by omega
      have hkl : k < l.length := by rw [H.out.2]; exact hlt
      obtain ⟨b, off, ha, hc⟩ := H.out.1.get hkl
      subst ha
      have r1 := hc k hkl
      clear hc
      by_cases he : nth l k = x
      · have E : Hid (decide (x ∈ l) = true) := decide_eq_true (by rw [← he]; exact nth_mem hkl)
        have d1 : (nth l k == x) = true := by simp [he]
        generalize nth l k = y at r1 d1
        clear he SR
        go_wp2
        go_ret
        exact ⟨ret_bool E.out.symm, rfl⟩
      · have d1 : (nth l k == x) = false := by simp [he]
        have S2 : Aside (x ∉ l.take (k + 1)) := by
          rw [List.take_succ_eq_append_getElem hkl, ← nth_eq hkl]
          intro h
          rcases List.mem_append.1 h with h | h
          · exact SR.out h
          · exact he (List.mem_singleton.1 h).symm
        generalize nth l k = y at r1 d1
        clear he SR
        go_wp2
        go_roundg (n - (k + 1))
        case measure => omega
        case rel => exact ⟨k + 1, by go_num, by omega, by omega, rfl, S2.out⟩
    · have hltz : ¬ (k : Int) < (n : Int) := by omega
      have E : Hid (decide (x ∈ l) = false) := by
        have := SR.out
        rw [List.take_of_length_le (by rw [H.out.2]; omega)] at this
        exact decide_eq_false this
      go_wp2
      go_ret
      exact ⟨ret_bool E.out.symm, rfl⟩
end Go.Proofs.Ytfhihkogdnbghaa.spans
