/-
  The walk of the statement CellTells.
-/
import Derived.Test.YtjkdmdadfiakgaaCellRow
import Derived.Deep.QuietTactic
import Derived.BigQuiet
import Derived.Deep.LoopGhost
import Derived.WalkSmall
namespace Go.Proofs.Ytjkdmdadfiakgaa.cell
open Go.ChangeShapes Go.WideShapes Go.ChangeAt Go.RowKit
set_option linter.unusedVariables false

theorem least_le (m : Int) (l : List Int) : least m l ≤ m ∧ ∀ v ∈ l, least m l ≤ v := by
  induction l generalizing m with
  | nil => simp [least]
  | cons u l ih =>
    simp only [least]
    have h := ih (min m u)
    refine ⟨by omega, fun v hv => ?_⟩
    rcases List.mem_cons.1 hv with rfl | hv
    · omega
    · exact h.2 v hv
theorem most_ge (m : Int) (l : List Int) : m ≤ most m l ∧ ∀ v ∈ l, v ≤ most m l := by
  induction l generalizing m with
  | nil => simp [most]
  | cons u l ih =>
    simp only [most]
    have h := ih (max m u)
    refine ⟨by omega, fun v hv => ?_⟩
    rcases List.mem_cons.1 hv with rfl | hv
    · omega
    · exact h.2 v hv
theorem least_mem (m : Int) (l : List Int) : least m l = m ∨ least m l ∈ l := by
  induction l generalizing m with
  | nil => exact .inl rfl
  | cons u l ih =>
    simp only [least]
    rcases ih (min m u) with h | h
    · rw [h]; by_cases e : m ≤ u
      · exact .inl (by omega)
      · exact .inr (by rw [show min m u = u by omega]; exact List.mem_cons_self)
    · exact .inr (List.mem_cons_of_mem _ h)
theorem most_mem (m : Int) (l : List Int) : most m l = m ∨ most m l ∈ l := by
  induction l generalizing m with
  | nil => exact .inl rfl
  | cons u l ih =>
    simp only [most]
    rcases ih (max m u) with h | h
    · rw [h]; by_cases e : u ≤ m
      · exact .inl (by omega)
      · exact .inr (by rw [show max m u = u by omega]; exact List.mem_cons_self)
    · exact .inr (List.mem_cons_of_mem _ h)

theorem all_tells (xs : List Int) (h0 : xs ≠ []) (hin : ∀ v ∈ xs, In64 v) (h : (xs.length : Int) ≤ 9223372036854775806) :
    (all xs).n = xs.length ∧ (all xs).s = wrap64 (sums xs) ∧ (all xs).lo ∈ xs ∧ (all xs).hi ∈ xs ∧ ∀ v ∈ xs, (all xs).lo ≤ v ∧ v ≤ (all xs).hi := by
  rcases xs with _ | ⟨v, l⟩
  · exact absurd rfl h0
  · have hl : ((v :: l).length : Int) = l.length + 1 := by simp
    rw [all_cons v l (hin v (by simp)) (by omega)]
    refine ⟨by simp only; omega, by simp only [sums], ?_, ?_, ?_⟩
    · simp only
      rcases least_mem v l with h | h
      · rw [h]; exact List.mem_cons_self
      · exact List.mem_cons_of_mem _ h
    · simp only
      rcases most_mem v l with h | h
      · rw [h]; exact List.mem_cons_self
      · exact List.mem_cons_of_mem _ h
    · intro u hu
      simp only
      have h1 := least_le v l
      have h2 := most_ge v l
      rcases List.mem_cons.1 hu with rfl | hu
      · exact ⟨h1.1, h2.1⟩
      · exact ⟨h1.2 u hu, h2.2 u hu⟩

theorem sums_snoc (l : List Int) (v : Int) : wrap64 (wrap64 (sums l) + v) = wrap64 (sums (l ++ [v])) := by
  rw [wrap64_add_left, sums_append]; simp [sums]

theorem mem_snoc (b : Bool) (m : Int) (l : List Int) (v : Int) (h : b = decide (m ∈ l)) : (if b then true else (v == m)) = decide (m ∈ l ++ [v]) := by
  subst h
  by_cases e : m ∈ l
  · simp [e]
  · by_cases f : v = m
    · simp [f]
    · simp [e, f, Ne.symm f]

set_option maxHeartbeats 4000000 in
theorem tells_core (b off cap n : Nat) (xs : List Int) (w : World) (c : C4) (hn : xs.length = n) (h1 : ¬ (1000 : Int) < (n : Int)) (h2 : ((n : Int) == 0) = false)
    (hc : ∀ i, i < n → w.cell? ⟨b, off + i, none⟩ = some (.int .i64 (xs.getD i 0)))
    (HA : Hid (∀ W : World, Below w.heap.size w W → Calls Try.prog 13 #[.slice (some ⟨b, off, none⟩) n cap] W fun e w' => e = .returned (val c) ∧ Below W.heap.size W w'))
    (HT : Hid (c.n = n ∧ c.s = wrap64 (sums xs) ∧ c.lo ∈ xs ∧ c.hi ∈ xs ∧ ∀ v ∈ xs, c.lo ≤ v ∧ v ≤ c.hi)) :
    Calls Try.prog 8 #[.slice (some ⟨b, off, none⟩) n cap] w fun e w' => e = .returned (.bool true) ∧ Below w.heap.size w w' := by
  have HN : Hid (xs.length = n ∧ ∀ i, i < n → w.cell? ⟨b, off + i, none⟩ = some (.int .i64 (xs.getD i 0))) := ⟨hn, hc⟩
  clear hn hc
  go_enter Try.func8, Try.ntmps8
  go_wp2_with fail
  refine (known_any _).mono ?_
  rintro e w1 ⟨rfl, hb1⟩
  go_wp2_with fail
  refine (HA.out _ hb1).mono ?_
  rintro e w2 ⟨rfl, hb2⟩
  have hB2 : Below w.heap.size w w2 := hb1.trans (hb2.mono hb1.size)
  have hz2 := hB2.size
  clear hb1 hb2
  go_wp2
  go_loopg [4, 5, 6, 7] n (fun gk t bl bm i wr => ∃ k : Nat, ∃ l m : Bool, k + gk = n ∧ i = .int .i64 k ∧ t = .int .i64 (wrap64 (sums (xs.take k))) ∧ bl = .bool l ∧ l = decide (c.lo ∈ xs.take k) ∧ bm = .bool m ∧ m = decide (c.hi ∈ xs.take k) ∧ Has wr w2.heap.size c.n c.s c.lo c.hi ∧ Below w.heap.size w wr)
  case atStart =>
    refine ⟨0, false, false, by omega, rfl, by simp [sums, wrap64], rfl, by simp, rfl, by simp, ?_, ?_⟩
    · unfold Has; simp [go_sem]
    · exact hB2.trans (by (repeat (first | with_reducible exact Below.refl _ _ | (with_reducible refine Below.drew ?_) | (with_reducible refine Below.alloc ?_ (by first | omega | (simp; done) | (simp; omega)) _) | (with_reducible refine Below.setCell ?_ (by first | exact Nat.le_refl _ | omega | (simp; done) | (simp; omega)) _))))
  case round =>
    obtain ⟨k, l, m, hk, rfl, rfl, rfl, hl, rfl, hm, hH, hB⟩ := hrel
    obtain ⟨x0, x1, x2, x3, _⟩ := hH
    have HK : Hid (k + gk = n ∧ l = decide (c.lo ∈ xs.take k) ∧ m = decide (c.hi ∈ xs.take k)) := ⟨hk, hl, hm⟩
    clear hl hm
    by_cases hlt : k < n
    · have hck : wr.cell? ⟨b, off + k, none⟩ = some (.int .i64 (xs[k]?.getD 0)) := by
        have := HN.out.2 k hlt
        exact (hB.cell (block_lt_of_cell this)).trans (by simpa using this)
      have hlt2 : (k : Int) < (n : Int) := by omega
      have hmem : xs[k]?.getD 0 ∈ xs := by
        have hkl : k < xs.length := by rw [HN.out.1]; exact hlt
        rw [List.getElem?_eq_getElem hkl]; simp
      have hr := HT.out.2.2.2.2 _ hmem
      have d1 : decide (xs[k]?.getD 0 < c.lo) = false := by simp; omega
      have d2 : decide (c.hi < xs[k]?.getD 0) = false := by simp; omega
      clear hmem hr hk
      have HB : Hid (Below w.heap.size w wr ∧ xs.take (k + 1) = xs.take k ++ [xs[k]?.getD 0]) := ⟨hB, by rw [take_snoc xs k (by rw [HN.out.1]; exact hlt)]; simp⟩
      clear hB
      rcases l with _ | _ <;> rcases m with _ | _
      all_goals
        go_wp2
        go_quiet (fail)
        go_wp2
        go_quiet (fail)
        go_wp2
        go_quiet (fail)
        go_wp2
        go_roundg (gk - 1)
        case measure => have := HK.out.1; omega
        case rel =>
          obtain ⟨hk1, hl1, hm1⟩ := HK.out
          refine ⟨k + 1, _, _, by omega, by go_num, ?_, rfl, ?_, rfl, ?_, ?_, ?_⟩
          · rw [HB.out.2, ← sums_snoc]
          · rw [HB.out.2, ← mem_snoc _ _ _ _ hl1]; simp
          · rw [HB.out.2, ← mem_snoc _ _ _ _ hm1]; simp
          · unfold Has; simp [*]
          · (repeat (first | with_reducible exact HB.out.1 | with_reducible refine below_drewN ?_ _))
    · have hk2 : k = n := by omega
      have E : xs.take k = xs := List.take_of_length_le (by rw [HN.out.1]; omega)
      obtain ⟨t1, t2, t3, t4, t5⟩ := HT.out
      obtain ⟨hk1, hl1, hm1⟩ := HK.out
      rw [E] at hl1 hm1
      have hl2 : l = true := by rw [hl1]; simpa using t3
      have hm2 : m = true := by rw [hm1]; simpa using t4
      have e1 : (c.n == (n : Int)) = true := by simpa using t1
      have e2 : (c.s == wrap64 (sums (xs.take k))) = true := by rw [E]; simpa using t2
      subst hl2 hm2 hk2
      clear hl1 hm1 t1 t2 t3 t4 t5 E hk1 hk
      go_wp2
      go_ret
      exact ⟨rfl, hB⟩

theorem tells_walk (a : Option Addr) (len cap : Nat) (zs : List Int) (w : World) (h : IsRow w a len cap zs) :
    Calls Try.prog 8 #[.slice a len cap] w fun e w' => e = .returned (.bool true) ∧ Below w.heap.size w w' := by
  obtain ⟨hi, hlen, hmax, hin⟩ := h.ints
  by_cases hbig : (1000 : Int) < (len : Int)
  · clear hi hlen hin h hmax
    go_enter Try.func8, Try.ntmps8
    go_wp2_with (go_at_call 12; refine (known_any _).mono ?_; rintro e w1 ⟨rfl, hb1⟩)
    go_ret
    exact ⟨rfl, hb1⟩
  by_cases h0 : len = 0
  · subst h0
    clear hi hlen hin h hmax
    go_enter Try.func8, Try.ntmps8
    go_wp2_with (go_at_call 12; refine (known_any _).mono ?_; rintro e w1 ⟨rfl, hb1⟩)
    go_ret
    exact ⟨rfl, hb1⟩
  · rcases hi with hi | ⟨b, off, rfl, hc⟩
    · rw [hi] at hlen; simp at hlen; omega
    · have hA : Ints w (some ⟨b, off, none⟩) (zs.take len) := .inr ⟨b, off, rfl, hc⟩
      have hT := all_tells (zs.take len) (by intro e; rw [e] at hlen; simp at hlen; omega) hin (by omega)
      refine tells_core b off cap len (zs.take len) w (all (zs.take len)) hlen hbig (by simp; omega) (by rw [hlen] at hc; exact hc) (fun W hW => all_any _ len cap _ W (hA.keep hW) hlen (by omega)) ?_
      rw [hlen] at hT
      exact hT
end Go.Proofs.Ytjkdmdadfiakgaa.cell
