/-
  Calls that came in; the statements' own heavy.
-/
import Derived.Test.YtpaekckahapngaaByteGrow
import Derived.SizedLaws
namespace Go.Proofs.Ytpaekckahapngaa.disk
open Go.ChangeShapes Go.WideShapes Go.ChangeAt Go.RowKit Go.Deep Go.Joins
open Go.Proofs.Ytpaekckahapngaa.bytes
set_option linter.unusedVariables false
set_option maxRecDepth 100000
set_option linter.unusedSimpArgs false

/-- a call that came in: its kind, its bytes, its number -/
structure Oq where
  q : Nat
  a : Option Addr
  c : Nat
  l : List UInt8
  n : Int
def oqn (os : List Oq) (i : Nat) : Oq := os.getD i ⟨0, none, 0, [], 0⟩
theorem oqn_eq {os : List Oq} {i : Nat} (h : i < os.length) : oqn os i = os[i] := by simp [oqn, h]
/-- one is as it may be -/
structure OqOk (W : World) (o : Oq) : Prop where
  kind : o.q < 256
  sl : Sl W o.a o.l.length o.c o.l
  reach : o.l.length ≤ 140737488355328
  num : -9223372036854775808 ≤ o.n ∧ o.n ≤ 9223372036854775807
theorem OqOk.keep {W W1 : World} {o : Oq} (h : OqOk W o) (hb : Below W.heap.size W W1) : OqOk W1 o := ⟨h.kind, h.sl.keep hb, h.reach, h.num⟩
def OpsIn (W : World) (a : Option Addr) (os : List Oq) : Prop :=
  os = [] ∨ ∃ b off, a = some ⟨b, off, none⟩ ∧ ∀ i, i < os.length → (W.cell? ⟨b, off + i * 3, none⟩ = some (.int .u8 ((oqn os i).q : Nat)) ∧ W.cell? ⟨b, off + i * 3 + 1, none⟩ = some (.slice (oqn os i).a (oqn os i).l.length (oqn os i).c) ∧ W.cell? ⟨b, off + i * 3 + 2, none⟩ = some (.int .i64 (oqn os i).n)) ∧ OqOk W (oqn os i)
theorem OpsIn.keep {w w1 : World} {a : Option Addr} {os : List Oq} (h : OpsIn w a os) (hb : Below w.heap.size w w1) : OpsIn w1 a os := by
  rcases h with h | ⟨b, off, ha, hc⟩
  · exact .inl h
  · exact .inr ⟨b, off, ha, fun i hi => ⟨⟨(hb.cell (p := ⟨b, off + i * 3, none⟩) (cell_lt (hc i hi).1.1)).trans (hc i hi).1.1, (hb.cell (p := ⟨b, off + i * 3 + 1, none⟩) (cell_lt (hc i hi).1.2.1)).trans (hc i hi).1.2.1, (hb.cell (p := ⟨b, off + i * 3 + 2, none⟩) (cell_lt (hc i hi).1.2.2)).trans (hc i hi).1.2.2⟩, (hc i hi).2.keep hb⟩⟩
theorem OpsIn.get {w : World} {a : Option Addr} {os : List Oq} (h : OpsIn w a os) {j : Nat} (hj : j < os.length) : ∃ b off, a = some ⟨b, off, none⟩ ∧ ∀ i, i < os.length → (w.cell? ⟨b, off + i * 3, none⟩ = some (.int .u8 ((oqn os i).q : Nat)) ∧ w.cell? ⟨b, off + i * 3 + 1, none⟩ = some (.slice (oqn os i).a (oqn os i).l.length (oqn os i).c) ∧ w.cell? ⟨b, off + i * 3 + 2, none⟩ = some (.int .i64 (oqn os i).n)) ∧ OqOk w (oqn os i) := by
  rcases h with rfl | h
  · simp at hj
  · exact h
/-- how many bytes they bear -/
def tot (os : List Oq) : Nat := (os.map fun o => o.l.length).sum
theorem tot_take {os : List Oq} {k : Nat} (h : k < os.length) : tot (os.take (k + 1)) = tot (os.take k) + (oqn os k).l.length := by
  unfold tot
  rw [List.take_succ_eq_append_getElem h, List.map_append, List.sum_append, oqn_eq h]
  simp
theorem tot_le : ∀ {os : List Oq}, (∀ o ∈ os, o.l.length ≤ 140737488355328) → tot os ≤ os.length * 140737488355328
  | [], _ => by simp [tot]
  | o :: os, h => by
    have h1 := h o (by simp)
    have h2 := tot_le (os := os) fun x hx => h x (by simp [hx])
    have e : tot (o :: os) = o.l.length + tot os := by simp [tot]
    rw [e, List.length_cons, Nat.add_mul]; omega
theorem tot_get {os : List Oq} {k : Nat} (h : k < os.length) : (oqn os k).l.length ≤ tot os := by
  have e : os = os.take (k + 1) ++ os.drop (k + 1) := (List.take_append_drop _ _).symm
  have : tot os = tot (os.take (k + 1)) + tot (os.drop (k + 1)) := by
    unfold tot
    rw [← List.sum_append, ← List.map_append, List.take_append_drop]
  rw [this, tot_take h]; omega

/-- the sum, as it is reckoned -/
def sw (os : List Oq) : Int := os.foldl (fun s o => wrap64 (s + (o.l.length : Int))) 0
theorem sw_take {os : List Oq} {k : Nat} (h : k < os.length) : sw (os.take (k + 1)) = wrap64 (sw (os.take k) + ((oqn os k).l.length : Int)) := by
  unfold sw
  rw [List.take_succ_eq_append_getElem h, List.foldl_append, oqn_eq h]
  rfl
theorem sw_tot {os : List Oq} (hr : ∀ o ∈ os, o.l.length ≤ 140737488355328) : ∀ k, k ≤ 100 → k ≤ os.length → sw (os.take k) = (tot (os.take k) : Nat)
  | 0, _, _ => by simp [sw, tot]
  | k + 1, h1, h2 => by
    have hk : k < os.length := by omega
    rw [sw_take hk, tot_take hk, sw_tot hr k (by omega) (by omega)]
    have h3 := tot_le (os := os.take k) fun x hx => hr x (List.mem_of_mem_take hx)
    rw [List.length_take] at h3
    have h4 : min k os.length * 140737488355328 ≤ 100 * 140737488355328 := Nat.mul_le_mul_right _ (by omega)
    have h5 : (oqn os k).l.length ≤ 140737488355328 := by rw [oqn_eq hk]; exact hr _ (List.getElem_mem _)
    unfold wrap64; omega
def hvy (os : List Oq) : Bool := decide (100 < os.length) || decide (5000 < sw os)
theorem hvy_no {os : List Oq} (hr : ∀ o ∈ os, o.l.length ≤ 140737488355328) (h : hvy os = false) : os.length ≤ 100 ∧ tot os ≤ 5000 := by
  unfold hvy at h
  simp only [Bool.or_eq_false_iff, decide_eq_false_iff_not] at h
  have h1 : os.length ≤ 100 := by omega
  have h2 := sw_tot hr os.length h1 (Nat.le_refl _)
  rw [List.take_length] at h2
  exact ⟨h1, by have := h.2; omega⟩
theorem OpsIn.reach {w : World} {a : Option Addr} {os : List Oq} (hO : OpsIn w a os) : ∀ o ∈ os, o.l.length ≤ 140737488355328 := fun o ho => by
  obtain ⟨i, hi, rfl⟩ := List.mem_iff_getElem.1 ho
  obtain ⟨b, off, _, hc⟩ := hO.get hi
  have := (hc i hi).2.reach
  rwa [oqn_eq hi] at this
set_option maxHeartbeats 2000000 in
theorem heavy_any (n c : Nat) (a : Option Addr) (os : List Oq) (w : World) (hO : OpsIn w a os) (hn : os.length = n) (hn2 : n ≤ 9223372036854775807) :
    Calls Try.prog 15 #[.slice a n c] w fun e w' => e = .returned (.bool (hvy os)) ∧ w' = w := by
  have H : Aside (OpsIn w a os ∧ os.length = n) := ⟨hO, hn⟩
  clear hO hn
  go_enter Try.func15, Try.ntmps15
  go_wp2_with fail
  go_loopg [3, 4] n (fun g1 vs vi wr => ∃ (k : Nat) (s : Int), vi = .int .i64 k ∧ vs = .int .i64 s ∧ k ≤ n ∧ n - k ≤ g1 ∧ wr = w ∧ Aside (s = sw (os.take k)))
  case atStart => exact ⟨0, 0, rfl, rfl, Nat.zero_le _, Nat.le_refl _, rfl, by show _ = _; simp [sw]⟩
  case round =>
    obtain ⟨k, s, rfl, rfl, hk, hg1, rfl, SK⟩ := hrel
    by_cases hlt : k < n
    · have hltz : (k : Int) < (n : Int) := by omega
      have hkl : k < os.length := by rw [H.out.2]; exact hlt
      obtain ⟨b, off, ha, hc⟩ := H.out.1.get hkl
      subst ha
      obtain ⟨⟨-, r1, -⟩, ho⟩ := hc k hkl
      clear hc
      have S2 : Aside (wrap64 (s + ((oqn os k).l.length : Int)) = sw (os.take (k + 1))) := by
        show _ = _
        rw [SK.out, sw_take hkl]
      clear SK ho
      generalize (oqn os k).l.length = q at r1 S2
      generalize (oqn os k).a = la at r1
      generalize (oqn os k).c = lc at r1
      go_wp2
      go_roundg (n - (k + 1))
      case measure => omega
      case rel => exact ⟨k + 1, _, by go_num, rfl, by omega, by omega, rfl, S2⟩
    · have hltz : ¬ (k : Int) < (n : Int) := by omega
      have hkn : k = n := by omega
      subst hkn
      have S2 : Aside (hvy os = (decide (100 < k) || decide (5000 < s))) := by
        show _ = _
        have := SK.out
        rw [List.take_of_length_le (by rw [H.out.2]; omega)] at this
        unfold hvy; rw [H.out.2, this]
      clear SK
      by_cases h1 : (100 : Int) < (k : Int)
      · go_wp2
        go_ret
        exact ⟨ret_bool (by rw [S2.out, decide_eq_true (by omega)]; rfl), rfl⟩
      · by_cases h2 : 5000 < s
        · go_wp2
          go_ret
          exact ⟨ret_bool (by rw [S2.out, decide_eq_true h2]; simp), rfl⟩
        · go_wp2
          go_ret
          exact ⟨ret_bool (by rw [S2.out, decide_eq_false (p := 5000 < s) (by omega), decide_eq_false (p := 100 < k) (by omega)]; rfl), rfl⟩
end Go.Proofs.Ytpaekckahapngaa.disk
