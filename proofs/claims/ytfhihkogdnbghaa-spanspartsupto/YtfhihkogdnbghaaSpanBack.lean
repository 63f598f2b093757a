/-
  The contracts of slices.Backward at spans and of its iterator; of spans.Find.
-/
import Derived.RangeFuncNested
import Derived.RangeFuncBound
import Derived.RangeFuncCalls
import Derived.RangeFuncLeaves
import Derived.RangeFuncWrites
import Derived.RangeFuncFrom
import Derived.RangeFuncBox
import Derived.Shelf.Abstract
import Derived.Shelf.RegionOpen
import Derived.OwnWalkIn
import Derived.TacticsInMore
import Derived.LoopNIn
import Derived.LoopIn
import Derived.Test.YtfhihkogdnbghaaSpanMem
namespace Go.Proofs.Ytfhihkogdnbghaa.spans
open Go.ChangeShapes Go.WideShapes Go.ChangeAt Go.RowKit Go.Deep Go.Shelf
open Go.Proofs.Ytfhihkogdnbghaa.bytes (ret_bool hid nth addr_add cell_lt own_below own_mono)
set_option linter.unusedVariables false
set_option maxRecDepth 100000
set_option linter.unusedSimpArgs false
attribute [local go_sem] Oper.semAt_some

theorem boxed_ownN {β : Type} (B : Nat) (t : TypeId) (cs : Array Value) : Own (fun (_ : β) W => Bx W B cs t) := fun s X Y row hs hg hrow => by
  refine (hg.block B hs.lt fun e' => ?_).trans hs
  obtain ⟨o, ho, hc⟩ := hrow B e'.symm
  rw [show X.heap[B]? = _ from hs] at ho; cases ho; cases hc
theorem grown_of {W W' : World} (hb : Below W.heap.size W W') : W.grownBy W' none := ⟨hb.os, hb.tape, hb.output, hb.size, fun i hi _ => hb.block i hi⟩

/-- a round of the range: which span it is -/
abbrev Rd (n : Nat) : Type := { i : Nat // i < n }
def encR (l : List Sp) {n : Nat} (x : Rd n) : Array Value := #[.int .i64 (x.1 : Int), spV (spn l x.1)]
/-- the last k, backwards -/
def desc (n : Nat) : Nat → List Nat
  | 0 => []
  | k + 1 => desc n k ++ [n - (k + 1)]
theorem desc_len (n k : Nat) : (desc n k).length = k := by
  induction k with
  | zero => rfl
  | succ k ih => simp [desc, ih]
def Told {n : Nat} (pre : List (Rd n)) : Prop := pre.length ≤ n ∧ pre.map (·.1) = desc n pre.length
theorem Told.nil (n : Nat) : Told ([] : List (Rd n)) := ⟨Nat.zero_le _, rfl⟩
theorem Told.snoc {n : Nat} {pre : List (Rd n)} (h : Told pre) (hk : pre.length < n) : Told (pre ++ [⟨n - (pre.length + 1), by omega⟩]) := by
  refine ⟨by simp; omega, ?_⟩
  rw [List.map_append, h.2, List.length_append]
  rfl
/-- what a round that goes on keeps: what lay below, and the box of the spans -/
def Keeps (n₀ B : Nat) (v : Value) (W W' : World) : Prop := Below n₀ W W' ∧ (Go.Boxed W B 27 v → Go.Boxed W' B 27 v)
theorem keeps_t {n₀ B : Nat} {v : Value} {W1 W2 W3 : World} (h : Keeps n₀ B v W1 W2) (k : Keeps n₀ B v W2 W3) : Keeps n₀ B v W1 W3 := ⟨h.1.trans k.1, fun q => k.2 (h.2 q)⟩
theorem keeps_b {n₀ B : Nat} {v : Value} {w : World} (hn : n₀ ≤ w.heap.size) (hB : B < w.heap.size) (W : World) (l : Nat) (o o' : Obj) (hl : w.heap.size ≤ l) (h : W.heap[l]? = some o) (hc : o.isCells = false) (hw : o.isWalk = false) : Keeps n₀ B v W (W.putObj l o') :=
  ⟨belowK_b hn W l o o' hl h hc hw, fun q => q.kept (grownBy_putObj' W l o') (fun e => by injection e with e; omega)⟩
/-- spans that lie below a place -/
theorem Sps.low_keep {w W : World} {a : Option Addr} {n c n₀ : Nat} {l : List Sp} (h : Sps w a n c l) (hlow : l ≠ [] → ∀ p, a = some p → p.block < n₀) (hb : Below n₀ w W) : Sps W a n c l := by
  refine ⟨?_, h.len, h.cap, h.big⟩
  rcases h.mem with h0 | ⟨b, off, ha, hc⟩
  · exact .inl h0
  · by_cases hl : l = []
    · exact .inl hl
    · have hlt := hlow hl _ ha
      refine .inr ⟨b, off, ha, fun i hi => ?_⟩
      obtain ⟨h1, h2, h3⟩ := hc i hi
      exact ⟨(hb.cell (p := ⟨b, off + i * 2, none⟩) hlt).trans h1, (hb.cell (p := ⟨b, off + i * 2 + 1, none⟩) hlt).trans h2, h3⟩

theorem back_in (n c : Nat) (a : Option Addr) (w : World) :
    Calls Try.prog 40 #[.slice a n c] w fun e w' => e = .returned (.func (.func 52) #[] #[.pointer (some ⟨w.heap.size, 0, none⟩)]) ∧ w' = w.alloc (.cells #[.slice a n c] 27) := by
  go_enter Try.func40, Try.ntmps40
  go_wp2
  go_ret
  exact ⟨rfl, rfl⟩

set_option maxRecDepth 100000 in
set_option maxHeartbeats 4000000 in
theorem back1_in (d : Nat) (n c B n₀ li : Nat) (a : Option Addr) (l : List Sp) (J Jx : List (Rd n) → World → Prop) (hd : 1 ≤ d)
    (W : World) (hS : Sps W a n c l) (hlow : l ≠ [] → ∀ p, a = some p → p.block < n₀) (hB : Go.Boxed W B 27 (.slice a n c))
    (hY : ∀ pre (x : Rd n) W1, J pre W1 → pre.length < n → YieldAt Fence.wide (d - 1) Try.prog li (encR l x) W1 fun e W' =>
      (e = .returned (.bool true) ∧ J (pre ++ [x]) W' ∧ Keeps n₀ B (.slice a n c) W1 W') ∨ (e = .returned (.bool false) ∧ Jx (pre ++ [x]) W'))
    (h0 : J [] W) :
    CallsIn Fence.wide d Try.prog 52 #[.func (.yield li) #[] #[], .pointer (some ⟨B, 0, none⟩)] W fun e W' => (∃ v, e = .returned v) ∧
      ((∃ xs : List (Rd n), (Told xs ∧ xs.length = n) ∧ J xs W') ∨ (∃ pre : List (Rd n), Told pre ∧ Jx pre W')) := by
  refine callsIn_of_wp Try.func52 rfl trivial ?_ rfl
  simp only [Try.ntmps52, List.size_toArray, List.length_cons, List.length_nil, Nat.reduceAdd, Nat.reduceSub, Array.replicate_succ, Array.replicate_zero, List.push_toArray, List.append_toArray, List.nil_append, List.cons_append]
  have hcB := hB.cell
  have hbig : n ≤ 9223372036854775807 := Nat.le_trans hS.cap hS.big
  gi_wp2
  gi_loopw [3] (fun p wr => ∃ (pre : List (Rd n)), p = .int .i64 ((n : Int) - (pre.length : Int) - 1) ∧ Told pre ∧ Sps wr a n c l ∧ Go.Boxed wr B 27 (.slice a n c) ∧ J pre wr)
    (fun p wr => (intOf p + 1).toNat)
  case atStart => exact ⟨[], by simp, Told.nil _, hS, hB, h0⟩
  case round =>
    obtain ⟨pre, rfl, hT, hs, hb, hJs⟩ := hrel
    have hc := hb.cell
    by_cases hk : pre.length < n
    · have hge : ¬ (n : Int) - (pre.length : Int) - 1 < 0 := by omega
      obtain ⟨i, hi⟩ : ∃ i, n - (pre.length + 1) = i := ⟨_, rfl⟩
      have hiz : (n : Int) - (pre.length : Int) - 1 = (i : Int) := by omega
      have hin : i < n := by omega
      obtain ⟨b, off, ha, hcs⟩ := hs.mem.get (k := i) (by rw [hs.len]; exact hin)
      subst ha
      obtain ⟨r1, r2, t1, t2⟩ := hcs i (by rw [hs.len]; exact hin)
      clear hcs
      have hT2 := hT.snoc hk
      have hlt0 : n - (pre.length + 1) < n := by omega
      obtain ⟨X, hX⟩ : ∃ X : Rd n, (⟨n - (pre.length + 1), hlt0⟩ : Rd n) = X := ⟨_, rfl⟩
      rw [hX] at hT2
      have hE : encR l X = #[.int .i64 (i : Int), .agg #[.int .i64 (spn l i).1, .int .i64 (spn l i).2]] := by
        rw [← hX, ← hi]; rfl
      obtain ⟨fn, tmps, assign, body, hy, hR⟩ := hY pre X wr hJs hk
      rw [hE] at hy
      generalize (spn l i).1 = x1 at r1 hy t1
      generalize (spn l i).2 = x2 at r2 hy t2
      have HG : Aside (∀ W3, Keeps n₀ B (.slice (some ⟨b, off, none⟩) n c) wr W3 → Sps W3 (some ⟨b, off, none⟩) n c l ∧ Go.Boxed W3 B 27 (.slice (some ⟨b, off, none⟩) n c)) := fun W3 hk => ⟨hs.low_keep hlow hk.1, hk.2 hb⟩
      have HT2 : Aside (Told (pre ++ [X])) := hT2
      have HL : Aside (((pre ++ [X]).length : Int) = (n : Int) - (i : Int)) := by show _ = _; rw [List.length_append, List.length_singleton]; omega
      rw [hiz]
      clear hT hs hb hJs hY h0 hE hT2 hX hS hlow hB hcB hi hiz hge hk
      gi_wp2
      refine hR.mono ?_
      rintro e W3 (⟨rfl, hJ3, hk3⟩ | ⟨rfl, hJx3⟩)
      · have HG3 : Aside (_ ∧ _) := HG.out W3 hk3
        clear hk3 hR hy HG
        gi_wp2
        go_roundw
        case rel => exact ⟨pre ++ [X], by rw [HL.out]; go_num, HT2.out, HG3.out.1, HG3.out.2, hJ3⟩
        case measure => simp [intOf]
      · clear hR hy HG
        gi_wp2
        refine bodyPost_ret (results_none rfl _ _ _) rfl ?_
        exact ⟨⟨_, rfl⟩, .inr ⟨pre ++ [X], HT2.out, hJx3⟩⟩
    · have hlen : pre.length = n := by have := hT.1; omega
      have hge : (n : Int) - (pre.length : Int) - 1 < 0 := by omega
      have hz : (n : Int) - (pre.length : Int) - 1 = -1 := by omega
      rw [hz]
      gi_wp2
      go_end0
      exact ⟨⟨_, rfl⟩, .inl ⟨pre, ⟨hT, hlen⟩, hJs⟩⟩

theorem back_stops (d : Nat) (n c B n₀ : Nat) (a : Option Addr) (l : List Sp) (hd : 1 ≤ d) (w : World) (hS : Sps w a n c l) (hlow : l ≠ [] → ∀ p, a = some p → p.block < n₀) (hB : Go.Boxed w B 27 (.slice a n c)) :
    SeqStopsK Fence.wide d Try.prog 52 #[.pointer (some ⟨B, 0, none⟩)] (encR (n := n) l) (Keeps n₀ B (.slice a n c)) (fun xs => Told xs ∧ xs.length = n) Told n w := fun li J Jx W hW _ _ hY h0 =>
  back1_in d n c B n₀ li a l J Jx hd W (hS.keep hW) hlow (Go.Boxed.kept (row := none) hB (grown_of hW) (by simp)) hY h0
end Go.Proofs.Ytfhihkogdnbghaa.spans
