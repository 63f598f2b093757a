/-
  The program's reader: what it holds; its take.
-/
import Derived.Test.YtlokamblbhooaaaCodeRec
import Derived.Test.YtlokamblbhooaaaCodeParse
import Derived.Laws.Bits64b
namespace Go.Proofs.Ytlokamblbhooaaa.code
open Go.ChangeShapes Go.WideShapes Go.ChangeAt Go.RowKit Go.Deep
open Go.Proofs.Ytlokamblbhooaaa.dims (nth Ints cell_lt vals vals_len vals_get vals_one vals_app own_below own_mono own_out own_apart RowOut ret_bool ret_int)
set_option linter.unusedVariables false
set_option maxRecDepth 100000

def bth (l : List UInt8) (i : Nat) : Int := ((l.getD i 0).toNat : Int)
theorem bth_drop (l : List UInt8) (k i : Nat) : bth (l.drop k) i = bth l (k + i) := by simp [bth]
/-- bytes that can be read at an address -/
def ByIn (w : World) (a : Option Addr) (l : List UInt8) : Prop :=
  l = [] ∨ ∃ b off, a = some ⟨b, off, none⟩ ∧ ∀ i, i < l.length → w.cell? ⟨b, off + i, none⟩ = some (.int .u8 (bth l i))
theorem ByIn.keep {w w1 : World} {a : Option Addr} {l : List UInt8} (h : ByIn w a l) (hb : Below w.heap.size w w1) : ByIn w1 a l := by
  rcases h with h | ⟨b, off, ha, hc⟩
  · exact .inl h
  · exact .inr ⟨b, off, ha, fun i hi => (hb.cell (p := ⟨b, off + i, none⟩) (cell_lt (hc i hi))).trans (hc i hi)⟩
theorem ByIn.get {w : World} {a : Option Addr} {l : List UInt8} (h : ByIn w a l) (hk : 0 < l.length) : ∃ b off, a = some ⟨b, off, none⟩ ∧ ∀ i, i < l.length → w.cell? ⟨b, off + i, none⟩ = some (.int .u8 (bth l i)) := by
  rcases h with rfl | h
  · simp at hk
  · exact h
/-- a reader's box, and what is left -/
structure Rdr (R : Nat) (w : World) (a : Option Addr) (n c : Nat) (l : List UInt8) : Prop where
  box : w.heap[R]? = some (.cells #[.slice a n c] 77 (0, 0))
  len : l.length = n
  cap : n ≤ c
  low : l ≠ [] → ∀ p, a = some p → p.block < R
  mem : ByIn w a l
theorem Rdr.cell {R n c : Nat} {w : World} {a : Option Addr} {l : List UInt8} (h : Rdr R w a n c l) : w.cell? ⟨R, 0, none⟩ = some (.slice a n c) := by
  have := cell_of_row w R 0 _ _ _ h.box
  simpa using this
theorem Rdr.frz {R n c : Nat} {w : World} {a : Option Addr} {l : List UInt8} (h : Rdr R w a n c l) : w.frozen? ⟨R, 0, none⟩ = false := by
  simp [World.frozen?, h.box]
theorem Rdr.keep {R n c : Nat} {w w' : World} {a : Option Addr} {l : List UInt8} (h : Rdr R w a n c l) (hb : Below w.heap.size w w') : Rdr R w' a n c l :=
  ⟨(hb.block R (cell_lt h.cell)).trans h.box, h.len, h.cap, h.low, h.mem.keep hb⟩
/-- behind a step: the front is gone -/
theorem Rdr.step {R n c k : Nat} {w : World} {a a' : Option Addr} {l : List UInt8} (h : Rdr R w a n c l) (hk : k ≤ n) (hlow : ∀ p, a' = some p → p.block < R) (hm : ByIn w a' (l.drop k)) :
    Rdr R (w.setCell ⟨R, 0, none⟩ (.slice a' (n - k) (c - k))) a' (n - k) (c - k) (l.drop k) := by
  refine ⟨?_, by rw [List.length_drop, h.len], by have := h.cap; omega, fun _ => hlow, ?_⟩
  · simp [World.setCell, Array.getElem?_modify, h.box]
  · rcases hm with h0 | ⟨b, off, ha, hc⟩
    · exact .inl h0
    · refine .inr ⟨b, off, ha, fun i hi => ?_⟩
      have hb : b < R := hlow _ ha
      rw [World.cell?_setCell_other _ _ _ _ (by intro e; injection e with e1 e2; omega)]
      exact hc i hi

set_option maxHeartbeats 4000000 in
theorem take_bad (R n c k : Nat) (w : World) (a : Option Addr) (l : List UInt8) (h : Rdr R w a n c l) (hk : n < k) (h8 : k ≤ 8) :
    Calls Try.prog 75 #[.pointer (some ⟨R, 0, none⟩), .int .i64 k] w fun e w' => (∃ m, e = .panicked [{ v := .iface 74 (.int .i64 m), recovered := false }]) ∧ w' = w := by
  have r0 := h.cell
  have hkz : (n : Int) < (k : Int) := by omega
  clear h
  go_enter Try.func75, Try.ntmps75
  go_wp2
  exact ⟨rfl, ⟨_, rfl⟩, rfl⟩

/-- what is left behind a read; nothing but the reader's box and new memory has changed -/
structure Went (R : Nat) (w w' : World) (l : List UInt8) : Prop where
  rdr : ∃ a n c, Rdr R w' a n c l
  grown : w.grownBy w' (some R)
theorem grown_set (w : World) (R : Nat) (v : Value) : w.grownBy (w.setCell ⟨R, 0, none⟩ v) (some R) :=
  ⟨rfl, rfl, rfl, by simp [World.setCell], fun k hk hne => by
    have : R ≠ k := fun e => hne (by rw [e])
    simp [World.setCell, Array.getElem?_modify, this]⟩

set_option maxHeartbeats 4000000 in
theorem take_ok (R n c k : Nat) (w : World) (a : Option Addr) (l : List UInt8) (h : Rdr R w a n c l) (hk : k ≤ n) (h1 : 1 ≤ k) :
    Calls Try.prog 75 #[.pointer (some ⟨R, 0, none⟩), .int .i64 k] w fun e w' => e = .returned (.slice a k c) ∧ Went R w w' (l.drop k) := by
  have r0 := h.cell
  have f0 := h.frz
  have hkz : ¬ (n : Int) < (k : Int) := by omega
  have hl := h.len
  have hc := h.cap
  obtain ⟨b, off, ha, hcc⟩ := h.mem.get (by omega)
  subst ha
  have H : Aside (Rdr R w (some ⟨b, off, none⟩) n c l) := h
  clear h
  have hlow : b < R := H.out.low (by rintro rfl; simp at hl; omega) _ rfl
  clear hcc
  by_cases hck : c = k
  · have S : Aside (ByIn w (some ⟨b, off, none⟩) (l.drop k)) := .inl (by rw [List.drop_eq_nil_iff]; omega)
    go_enter Try.func75, Try.ntmps75
    go_wp2
    go_ret
    refine ⟨rfl, ⟨some ⟨b, off, none⟩, n - k, 0, ?_⟩, grown_set _ _ _⟩
    · have := H.out.step hk (a' := some ⟨b, off, none⟩) (fun p hp => by injection hp with hp; rw [← hp]; exact hlow) S.out
      rw [hck, Nat.sub_self] at this
      exact this
  · have S : Aside (ByIn w (some ⟨b, off + k, none⟩) (l.drop k)) := by
      by_cases hnk : k = n
      · exact .inl (by rw [List.drop_eq_nil_iff]; omega)
      · refine .inr ⟨b, off + k, rfl, fun i hi => ?_⟩
        rw [List.length_drop] at hi
        obtain ⟨b2, off2, ha2, hc2⟩ := H.out.mem.get (by omega)
        simp only [Option.some.injEq, Addr.mk.injEq, and_true] at ha2
        obtain ⟨rfl, rfl⟩ := ha2
        rw [bth_drop, Nat.add_assoc]
        exact hc2 (k + i) (by omega)
    go_enter Try.func75, Try.ntmps75
    go_wp2
    go_ret
    exact ⟨rfl, ⟨some ⟨b, off + k, none⟩, _, _, H.out.step hk (a' := some ⟨b, off + k, none⟩) (fun p hp => by injection hp with hp; rw [← hp]; exact hlow) S.out⟩, grown_set _ _ _⟩
theorem byte_or (v x : Nat) (hx : x < 256) (hv : v * 256 + x < 18446744073709551616) : bits .or .u64 (IntKind.u64.wrap ((v : Int) * 256)) (IntKind.u64.wrap (x : Int)) = ((v * 256 + x : Nat) : Int) := by
  rw [IntKind.wrap_u64, IntKind.wrap_u64]
  have e1 : ((v : Int) * 256 % 18446744073709551616) = ((v * 256 : Nat) : Int) := by omega
  have e2 : ((x : Int) % 18446744073709551616) = ((x : Nat) : Int) := by omega
  rw [e1, e2, bits_or_u64_nat _ _ (by omega) (by omega)]
  have := Nat.two_pow_add_eq_or_of_lt (i := 8) (b := x) (by simpa using hx) v
  rw [show 2 ^ 8 * v = v * 256 by omega] at this
  rw [this]
theorem byte_or2 (v x : Nat) (hx : x < 256) (hv : v * 256 + x < 18446744073709551616) : bits .or .u64 ((v : Int) * 256) (x : Int) = ((v * 256 + x : Nat) : Int) := by
  have e1 : ((v : Int) * 256) = ((v * 256 : Nat) : Int) := by omega
  rw [e1, bits_or_u64_nat _ _ (by omega) (by omega)]
  have := Nat.two_pow_add_eq_or_of_lt (i := 8) (b := x) (by simpa using hx) v
  rw [show 2 ^ 8 * v = v * 256 by omega] at this
  rw [this]
theorem wrap_asI64 {v : Nat} (h : v < 18446744073709551616) : wrap64 (v : Int) = asI64 v := by
  unfold wrap64 asI64
  split <;> omega
theorem valB_take {l : List UInt8} {i : Nat} (h : i < l.length) : valB (l.take (i + 1)) = valB (l.take i) * 256 + (l.getD i 0).toNat := by
  rw [List.take_succ_eq_append_getElem h]
  unfold valB
  rw [List.foldl_append]
  simp [h]
end Go.Proofs.Ytlokamblbhooaaa.code
