/-
  The chapter's example holds: the contract of the statements' own 'known'.
-/
import Derived.Test.YtlokamblbhooaaaCodeEnc
import Derived.Test.YtlokamblbhooaaaCodeDec2
namespace Go.Proofs.Ytlokamblbhooaaa.code
open Go.ChangeShapes Go.WideShapes Go.ChangeAt Go.RowKit Go.Deep
open Go.Proofs.Ytlokamblbhooaaa.dims (nth Ints cell_lt vals vals_len vals_get vals_one vals_app own_below own_mono own_out own_apart RowOut ret_bool ret_int)
set_option linter.unusedVariables false
set_option maxRecDepth 100000
set_option linter.unusedSimpArgs false

/-- bytes of a call's own can be read -/
structure BytesAt (w : World) (a : Option Addr) (n c : Nat) (l : List UInt8) : Prop where
  mem : ByIn w a l
  low : l ≠ [] → ∀ p, a = some p → p.block < w.heap.size
  len : l.length = n
  cap : n ≤ c
theorem BytesAt.keep {w w1 : World} {a : Option Addr} {n c : Nat} {l : List UInt8} (h : BytesAt w a n c l) (hb : Below w.heap.size w w1) : BytesAt w1 a n c l := ⟨h.mem.keep hb, fun h0 p hp => Nat.lt_of_lt_of_le (h.low h0 p hp) hb.size, h.len, h.cap⟩
theorem Bs.bytes {B : Nat} {w : World} {v : Value} {l : List UInt8} (h : Bs B w v l) : ∃ a c, v = .slice a l.length c ∧ BytesAt w a l.length c l := by
  rcases h.2 with ⟨h1, h2⟩ | ⟨g, cap, cur, h1, _, hg, hc, _⟩
  · have : l = [] := List.eq_nil_of_length_eq_zero h2
    subst this
    exact ⟨none, 0, h1, .inl rfl, (fun _ p hp => by cases hp), rfl, by simp⟩
  · refine ⟨some ⟨g, 0, none⟩, cap, h1, .inr ⟨g, 0, rfl, fun i hi => ?_⟩, fun _ p hp => ?_, rfl, hc⟩
    · have := World.ownsRow.cells h (g := g) (by rw [h1]; rfl) i (.int .u8 (bth l i)) (by simp [Lib.byteCells, bth, hi])
      rw [show (⟨g, 0, none⟩ : Addr).add i = ⟨g, 0 + i, none⟩ by by_cases e : i = 0 <;> simp [Addr.add, e]] at this
      exact this
    · injection hp with hp
      subst hp
      exact (Array.getElem?_eq_some_iff.1 hg).1
theorem str_of {w : World} {a : Option Addr} {l : List UInt8} (h : ByIn w a l) (n c : Nat) (hn : l.length = n) : (convert 33 9 (.slice a n c)).run Try.prog w = .ok (.string ⟨l.toArray⟩) w := by
  subst hn
  rcases h with rfl | ⟨b, off, rfl, hc⟩
  · show (convert 33 9 (.slice a 0 c)).run Try.prog w = _
    rw [run_convert_bytes_string w 33 9 5 a 0 c Try.underlying33 Try.underlying5 Try.underlying9]
    cases a <;> rfl
  · refine run_convert_bytes_back (P := Try.prog) w 33 9 5 ⟨b, off, none⟩ c l Try.underlying33 Try.underlying5 Try.underlying9 fun j hj => ?_
    rw [show (⟨b, off, none⟩ : Addr).add j = ⟨b, off + j, none⟩ by by_cases e : j = 0 <;> simp [Addr.add, e], hc j hj]
    simp [bth, hj]

def exA : Rc := ⟨3, 5, 0, none, 0, [], none, 0, [], 0, none, 0, [], 0, 0, none, 0, []⟩
theorem exA_in (w : World) : RecIn w exA := ⟨by simp [exA], by simp [exA, U32], by simp [exA, U32], .inl rfl, by simp [exA], by simp [exA], .inl rfl, by simp [exA], by simp [exA, U32], .inl rfl, by simp [exA], by simp [exA, I64], by simp [exA, I64], .inl rfl, by simp [exA]⟩
theorem exA_snd : sndRec (pr exA) = true := by kernel_rfl
theorem exA_B : recB (pr exA) = [3, 0, 0, 0, 5] := by kernel_rfl
theorem dec_ex : dec [3, 0, 0, 0, 5] = some (pr exA) := by
  have := dec_recB exA_snd (exA_in default).typed
  rwa [exA_B] at this
theorem dec_nil : dec [] = none := by kernel_rfl

set_option maxHeartbeats 8000000 in
theorem known_any (w : World) : Calls Try.prog 10 #[] w fun e w' => e = .returned (.bool true) ∧ Below w.heap.size w w' := by
  have hC1 := encode_ok w exA (exA_in w) exA_snd (by rw [exA_B]; simp)
  rw [exA_B] at hC1
  go_enter Try.func10, Try.ntmps10
  go_wp2_with (go_at_call 11; refine hC1.mono ?_; rintro e w1 ⟨v, rfl, hown, g1⟩; refine Hid.out ?_)
  refine hid ?_
  obtain ⟨a, c, hv, hba⟩ := hown.bytes
  subst hv
  have hC2 := decode_some w1 a _ c _ hba.mem hba.low hba.len hba.cap (by simp) _ dec_ex
  have HBA : Aside (BytesAt w1 a 5 c [3, 0, 0, 0, 5]) := hba
  clear hown hC1 hba
  simp only [List.length_cons, List.length_nil, Nat.zero_add, Nat.reduceAdd] at hC2 ⊢
  go_wp2_with (go_at_call 16; refine hC2.mono ?_; rintro e w2 ⟨r, rfl, hpr, hR, g2⟩; refine Hid.out ?_)
  refine hid ?_
  have HID : Hid (r.id = 5) := congrArg PRec.id hpr
  have HR : Aside (RecIn w2 r ∧ pr r = pr exA) := ⟨hR, hpr⟩
  have hb2 : Below w2.heap.size w2 (w2.alloc (.cells (rcC r) 30)) := (Below.refl _ _).alloc (Nat.le_refl _) _
  have hx2 := Boxed.new w2 (rcC r) 30
  have HB2 : Aside (Below w.heap.size w w2) := g1.trans (g2.mono g1.size)
  generalize hW3 : w2.alloc (.cells (rcC r) 30) = W3 at hb2 hx2
  have HW3 : Hid (w2.alloc (.cells (rcC r) 30) = W3) := hW3
  have hC3 := decode_none W3 none 0 0 [] (.inl rfl) (fun _ p hp => by cases hp) rfl (Nat.le_refl _) (by omega) dec_nil
  have H3 : Aside (Below w2.heap.size w2 W3) := hb2
  have G2 : Aside (Below w1.heap.size w1 w2) := g2
  clear hC2 hpr hR hb2 g1 g2 hW3
  unfold rcV rcC at *
  go_wp2_with fail
  rw [HW3.out]
  refine hC3.mono ?_
  rintro e w4 ⟨rfl, g4⟩
  have hx4 := hx2.below g4
  have hba4 := ((HBA.out.keep G2.out).keep H3.out).keep g4
  have hb5 : Below w4.heap.size w4 (w4.alloc (.cells #[.int .u8 0, .int .u32 0, .int .u32 0, .slice none 0 0, .slice none 0 0, .int .u32 0, .slice none 0 0, .int .i64 0, .int .i64 0, .slice none 0 0] 30)) := (Below.refl _ _).alloc (Nat.le_refl _) _
  have hcv := str_of (hba4.keep hb5).mem 5 c rfl
  have hR5 := ((HR.out.1.keep H3.out).keep g4).keep hb5
  have hC5 := sound_any _ r hR5
  rw [HR.out.2, exA_snd] at hC5
  have HB5 : Aside (Below w.heap.size w (w4.alloc (.cells #[.int .u8 0, .int .u32 0, .int .u32 0, .slice none 0 0, .slice none 0 0, .int .u32 0, .slice none 0 0, .int .i64 0, .int .i64 0, .slice none 0 0] 30))) := ((HB2.out.trans (H3.out.mono HB2.out.size)).trans (g4.mono (Nat.le_trans HB2.out.size H3.out.size))).alloc (Nat.le_trans (Nat.le_trans HB2.out.size H3.out.size) g4.size) _
  have cb0 := hx4.cell (j := 0) rfl
  have cb1 := hx4.cell (j := 1) rfl
  have cb2 := hx4.cell (j := 2) rfl
  have cb3 := hx4.cell (j := 3) rfl
  have cb4 := hx4.cell (j := 4) rfl
  have cb5 := hx4.cell (j := 5) rfl
  have cb6 := hx4.cell (j := 6) rfl
  have cb7 := hx4.cell (j := 7) rfl
  have cb8 := hx4.cell (j := 8) rfl
  have cb9 := hx4.cell (j := 9) rfl
  have hlt4 := hx4.lt
  clear hx4 hba4 hb5 hR5 hC3 hx2 g4
  unfold recZ
  unfold rcV rcC at hC5
  rw [HID.out] at *
  go_wp2_with (go_at_call 13; refine hC5.mono ?_; rintro e w6 ⟨rfl, g6⟩)
  go_ret
  exact ⟨rfl, HB5.out.trans (g6.mono HB5.out.size)⟩
end Go.Proofs.Ytlokamblbhooaaa.code
