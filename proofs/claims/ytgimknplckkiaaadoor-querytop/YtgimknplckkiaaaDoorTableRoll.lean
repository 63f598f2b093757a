/-
  The contract of table.Roll: a table at levels above, or why there is none.
-/
import Derived.Test.YtgimknplckkiaaaDoorTableLeveled
import Derived.Test.YtgimknplckkiaaaDoorTableSoundT
namespace Go.Proofs.YtgimknplckkiaaaDoor.table
open Go.ChangeShapes Go.WideShapes Go.ChangeAt Go.RowKit Go.Deep
open Go.Proofs.YtgimknplckkiaaaDoor.dims
open Go.Proofs.YtgimknplckkiaaaDoor.cell (C4 mrg all one zero In64)
set_option linter.unusedVariables false
set_option maxRecDepth 100000

/-- the boxes of what the function that tells keys has caught -/
structure RB (w : World) (B : Nat) (x1 x2 x3 : Value) (W : World) : Prop where
  bel : Below w.heap.size w W
  c1 : W.cell? ⟨B, 0, none⟩ = some x1
  c2 : W.cell? ⟨B + 1, 0, none⟩ = some x2
  c3 : W.cell? ⟨B + 1 + 1, 0, none⟩ = some x3
theorem RB.keep {w W W1 : World} {B : Nat} {x1 x2 x3 : Value} (h : RB w B x1 x2 x3 W) (hb : Below W.heap.size W W1) : RB w B x1 x2 x3 W1 := by
  have k : ∀ {c o : Nat} {v : Value}, W.cell? ⟨c, o, none⟩ = some v → W1.cell? ⟨c, o, none⟩ = some v := fun {c o v} hv => (hb.cell (p := ⟨c, o, none⟩) (cell_lt hv)).trans hv
  exact ⟨h.bel.trans (hb.mono h.bel.size), k h.c1, k h.c2, k h.c3⟩
theorem RB.start (w : World) (x1 x2 x3 : Value) (t1 t2 t3 : TypeId) : RB w w.heap.size x1 x2 x3 (((w.alloc (.cells #[x1] t1)).alloc (.cells #[x2] t2)).alloc (.cells #[x3] t3)) := by
  refine ⟨(((Below.refl _ _).alloc (Nat.le_refl _) _).alloc (by simp) _).alloc (by simp; omega) _, ?_, ?_, ?_⟩
  · simp [go_sem]
  · simp [go_sem]
  · simp [go_sem]

set_option maxHeartbeats 4000000 in
theorem tell_any (B : Nat) (a a1 a2 a3 : Option Addr) (n cap c1 c2 c3 : Nat) (ds : List Dm) (f t k : List Int) (w w0 : World) (hB : RB w0 B (.slice a n cap) (.slice a1 n c1) (.slice a2 n c2) w) (hI : DimsIn w a ds) (hn : ds.length = n) (h1 : Ints w a1 f) (h2 : Ints w a2 t) (h3 : Ints w a3 k) (e1 : f.length = n) (e2 : t.length = n) (e3 : k.length = n) (hs : sndL ds = true) (hk : ∀ i, i < n → nth k i ≤ 9223372036854775807) :
    Calls Tryd.prog 48 #[.slice a3 n c3, .pointer (some ⟨B, 0, none⟩), .pointer (some ⟨B + 1, 0, none⟩), .pointer (some ⟨B + 1 + 1, 0, none⟩)] w fun e w' => ∃ v, e = .returned v ∧ RowCap w' v (atL ds f t k) ∧ Below w.heap.size w w' := by
  have C := at_cap a a1 a2 a3 n cap c1 c2 c3 ds f t k w hI hn h1 h2 h3 e1 e2 e3 hs hk
  obtain ⟨-, r1, r2, r3⟩ := hB
  clear hI hn h1 h2 h3 e1 e2 e3 hs hk
  go_enter Tryd.func48, Tryd.ntmps48
  go_wp2_with fail
  refine C.mono ?_
  rintro e w1 ⟨v, rfl, hr, hb⟩
  have HR : Aside (RowCap w1 v (atL ds f t k) ∧ Below w.heap.size w w1) := ⟨hr, hb⟩
  clear hr hb C r1 r2 r3
  go_wp2
  go_ret
  exact ⟨v, rfl, HR.out⟩

theorem sndT_row {rs : List Rw} {p : Nat} (h : sndT rs p = true) {r : Rw} (hr : r ∈ rs) : r.k.length = p ∧ posK r.k = true := by
  obtain ⟨i, hi, rfl⟩ := List.mem_iff_getElem.1 hr
  have := sndT_at h hi
  unfold okAt sndR at this
  simp only [Bool.and_eq_true, decide_eq_true_eq] at this
  rw [rwn_eq hi] at this
  exact ⟨by omega, this.1.2.1⟩
theorem RowsIn.key {w : World} {a : Option Addr} {rs : List Rw} (h : RowsIn w a rs) {r : Rw} (hr : r ∈ rs) : KeyOk w r.a r.k.length r.cap r.k := by
  obtain ⟨i, hi, rfl⟩ := List.mem_iff_getElem.1 hr
  obtain ⟨b, off, -, hc⟩ := h.get hi
  have := (hc i hi).2
  rw [rwn_eq hi] at this
  exact this

theorem tells_at (B : Nat) (a a1 a2 ar : Option Addr) (n cap c1 c2 : Nat) (ds : List Dm) (rs : List Rw) (f t : List Int) (w w0 : World) (hB : RB w0 B (.slice a n cap) (.slice a1 n c1) (.slice a2 n c2) w) (hI : DimsIn w a ds) (hn : ds.length = n) (h1 : Ints w a1 f) (h2 : Ints w a2 t) (hs : sndL ds = true) (hl : lvl ds f t = true) (hR : RowsIn w ar rs) (ht : sndT rs ds.length = true) :
    Tells w 48 #[.pointer (some ⟨B, 0, none⟩), .pointer (some ⟨B + 1, 0, none⟩), .pointer (some ⟨B + 1 + 1, 0, none⟩)] (atL ds f t) rs := by
  intro W r hW hr
  obtain ⟨k1, k2⟩ := sndT_row ht hr
  have K := (hR.key hr).keep hW
  obtain ⟨l1, l2, -⟩ := lvl_at hl
  have C := tell_any B a a1 a2 r.a n cap c1 c2 r.cap ds f t r.k W w0 (hB.keep hW) (hI.keep hW) hn (h1.keep hW) (h2.keep hW) K.mem (by omega) (by omega) (by omega) hs (fun i hi => by
    have : In64 (nth r.k i) := K.wf _ (by simp [nth, show i < r.k.length by omega])
    exact this.2)
  rw [show n = r.k.length by omega] at C
  refine C.mono ?_
  rintro e w1 ⟨v, rfl, ⟨p, q, e1, i1, m1, m2⟩, hb⟩
  exact ⟨v, rfl, ⟨p, q, e1, i1, rfl, m1, m2, at_in64 hs hl k2 k1 K.wf⟩, hb⟩

set_option maxHeartbeats 8000000 in
theorem roll_any (a ar a1 a2 : Option Addr) (n nr n1 n2 cap cr c1 c2 : Nat) (ds : List Dm) (rs : List Rw) (f t : List Int) (w : World) (hp : Pow w) (hI : DimsIn w a ds) (hn : ds.length = n) (hm : n ≤ 9223372036854775807) (hR : RowsIn w ar rs) (hr : rs.length = nr) (hr2 : nr ≤ 100000) (h1 : Ints w a1 f) (e1 : f.length = n1) (h2 : Ints w a2 t) (e2 : t.length = n2) :
    Calls Tryd.prog 26 #[.slice a n cap, .slice ar nr cr, .slice a1 n1 c1, .slice a2 n2 c2] w fun e w' => ∃ v, e = .returned (.tuple #[v, .int .u16 (rollE ds rs f t)]) ∧ TabOut w' v (rollT ds rs f t) ∧ Below w.heap.size w w' := by
  have HH : Aside (Pow w ∧ DimsIn w a ds ∧ ds.length = n ∧ RowsIn w ar rs ∧ rs.length = nr ∧ (Ints w a1 f ∧ f.length = n1) ∧ Ints w a2 t ∧ t.length = n2) := ⟨hp, hI, hn, hR, hr, ⟨h1, e1⟩, h2, e2⟩
  have R1 : Aside (RB w w.heap.size (.slice a n cap) (.slice a1 n1 c1) (.slice a2 n2 c2) (((w.alloc (.cells #[.slice a n cap] 22)).alloc (.cells #[.slice a1 n1 c1] 24)).alloc (.cells #[.slice a2 n2 c2] 24))) := RB.start w _ _ _ _ _ _
  clear hp hI hn hR hr h1 e1 h2 e2
  go_enter Tryd.func26, Tryd.ntmps26
  go_wp2_with fail
  generalize (((w.alloc (.cells #[.slice a n cap] 22)).alloc (.cells #[.slice a1 n1 c1] 24)).alloc (.cells #[.slice a2 n2 c2] 24)) = w1 at R1 ⊢
  obtain ⟨s, hs⟩ : ∃ s, sndL ds = s := ⟨_, rfl⟩
  have C1 := soundL_any a n cap ds w1 (HH.out.2.1.keep R1.out.bel) HH.out.2.2.1 hm
  rw [hs] at C1
  refine C1.mono ?_
  rintro e w2 ⟨rfl, hb2⟩
  have R2 : Aside _ := R1.out.keep hb2
  clear C1 hb2 R1
  cases s with
  | false =>
    have E : Hid (rollE ds rs f t = 30 ∧ rollT ds rs f t = []) := roll_30 hs
    clear hs
    go_wp2
    go_ret2
    exact ⟨_, by rw [E.out.1]; rfl, by rw [E.out.2]; exact TabOut.nil _, R2.out.bel⟩
  | true =>
    have HS : Hid (sndL ds = true) := hs
    clear hs
    have hn4 : n ≤ 4 := by have := HS.out; unfold sndL at this; rw [HH.out.2.2.1] at this; simp at this; omega
    obtain ⟨s, hs⟩ : ∃ s, lvl ds f t = s := ⟨_, rfl⟩
    have C1 := leveled_any a a1 a2 n n1 n2 cap c1 c2 ds f t w2 (HH.out.2.1.keep R2.out.bel) HH.out.2.2.1 (HH.out.2.2.2.2.2.1.1.keep R2.out.bel) HH.out.2.2.2.2.2.1.2 (HH.out.2.2.2.2.2.2.1.keep R2.out.bel) HH.out.2.2.2.2.2.2.2 hn4 (fun i hi => (sndL_all HS.out i (by rw [HH.out.2.2.1]; exact hi)).2.2.1)
    rw [hs] at C1
    have q1 := R2.out.c1
    have q2 := R2.out.c2
    have q3 := R2.out.c3
    go_wp2_with fail
    refine C1.mono ?_
    rintro e w3 ⟨rfl, hb3⟩
    have R3 : Aside _ := R2.out.keep hb3
    clear C1 hb3 R2 q1 q2 q3
    cases s with
    | false =>
      have E : Hid (rollE ds rs f t = 40 ∧ rollT ds rs f t = []) := roll_40 HS.out hs
      clear hs
      go_wp2
      go_ret2
      exact ⟨_, by rw [E.out.1]; rfl, by rw [E.out.2]; exact TabOut.nil _, R3.out.bel⟩
    | true =>
      have HL : Hid (lvl ds f t = true) := hs
      clear hs
      have hx1 : n1 = n := by have := (lvl_at HL.out).1; rw [HH.out.2.2.2.2.2.1.2, HH.out.2.2.1] at this; exact this
      have hx2 : n2 = n := by have := (lvl_at HL.out).2.1; rw [HH.out.2.2.2.2.2.2.2, HH.out.2.2.1] at this; exact this
      subst hx1
      subst hx2
      obtain ⟨s, hs⟩ : ∃ s, sndT rs n2 = s := ⟨_, rfl⟩
      have C1 := soundT_any ar nr cr rs n2 w3 (HH.out.2.2.2.1.keep R3.out.bel) HH.out.2.2.2.2.1 (by omega)
      rw [hs] at C1
      have q1 := R3.out.c1
      go_wp2_with fail
      refine C1.mono ?_
      rintro e w4 ⟨rfl, hb4⟩
      have R4 : Aside _ := R3.out.keep hb4
      clear C1 hb4 R3 q1
      cases s with
      | false =>
        have E : Hid (rollE ds rs f t = 1 ∧ rollT ds rs f t = []) := roll_1 HS.out HL.out (by rw [HH.out.2.2.1]; exact hs)
        clear hs
        go_wp2
        go_ret2
        exact ⟨_, by rw [E.out.1]; rfl, by rw [E.out.2]; exact TabOut.nil _, R4.out.bel⟩
      | true =>
        have HT : Hid (sndT rs ds.length = true) := by show _ = _; rw [HH.out.2.2.1]; exact hs
        have E : Hid (rollE ds rs f t = 0 ∧ rollT ds rs f t = tab (told (atL ds f t) rs)) := roll_0 HS.out HL.out HT.out
        have T1 := tells_at w.heap.size a a1 a2 ar n2 cap c1 c2 ds rs f t w4 w R4.out (HH.out.2.1.keep R4.out.bel) HH.out.2.2.1 (HH.out.2.2.2.2.2.1.1.keep R4.out.bel) (HH.out.2.2.2.2.2.2.1.keep R4.out.bel) HS.out HL.out (HH.out.2.2.2.1.keep R4.out.bel) HT.out
        have C1 := gather_any ar nr cr rs 48 _ (atL ds f t) w4 (HH.out.1.keep R4.out.bel) (HH.out.2.2.2.1.keep R4.out.bel) HH.out.2.2.2.2.1 hr2 (enters_of Tryd.func48 (by kernel_rfl) rfl) T1 (fun r hr => by rw [atL_len, HH.out.2.2.1]; omega)
        clear hs T1
        go_wp2_with fail
        refine C1.mono ?_
        rintro e w5 ⟨v, rfl, hT, hb5⟩
        have B5 : Aside (Below w.heap.size w w5) := R4.out.bel.trans (hb5.mono R4.out.bel.size)
        have HT5 : Aside (TabOut w5 v (tab (told (atL ds f t) rs))) := hT
        clear C1 hT hb5 R4
        go_wp2
        go_ret2
        exact ⟨v, by rw [E.out.1]; rfl, by rw [E.out.2]; exact HT5.out, B5.out⟩
end Go.Proofs.YtgimknplckkiaaaDoor.table
