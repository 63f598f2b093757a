/-
  The contract of the chapter's Roll.
-/
import Derived.Test.YtgimknplckkiaaaDoorTableRefLevels
import Derived.Test.YtgimknplckkiaaaDoorTableRefSound
import Derived.Test.YtgimknplckkiaaaDoorTableRefMake
import Derived.Test.YtgimknplckkiaaaDoorDimsRK
import Derived.Test.YtgimknplckkiaaaDoorTableRoll
namespace Go.Proofs.YtgimknplckkiaaaDoor.table
open Go.ChangeShapes Go.WideShapes Go.ChangeAt Go.RowKit Go.Deep
open Go.Proofs.YtgimknplckkiaaaDoor.dims
open Go.Proofs.YtgimknplckkiaaaDoor.cell (C4 mrg all one zero In64)
set_option linter.unusedVariables false
set_option maxRecDepth 100000

theorem told_take {tl : List Int → List Int} {rs : List Rw} {k : Nat} (h : k < rs.length) : tab (told tl (rs.take (k + 1))) = lay (tab (told tl (rs.take k))) (tl (rwn rs k).k, (rwn rs k).c) := by
  rw [told_succ h]; simp [tab]

theorem refKey_any (a a1 a2 : Option Addr) (n cap c1 c2 : Nat) (ds : List Dm) (rs : List Rw) (ar : Option Addr) (f t : List Int) (w : World) (hI : DimsIn w a ds) (hn : ds.length = n) (h1 : Ints w a1 f) (h2 : Ints w a2 t) (hs : sndL ds = true) (hl : lvl ds f t = true) (hR : RowsIn w ar rs) (ht : sndT rs n = true) {r : Rw} (hr : r ∈ rs) :
    Calls Tryd.prog 55 #[.slice a n cap, .slice a1 n c1, .slice a2 n c2, .slice r.a r.k.length r.cap] w fun e w' => ∃ p q, e = .returned (.slice p n q) ∧ KeyOk w' p n q (atL ds f t r.k) ∧ Below w.heap.size w w' := by
  obtain ⟨k1, k2⟩ := sndT_row ht hr
  have K := hR.key hr
  obtain ⟨l1, l2, -⟩ := lvl_at hl
  rw [k1]
  refine (refAt_cap a a1 a2 r.a n cap c1 c2 r.cap ds f t r.k w hI hn h1 h2 K.mem (by omega) (by omega) k1 hs (fun i hi => by
    have : In64 (nth r.k i) := K.wf _ (by simp [nth, show i < r.k.length by omega])
    exact this.2)).mono ?_
  rintro e w1 ⟨v, rfl, ⟨p, q, e1, i1, m1, m2⟩, hb⟩
  have el : (atL ds f t r.k).length = n := by rw [atL_len, hn]
  rw [el] at e1 m1
  exact ⟨p, q, by rw [e1], ⟨i1, el, m1, m2, at_in64 hs hl k2 (by omega) K.wf⟩, hb⟩

set_option maxHeartbeats 8000000 in
theorem refRoll_any (a ar a1 a2 : Option Addr) (n nr n1 n2 cap cr c1 c2 : Nat) (ds : List Dm) (rs : List Rw) (f t : List Int) (w : World) (hI : DimsIn w a ds) (hn : ds.length = n) (hm : n ≤ 9223372036854775807) (hR : RowsIn w ar rs) (hr : rs.length = nr) (hr2 : nr ≤ 10000) (h1 : Ints w a1 f) (e1 : f.length = n1) (h2 : Ints w a2 t) (e2 : t.length = n2) :
    Calls Tryd.prog 29 #[.slice a n cap, .slice ar nr cr, .slice a1 n1 c1, .slice a2 n2 c2] w fun e w' => ∃ v, e = .returned (.tuple #[v, .int .i64 (rollE ds rs f t)]) ∧ TabOut w' v (rollT ds rs f t) ∧ Below w.heap.size w w' := by
  have HH : Aside (DimsIn w a ds ∧ ds.length = n ∧ RowsIn w ar rs ∧ rs.length = nr ∧ (Ints w a1 f ∧ f.length = n1) ∧ Ints w a2 t ∧ t.length = n2) := ⟨hI, hn, hR, hr, ⟨h1, e1⟩, h2, e2⟩
  obtain ⟨s, hs⟩ : ∃ s, sndL ds = s := ⟨_, rfl⟩
  have C1 := refSound_any a n cap ds w hI hn hm
  rw [hs] at C1
  clear hI hn hR hr h1 e1 h2 e2
  go_enter Tryd.func29, Tryd.ntmps29
  go_wp2_with fail
  refine C1.mono ?_
  rintro e w2 ⟨rfl, hb2⟩
  have R2 : Aside (Below w.heap.size w w2) := hb2
  clear C1 hb2
  cases s with
  | false =>
    have E : Hid (rollE ds rs f t = 30 ∧ rollT ds rs f t = []) := roll_30 hs
    clear hs
    go_wp2
    go_ret2
    exact ⟨_, by rw [E.out.1]; rfl, by rw [E.out.2]; exact TabOut.nil _, R2.out⟩
  | true =>
    have HS : Hid (sndL ds = true) := hs
    clear hs
    have hn4 : n ≤ 4 := by have := HS.out; unfold sndL at this; rw [HH.out.2.1] at this; simp at this; omega
    obtain ⟨s, hs⟩ : ∃ s, lvl ds f t = s := ⟨_, rfl⟩
    have C1 := refLevels_ok a a1 a2 n n1 n2 cap c1 c2 ds f t w2 (HH.out.1.keep R2.out) HH.out.2.1 (HH.out.2.2.2.2.1.1.keep R2.out) HH.out.2.2.2.2.1.2 (HH.out.2.2.2.2.2.1.keep R2.out) HH.out.2.2.2.2.2.2 hn4 (fun i hi => (sndL_all HS.out i (by rw [HH.out.2.1]; exact hi)).2.2.1)
    rw [hs] at C1
    go_wp2_with fail
    refine C1.mono ?_
    rintro e w3 ⟨rfl, hb3⟩
    have R3 : Aside (Below w.heap.size w w3) := R2.out.trans (hb3.mono R2.out.size)
    clear C1 hb3 R2
    cases s with
    | false =>
      have E : Hid (rollE ds rs f t = 40 ∧ rollT ds rs f t = []) := roll_40 HS.out hs
      clear hs
      go_wp2
      go_ret2
      exact ⟨_, by rw [E.out.1]; rfl, by rw [E.out.2]; exact TabOut.nil _, R3.out⟩
    | true =>
      have HL : Hid (lvl ds f t = true) := hs
      clear hs
      have hx1 : n1 = n := by have := (lvl_at HL.out).1; rw [HH.out.2.2.2.2.1.2, HH.out.2.1] at this; exact this
      have hx2 : n2 = n := by have := (lvl_at HL.out).2.1; rw [HH.out.2.2.2.2.2.2, HH.out.2.1] at this; exact this
      subst hx1
      subst hx2
      obtain ⟨s, hs⟩ : ∃ s, sndT rs n2 = s := ⟨_, rfl⟩
      have C1 := refSoundT_any ar nr cr rs n2 w3 (HH.out.2.2.1.keep R3.out) HH.out.2.2.2.1 (by omega)
      rw [hs] at C1
      go_wp2_with fail
      refine C1.mono ?_
      rintro e w4 ⟨rfl, hb4⟩
      have R4 : Aside (Below w.heap.size w w4) := R3.out.trans (hb4.mono R3.out.size)
      clear C1 hb4 R3
      cases s with
      | false =>
        have E : Hid (rollE ds rs f t = 1 ∧ rollT ds rs f t = []) := roll_1 HS.out HL.out (by rw [HH.out.2.1]; exact hs)
        clear hs
        go_wp2
        go_ret2
        exact ⟨_, by rw [E.out.1]; rfl, by rw [E.out.2]; exact TabOut.nil _, R4.out⟩
      | true =>
        have HT : Hid (sndT rs n2 = true) := hs
        have E : Hid (rollE ds rs f t = 0 ∧ rollT ds rs f t = tab (told (atL ds f t) rs)) := roll_0 HS.out HL.out (by rw [HH.out.2.1]; exact hs)
        clear hs
        have S1 : Aside (TS w4 (tab (told (atL ds f t) (rs.take 0))) 0 none 0 0 w4) := TS.start w4
        have H4 : Aside (DimsIn w4 a ds ∧ RowsIn w4 ar rs ∧ Ints w4 a1 f ∧ Ints w4 a2 t ∧ rs.length = nr ∧ ds.length = n2) := ⟨HH.out.1.keep R4.out, HH.out.2.2.1.keep R4.out, HH.out.2.2.2.2.1.1.keep R4.out, HH.out.2.2.2.2.2.1.keep R4.out, HH.out.2.2.2.1, HH.out.2.1⟩
        clear HH
        go_wp2_with fail
        go_loopg [10, 11] nr (fun g1 v vi wr => ∃ (k m : Nat) (aa : Option Addr) (cc : Nat), v = .slice aa m cc ∧ vi = .int .i64 k ∧ k ≤ nr ∧ nr - k ≤ g1 ∧ Aside (TS w4 (tab (told (atL ds f t) (rs.take k))) k aa m cc wr))
        case atStart => exact ⟨0, 0, none, 0, rfl, rfl, Nat.zero_le _, Nat.le_refl _, S1⟩
        case round =>
          clear S1
          obtain ⟨k, m, aa, cc, rfl, rfl, hk, hg1, SK⟩ := hrel
          by_cases hlt : k < nr
          · have hltz : (k : Int) < (nr : Int) := by omega
            have hkl : k < rs.length := by rw [H4.out.2.2.2.2.1]; exact hlt
            obtain ⟨b, off, ha, hc⟩ := (H4.out.2.1.keep SK.out.bel).get hkl
            obtain ⟨⟨r0, r1, r2, r3, r4⟩, -⟩ := hc k hkl
            have hA : ∀ W, Below wr.heap.size wr W → Calls Tryd.prog 55 #[.slice a n2 cap, .slice a1 n2 c1, .slice a2 n2 c2, .slice (rwn rs k).a (rwn rs k).k.length (rwn rs k).cap] W fun e w' => ∃ p q, e = .returned (.slice p n2 q) ∧ KeyOk w' p n2 q (atL ds f t (rwn rs k).k) ∧ Below W.heap.size W w' := fun W hW => by
              have hb := SK.out.bel.trans (hW.mono SK.out.bel.size)
              exact refKey_any a a1 a2 n2 cap c1 c2 ds rs ar f t W (H4.out.1.keep hb) H4.out.2.2.2.2.2 (H4.out.2.2.1.keep hb) (H4.out.2.2.2.1.keep hb) HS.out HL.out (H4.out.2.1.keep hb) HT.out (rwn_mem hkl)
            have hL : ∀ W p q, Below wr.heap.size wr W → KeyOk W p n2 q (atL ds f t (rwn rs k).k) → Calls Tryd.prog 39 #[.slice aa m cc, .agg #[.slice p n2 q, .int .i64 (rwn rs k).c.n, .int .i64 (rwn rs k).c.s, .int .i64 (rwn rs k).c.lo, .int .i64 (rwn rs k).c.hi]] W fun e w' => ∃ a' n' cap', e = .returned (.slice a' n' cap') ∧ TS w4 (tab (told (atL ds f t) (rs.take (k + 1)))) (k + 1) a' n' cap' w' ∧ Below W.heap.size W w' := fun W p q hW hK => by
              have el : (atL ds f t (rwn rs k).k).length = n2 := hK.len
              have := (SK.out.keep hW).lay_any (by omega) ⟨p, q, atL ds f t (rwn rs k).k, (rwn rs k).c⟩ (by rw [el]; exact hK) (by show (atL ds f t (rwn rs k).k).length ≤ 1000000; omega)
              rw [told_take hkl]
              simp only [el] at this
              exact this
            subst ha
            clear hc SK
            generalize atL ds f t (rwn rs k).k = L at hA hL
            generalize (rwn rs k).k.length = t1 at r0 hA
            generalize (rwn rs k).a = t2 at r0 hA
            generalize (rwn rs k).cap = t3 at r0 hA
            generalize (rwn rs k).c = c at r1 r2 r3 r4 hL
            go_wp2_with fail
            go_region_held3 (fun w' => Below wr.heap.size wr w' ∧ w'.cell? ⟨b, off + k * 5, none⟩ = some (.slice t2 t1 t3) ∧ w'.cell? ⟨b, off + k * 5 + 1, none⟩ = some (.int .i64 c.n) ∧ w'.cell? ⟨b, off + k * 5 + 2, none⟩ = some (.int .i64 c.s) ∧ w'.cell? ⟨b, off + k * 5 + 3, none⟩ = some (.int .i64 c.lo) ∧ w'.cell? ⟨b, off + k * 5 + 4, none⟩ = some (.int .i64 c.hi))
              (first | with_reducible assumption | (exact ⟨(Below.refl _ _).drew, r0, r1, r2, r3, r4⟩) | (refine keepC5 (W0 := wr) (b := b) (q := off + k * 5) (x0 := .slice t2 t1 t3) (x1 := .int .i64 c.n) (x2 := .int .i64 c.s) (x3 := .int .i64 c.lo) (x4 := .int .i64 c.hi) hb1 ?_; with_reducible assumption) | (refine keepC5 (W0 := wr) (b := b) (q := off + k * 5) (x0 := .slice t2 t1 t3) (x1 := .int .i64 c.n) (x2 := .int .i64 c.s) (x3 := .int .i64 c.lo) (x4 := .int .i64 c.hi) hb2 ?_; with_reducible assumption))
              (first | (go_at_call 55; refine (hA _ ?_).mono ?_; (focus (apply And.left; assumption)); rintro e w1 ⟨p1, q1, rfl, hK1, hb1⟩) | (go_at_call 39; refine (hL _ p1 q1 ?_ hK1).mono ?_; (focus (apply And.left; assumption)); rintro e w5 ⟨a', n', cap', rfl, hT2, hb2⟩))
            have S2 : Aside (TS w4 (tab (told (atL ds f t) (rs.take (k + 1)))) (k + 1) a' n' cap' w5) := hT2
            clear hT2 hb2 hL hA hb1 hK1
            go_wp2
            go_roundg (nr - (k + 1))
            case measure => omega
            case rel => exact ⟨k + 1, n', a', cap', rfl, by go_num, by omega, by omega, S2⟩
          · have hltz : ¬ (k : Int) < (nr : Int) := by omega
            have S3 := SK.out
            rw [List.take_of_length_le (by rw [H4.out.2.2.2.2.1]; omega)] at S3
            have S4 : Aside _ := S3
            clear S3 SK
            go_wp2
            go_ret2
            exact ⟨_, by rw [E.out.1]; rfl, by rw [E.out.2]; exact S4.out.out, R4.out.trans (S4.out.bel.mono R4.out.size)⟩
end Go.Proofs.YtgimknplckkiaaaDoor.table
