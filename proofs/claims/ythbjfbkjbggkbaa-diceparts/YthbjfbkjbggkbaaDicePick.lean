/-
  The contracts of dice.pick and of dice.Cut: rows whose keys are in.
-/
import Derived.Test.YthbjfbkjbggkbaaDiceCutRows
namespace Go.Proofs.Ythbjfbkjbggkbaa.dice
open Go.ChangeShapes Go.WideShapes Go.ChangeAt Go.RowKit Go.Deep
open Go.Proofs.Ythbjfbkjbggkbaa.dims
open Go.Proofs.Ythbjfbkjbggkbaa.table (Rw rwn plain PRow rowCells KeyOk TabOut flatR flatR_len flatR_snoc flatR_one rowCells_one info_row own_rows rwn_mem rwn_eq wpList_append_zero refSame_any)
open Go.Proofs.Ythbjfbkjbggkbaa.cell (C4 In64)
set_option linter.unusedVariables false
set_option maxRecDepth 100000

set_option maxHeartbeats 8000000 in
theorem pick_any (a : Option Addr) (n cap : Nat) (rs : List Rw) (g : Nat) (cb : Array Value) (p : List Int → Bool) (w : World) (hR : table.RowsIn w a rs) (hn : rs.length = n) (hn2 : n ≤ 100000) (hk : ∀ r ∈ rs, r.k.length ≤ 100000)
    (eg : ∀ args w, (callFunc g args).run Try.prog w = .ok (.enter g args) w) (hT : Asks w g cb p rs) :
    Calls Try.prog 28 #[.slice a n cap, .func (.func g) #[] cb] w fun e w' => ∃ v, e = .returned v ∧ TabOut w' v (cutR p rs) ∧ Below w.heap.size w w' := by
  obtain ⟨i0, hi, hz0, hz1, hz2⟩ := info_parts info_row
  have HH : Aside (table.RowsIn w a rs ∧ rs.length = n ∧ Asks w g cb p rs ∧ ∀ r ∈ rs, r.k.length ≤ 100000) := ⟨hR, hn, hT, hk⟩
  clear hR hn hT hk
  go_enter Try.func28, Try.ntmps28
  go_wp2_with fail
  go_loopg [5, 7, 10] n (fun g1 v s vi wr => ∃ (k : Nat) (os : List Rw), vi = .int .i64 k ∧ k ≤ n ∧ n - k ≤ g1 ∧ os.length ≤ k ∧ Aside (PK w rs p k os v wr))
  case atStart => exact ⟨0, [], rfl, Nat.zero_le _, Nat.le_refl _, Nat.le_refl _, PK.start w rs p⟩
  case round =>
    obtain ⟨k, os, rfl, hk, hg1, hol, SK⟩ := hrel
    by_cases hlt : k < n
    · have hltz : (k : Int) < (n : Int) := by omega
      have hkl : k < rs.length := by rw [HH.out.2.1]; exact hlt
      obtain ⟨b, off, ha, hc⟩ := (HH.out.1.keep SK.out.bel).get hkl
      subst ha
      obtain ⟨⟨r0, r1, r2, r3, r4⟩, K0⟩ := hc k hkl
      clear hc
      have hT := fun o => HH.out.2.2.1 (wr.alloc o) (rwn rs k) (SK.out.bel.alloc SK.out.bel.size o) (rwn_mem hkl)
      have hkm := HH.out.2.2.2 _ (rwn_mem hkl)
      have KV : Aside (Ints w (rwn rs k).a (rwn rs k).k ∧ ∀ x ∈ (rwn rs k).k, In64 x) := by
        obtain ⟨b', off', ha', hc'⟩ := HH.out.1.get hkl
        exact ⟨(hc' k hkl).2.mem, K0.wf⟩
      clear K0
      cases hpk : p (rwn rs k).k with
      | false =>
        rw [hpk] at hT
        have SS : Aside (PK w rs p (k + 1) os u5 wr) := SK.out.skip hkl hpk
        clear hpk KV SK
        generalize rwn rs k = r at r0 r1 r2 r3 r4 hT
        generalize r.k.length = nk at r0 hT
        go_wp2_with fail
        refine (hT _).mono ?_
        rintro e w2 ⟨rfl, hb2⟩
        have S2 : Aside (PK w rs p (k + 1) os u5 w2) := SS.out.keep (((Below.refl _ _).alloc (Nat.le_refl _) _).trans (hb2.mono (by simp)))
        clear hb2 SS hT
        go_wp2
        go_roundg (n - (k + 1))
        case measure => omega
        case rel => exact ⟨k + 1, os, by go_num, by omega, by omega, by omega, S2⟩
      | true =>
        rw [hpk] at hT
        have PP : Aside (p (rwn rs k).k = true) := hpk
        clear hpk
        obtain ⟨r, hr⟩ : ∃ r, rwn rs k = r := ⟨_, rfl⟩
        rw [hr] at r0 r1 r2 r3 r4 hT KV hkm PP
        have HR : Hid (rwn rs k = r) := hr
        clear hr
        obtain ⟨nk, hnk⟩ : ∃ nk, r.k.length = nk := ⟨_, rfl⟩
        rw [hnk] at r0 hT hkm
        have HNK : Hid (r.k.length = nk) := hnk
        clear hnk
        go_wp2_with fail
        refine (hT _).mono ?_
        rintro e w2 ⟨rfl, hb2⟩
        have hlt2 : wr.heap.size < (wr.alloc (.cells #[.slice r.a nk r.cap, .int .i64 r.c.n, .int .i64 r.c.s, .int .i64 r.c.lo, .int .i64 r.c.hi] 47)).heap.size := by simp
        have d0 : w2.cell? ⟨wr.heap.size, 0, none⟩ = some (.slice r.a nk r.cap) := (hb2.cell (p := ⟨wr.heap.size, 0, none⟩) hlt2).trans (by simp [go_sem])
        have d1 : w2.cell? ⟨wr.heap.size, 1, none⟩ = some (.int .i64 r.c.n) := (hb2.cell (p := ⟨wr.heap.size, 1, none⟩) hlt2).trans (by simp [go_sem])
        have d2 : w2.cell? ⟨wr.heap.size, 2, none⟩ = some (.int .i64 r.c.s) := (hb2.cell (p := ⟨wr.heap.size, 2, none⟩) hlt2).trans (by simp [go_sem])
        have d3 : w2.cell? ⟨wr.heap.size, 3, none⟩ = some (.int .i64 r.c.lo) := (hb2.cell (p := ⟨wr.heap.size, 3, none⟩) hlt2).trans (by simp [go_sem])
        have d4 : w2.cell? ⟨wr.heap.size, 4, none⟩ = some (.int .i64 r.c.hi) := (hb2.cell (p := ⟨wr.heap.size, 4, none⟩) hlt2).trans (by simp [go_sem])
        have hbA : Below wr.heap.size wr w2 := ((Below.refl _ _).alloc (Nat.le_refl _) _).trans (hb2.mono (by simp))
        have S2 : Aside (PK w rs p k os u5 w2) := SK.out.keep hbA
        have hbq : ∀ q, u5.ownBlock = some q → w.heap.size ≤ q := fun q hq => (SK.out.own.lt q hq).1
        have hneb : u5.ownBlock ≠ some wr.heap.size := fun e => by have := (SK.out.own.lt _ e).2; omega
        have PU : Aside (∀ W W' g q c4, PK w rs p k os u5 W → W.ownsRow w.heap.size 3 1 (.slice (some ⟨g, 0, none⟩) nk nk) nk (vals r.k) → W'.ownsRow w.heap.size 47 5 (.slice (some ⟨q, 0, none⟩) (os.length + 1) c4) (os.length + 1) (flatR os ++ [.slice (some ⟨g, 0, none⟩) nk nk, .int .i64 r.c.n, .int .i64 r.c.s, .int .i64 r.c.lo, .int .i64 r.c.hi]) → W.grownBy W' u5.ownBlock → PK w rs p (k + 1) (os ++ [⟨some ⟨g, 0, none⟩, nk, r.k, r.c⟩]) (.slice (some ⟨q, 0, none⟩) (os.length + 1) c4) W') := fun W W' g q c4 hP hd ho hg => by
          refine hP.push (r := ⟨some ⟨g, 0, none⟩, nk, r.k, r.c⟩) hkl (by rw [HR.out]; exact PP.out) (by rw [HR.out]; rfl) KV.out.2 ?_ ?_ hg
          · show W.ownsRow w.heap.size 3 1 (.slice (some ⟨g, 0, none⟩) r.k.length nk) r.k.length (vals r.k)
            rw [HNK.out]; exact hd
          · show W'.ownsRow w.heap.size 47 5 _ (os.length + 1) (flatR os ++ [.slice (some ⟨g, 0, none⟩) r.k.length nk, _, _, _, _])
            rw [HNK.out]; exact ho
        have KW : Aside (∀ W, Below w.heap.size w2 W → Ints W r.a r.k) := fun W hW => KV.out.1.keep (S2.out.bel.trans hW)
        clear hlt2 hb2 hbA SK hT r0 r1 r2 r3 r4
        generalize wr.heap.size = rb at d0 d1 d2 d3 d4 hneb ⊢
        generalize r.c.n = e1 at d1 PU
        generalize r.c.s = e2 at d2 PU
        generalize r.c.lo = e3 at d3 PU
        generalize r.c.hi = e4 at d4 PU
        have hown := S2.out.own
        have hsz := S2.out.bel.size
        have hbl := S2.out.bel
        go_wp2_with fail
        go_region_held_law (fun w' => Below w.heap.size w2 w' ∧ w.heap.size ≤ w'.heap.size ∧ w'.cell? ⟨rb, 0, none⟩ = some (.slice r.a nk r.cap) ∧ w'.cell? ⟨rb, 1, none⟩ = some (.int .i64 e1) ∧ w'.cell? ⟨rb, 2, none⟩ = some (.int .i64 e2) ∧ w'.cell? ⟨rb, 3, none⟩ = some (.int .i64 e3) ∧ w'.cell? ⟨rb, 4, none⟩ = some (.int .i64 e4))
          (first | assumption | (exact ⟨(Below.refl _ _).drew, hsz, d0, d1, d2, d3, d4⟩) | (exact ⟨Below.refl _ _, hsz, d0, d1, d2, d3, d4⟩) | (refine six_keep (W0 := w2) (B := w.heap.size) (b := rb) (x0 := .slice r.a nk r.cap) (x1 := .int .i64 e1) (x2 := .int .i64 e2) (x3 := .int .i64 e3) (x4 := .int .i64 e4) hb3 ?_; assumption) | (refine six_keep (W0 := w2) (B := w.heap.size) (b := rb) (x0 := .slice r.a nk r.cap) (x1 := .int .i64 e1) (x2 := .int .i64 e2) (x3 := .int .i64 e3) (x4 := .int .i64 e4) ((Below.refl _ _).alloc (Nat.le_refl _) _) ?_; assumption) | (refine six_grown (W0 := w2) (B := w.heap.size) (b := rb) (x0 := .slice r.a nk r.cap) (x1 := .int .i64 e1) (x2 := .int .i64 e2) (x3 := .int .i64 e3) (x4 := .int .i64 e4) hgrow hbq hneb ?_; assumption))
          (first | (go_at_call 26; refine (dsame_at w.heap.size _ _ _ _ _ (KW.out _ (by apply And.left; assumption)) HNK.out hkm (by apply And.left; apply And.right; assumption)).mono ?_; rintro e w3 ⟨gk, rfl, ho3, hb3⟩) | (refine step_append_lies _ rfl (.tmp 18) (.tmp 25) 41 rfl w.heap.size 47 i0 _ 5 56 Try.underlying41 hi hz0 hz1 hz2 rfl (by decide) _ os.length (flatR os) rfl ((own_below hown.drew hb3).alloc _) ⟨w3.heap.size, 0, none⟩ 1 1 [.slice (some ⟨gk, 0, none⟩) nk nk, .int .i64 e1, .int .i64 e2, .int .i64 e3, .int .i64 e4] rfl rfl (cells_five_new _ _ _ _ _ _ _) (by intro u hu; simp at hu; rcases hu with rfl | rfl | rfl | rfl | rfl <;> rfl) (by decide) (by unfold maxLen; omega) (by omega) (by have := hb3.size; have e : w2.drew.heap.size = w2.heap.size := rfl; simp; omega) _ rfl ?_; intro g4 cap4 w4 hown4 hgrow hat hglt))
        have S4 : Aside (PK w rs p (k + 1) (os ++ [⟨some ⟨gk, 0, none⟩, nk, r.k, r.c⟩]) (.slice (some ⟨g4, 0, none⟩) (os.length + 1) cap4) w4) := by
          have hb : Below w2.heap.size w2 w3 := ((Below.refl _ _).drew).trans hb3
          exact PU.out _ w4 gk g4 cap4 ((S2.out.keep hb).keep ((Below.refl _ _).alloc (Nat.le_refl _) _)) (ho3.alloc _) hown4 hgrow
        clear PU ho3 hb3 hown4 hgrow hat hglt S2 hown
        go_wp2
        go_roundg (n - (k + 1))
        case measure => omega
        case rel => exact ⟨k + 1, _, by go_num, by omega, by omega, by simp; omega, S4⟩
    · have hltz : ¬ (k : Int) < (n : Int) := by omega
      have HR : Aside (TabOut wr u5 (cutR p rs) ∧ Below w.heap.size w wr) := ⟨SK.out.out (by rw [HH.out.2.1]; omega), SK.out.bel⟩
      clear SK
      go_wp2
      go_ret
      exact ⟨_, rfl, HR.out.1, HR.out.2⟩
end Go.Proofs.Ythbjfbkjbggkbaa.dice
