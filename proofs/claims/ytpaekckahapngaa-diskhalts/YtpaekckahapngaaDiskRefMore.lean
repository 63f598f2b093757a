/-
  The contracts of the chapter's own Cut and Crash.
-/
import Derived.Test.YtpaekckahapngaaDiskRef
namespace Go.Proofs.Ytpaekckahapngaa.disk
open Go.ChangeShapes Go.WideShapes Go.ChangeAt Go.RowKit Go.Deep
open Go.Proofs.Ytpaekckahapngaa.bytes
set_option linter.unusedVariables false
set_option maxRecDepth 100000
set_option linter.unusedSimpArgs false

theorem DkIn.cap_le {T : TypeId} {B k : Nat} {w : World} {d : Dk} {va : Option Addr} {n vc : Nat} (h : DkIn T B w k (.slice va n vc) d) : n ≤ vc := by
  obtain ⟨a, c, e, hb⟩ := h.own.bytes
  injection e with e1 e2 e3
  subst e2 e3; exact hb.cap
/-- a front of the bytes is left: behind the two stores -/
theorem DkIn.cut_two {T : TypeId} {B k m : Nat} {w : World} {d : Dk} {va : Option Addr} {vc : Nat} (hT : T ≠ 5) (h : DkIn T B w k (.slice va d.b.length vc) d) (hm : m ≤ d.b.length) (n : Nat) (hn : n ≤ m) :
    DkIn T B ((w.setCell ⟨k, 0, none⟩ (.slice va m vc)).setCell ⟨k, 1, none⟩ (.int .i64 (n : Nat))) k (.slice va m vc) ⟨d.b.take m, n, d.room, d.left⟩ ∧ Gd k w (.slice va d.b.length vc) ((w.setCell ⟨k, 0, none⟩ (.slice va m vc)).setCell ⟨k, 1, none⟩ (.int .i64 (n : Nat))) (.slice va m vc) := by
  have e1 : (d.b.take m).length = m := by rw [List.length_take]; omega
  have hF : Fit ⟨d.b.take m, n, d.room, d.left⟩ := ⟨by show n ≤ (d.b.take m).length; rw [e1]; exact hn, by show (d.b.take m).length ≤ d.room; rw [e1]; have := h.fit.len; omega, h.fit.room, h.fit.left⟩
  exact ⟨h.set_two hT (Bs.cut h.own m hm) hF, ((Gd.set k 0 _ _ _).trans (Gd.set k 1 _ _ _)).front fun g hg => by rw [cut_block va d.b.length m vc]; exact hg⟩

set_option maxHeartbeats 2000000 in
theorem refCut_any (B k : Nat) (n : Int) (v : Value) (d : Dk) (w : World) (h : DkIn 40 B w k v d) :
    Calls Try.prog 27 #[.pointer (some ⟨k, 0, none⟩), .int .i64 n] w fun e w' => e = .returned (.int .i64 ((cut n d).2 : Nat)) ∧ ∃ v', DkIn 40 B w' k v' (cut n d).1 ∧ Gd k w v w' v' := by
  have hC := refCall_any B k v d w h
  by_cases h0 : d.left = 0
  · rw [cut_halted h0]
    have ht : tick d = d := by unfold tick less; rw [if_neg (by omega)]
    rw [ht] at hC
    have hd : (!decide (d.left = 0)) = false := by simp [h0]
    rw [hd] at hC
    clear h
    go_enter Try.func27, Try.ntmps27
    go_wp2_with (go_at_call 36; refine hC.mono ?_; rintro e w2 ⟨rfl, h2, g2, gg2⟩)
    go_ret
    exact ⟨rfl, v, h2, g2⟩
  · have hd : (!decide (d.left = 0)) = true := by simp [h0]
    rw [hd] at hC
    obtain ⟨va, vc, rfl⟩ := h.own.form
    have hmax := h.len_max
    have hcap := h.cap_le
    by_cases hr : n < 0 ∨ (d.b.length : Int) < n
    · have e : cut n d = (tick d, 1) := by unfold cut; rw [if_neg h0, if_pos hr]
      rw [e]
      have hcl : Calls Try.prog 36 #[.pointer (some ⟨k, 0, none⟩)] w fun e w' => e = .returned (.bool true) ∧ DkIn 40 B w' k (.slice va d.b.length vc) (tick d) ∧ Gd k w (.slice va d.b.length vc) w' (.slice va d.b.length vc) ∧ w'.cell? ⟨k, 0, none⟩ = some (.slice va d.b.length vc) := hC.mono fun e w' ⟨he, h1, h2, h3⟩ => ⟨he, h1, h2, h1.c0⟩
      clear hC h hd e h0
      generalize tick d = d3 at hcl ⊢
      generalize d.b.length = q at *
      by_cases hz : n < 0
      · clear hr
        go_enter Try.func27, Try.ntmps27
        go_wp2_with (go_at_call 36; refine hcl.mono ?_; rintro e w2 ⟨rfl, h2, g2, q0⟩)
        go_ret
        exact ⟨rfl, _, h2, g2⟩
      · have hz2 : (q : Int) < n := by omega
        clear hr
        go_enter Try.func27, Try.ntmps27
        go_wp2_with (go_at_call 36; refine hcl.mono ?_; rintro e w2 ⟨rfl, h2, g2, q0⟩)
        go_ret
        exact ⟨rfl, _, h2, g2⟩
    · obtain ⟨m, hm⟩ : ∃ m : Nat, n = (m : Int) := ⟨n.toNat, by omega⟩
      subst hm
      have e : cut (m : Int) d = (⟨d.b.take m, min d.lasts m, d.room, less d.left⟩, 0) := by unfold cut; rw [if_neg h0, if_neg hr]; rfl
      rw [e]
      have hm2 : m ≤ d.b.length := by omega
      have hcl : Calls Try.prog 36 #[.pointer (some ⟨k, 0, none⟩)] w fun e w' => e = .returned (.bool true) ∧ Gd k w (.slice va d.b.length vc) w' (.slice va d.b.length vc) ∧ w'.cell? ⟨k, 0, none⟩ = some (.slice va d.b.length vc) ∧ w'.cell? ⟨k, 1, none⟩ = some (.int .i64 (d.lasts : Nat)) ∧ w'.frozen? ⟨k, 0, none⟩ = false ∧ w'.frozen? ⟨k, 1, none⟩ = false ∧
          Aside (∀ x, min d.lasts m = x → DkIn 40 B ((w'.setCell ⟨k, 0, none⟩ (.slice va m vc)).setCell ⟨k, 1, none⟩ (.int .i64 (x : Nat))) k (.slice va m vc) ⟨d.b.take m, min d.lasts m, d.room, less d.left⟩ ∧ Gd k w' (.slice va d.b.length vc) ((w'.setCell ⟨k, 0, none⟩ (.slice va m vc)).setCell ⟨k, 1, none⟩ (.int .i64 (x : Nat))) (.slice va m vc)) := hC.mono fun e w' ⟨he, h1, h2, h3⟩ => ⟨he, h2, h1.c0, h1.c1, h1.box.frz 0, h1.box.frz 1, fun x hx => by subst hx; exact DkIn.cut_two (d := tick d) tk2 h1 hm2 (min d.lasts m) (by omega)⟩
      clear hC h hd e h0
      generalize d.b.take m = tk at *
      generalize d.b.length = q at *
      have hz : ¬ (m : Int) < 0 := by omega
      have hz2 : ¬ (q : Int) < (m : Int) := by omega
      clear hr
      generalize d.lasts = s at *
      go_enter Try.func27, Try.ntmps27
      go_wp2_with (go_at_call 36; refine hcl.mono ?_; rintro e w2 ⟨rfl, g2, q0, q1, z0, z1, HR⟩)
      all_goals go_ret
      · exact ⟨rfl, _, (HR.out m (by omega)).1, g2.trans (HR.out m (by omega)).2⟩
      · exact ⟨rfl, _, (HR.out s (by omega)).1, g2.trans (HR.out s (by omega)).2⟩

theorem DkIn.crash_three {T : TypeId} {B k m : Nat} {w : World} {d : Dk} {va : Option Addr} {vc : Nat} (hT : T ≠ 5) (h : DkIn T B w k (.slice va d.b.length vc) d) (hm : m ≤ d.b.length) :
    DkIn T B (((w.setCell ⟨k, 0, none⟩ (.slice va m vc)).setCell ⟨k, 1, none⟩ (.int .i64 (m : Nat))).setCell ⟨k, 3, none⟩ (.int .i64 (-1))) k (.slice va m vc) ⟨d.b.take m, m, d.room, -1⟩ ∧ Gd k w (.slice va d.b.length vc) (((w.setCell ⟨k, 0, none⟩ (.slice va m vc)).setCell ⟨k, 1, none⟩ (.int .i64 (m : Nat))).setCell ⟨k, 3, none⟩ (.int .i64 (-1))) (.slice va m vc) := by
  obtain ⟨h1, g1⟩ := DkIn.cut_two hT h hm m (Nat.le_refl _)
  exact ⟨h1.set_left hT (-1) (by omega), g1.trans (Gd.set k 3 _ _ _)⟩
set_option maxHeartbeats 4000000 in
theorem refCrash_any (B k : Nat) (keep : Int) (v : Value) (d : Dk) (w : World) (h : DkIn 40 B w k v d) :
    Calls Try.prog 28 #[.pointer (some ⟨k, 0, none⟩), .int .i64 keep] w fun e w' => e = .returned (.tuple #[]) ∧ ∃ v', DkIn 40 B w' k v' (crash keep d) ∧ Gd k w v w' v' := by
  obtain ⟨va, vc, rfl⟩ := h.own.form
  have hmax := h.len_max
  have hcap := h.cap_le
  have hl := h.fit.lasts
  have hk := kept_le hl keep
  have hq : (kept keep d : Int) = (d.lasts : Int) + min (max keep 0) ((d.b.length - d.lasts : Nat) : Int) := by unfold kept; omega
  have HR : Aside (∀ W, Below w.heap.size w W → DkIn 40 B (((W.setCell ⟨k, 0, none⟩ (.slice va (kept keep d) vc)).setCell ⟨k, 1, none⟩ (.int .i64 (kept keep d : Nat))).setCell ⟨k, 3, none⟩ (.int .i64 (-1))) k (.slice va (kept keep d) vc) (crash keep d) ∧ Gd k w (.slice va d.b.length vc) (((W.setCell ⟨k, 0, none⟩ (.slice va (kept keep d) vc)).setCell ⟨k, 1, none⟩ (.int .i64 (kept keep d : Nat))).setCell ⟨k, 3, none⟩ (.int .i64 (-1))) (.slice va (kept keep d) vc)) := fun W hW => by
    obtain ⟨h1, g1⟩ := DkIn.crash_three tk2 (h.keep hW) hk
    exact ⟨h1, (Gd.of_below k _ hW).trans g1⟩
  have HC : ∀ W, Below w.heap.size w W → W.cell? ⟨k, 0, none⟩ = some (.slice va d.b.length vc) ∧ W.cell? ⟨k, 1, none⟩ = some (.int .i64 (d.lasts : Nat)) ∧ W.cell? ⟨k, 3, none⟩ = some (.int .i64 d.left) ∧ W.frozen? ⟨k, 0, none⟩ = false ∧ W.frozen? ⟨k, 1, none⟩ = false ∧ W.frozen? ⟨k, 3, none⟩ = false := fun W hW => by
    have h1 := h.keep hW
    exact ⟨h1.c0, h1.c1, h1.c3, h1.box.frz 0, h1.box.frz 1, h1.box.frz 3⟩
  obtain ⟨c0, c1, -⟩ := HC _ (Below.refl _ _)
  clear h
  generalize crash keep d = d9 at HR ⊢
  generalize kept keep d = kq at HR hq hk
  have hu : d.b.length - d.lasts ≤ 1048576 := by omega
  have hq2 : (d.b.length : Int) - (d.lasts : Int) = ((d.b.length - d.lasts : Nat) : Int) := by omega
  generalize d.b.length - d.lasts = u at hq hu hq2
  have hl2 : d.lasts ≤ 1048576 := by omega
  generalize d.lasts = s at *
  generalize d.b.length = q at *
  generalize d.left = lf at *
  by_cases k0 : keep < 0
  · have k1 : ¬ (u : Int) < 0 := by omega
    have hq3 : kq = s := by omega
    clear hq
    subst hq3
    have hw : IntKind.i64.wrap (kq : Int) = kq := by rw [IntKind.wrap_i64]; omega
    go_enter Try.func28, Try.ntmps28
    go_wp2_with fail
    go_quiet (fail)
    have HB : Aside (Below w.heap.size w (w.drewN nq)) := below_dn _ _ _
    generalize w.drewN nq = w2 at HB ⊢
    obtain ⟨d0, d1, d3, z0, z1, z3⟩ := HC w2 HB.out
    clear c0 c1
    go_wp2
    go_end0
    exact ⟨rfl, _, HR.out w2 HB.out⟩
  · by_cases k1 : (u : Int) < keep
    · have hq3 : (kq : Int) = (s : Int) + (u : Int) := by omega
      have hw : IntKind.i64.wrap ((s : Int) + (u : Int)) = kq := by rw [IntKind.wrap_i64]; omega
      clear hq hq3
      go_enter Try.func28, Try.ntmps28
      go_wp2_with fail
      go_quiet (fail)
      have HB : Aside (Below w.heap.size w (w.drewN nq)) := below_dn _ _ _
      generalize w.drewN nq = w2 at HB ⊢
      obtain ⟨d0, d1, d3, z0, z1, z3⟩ := HC w2 HB.out
      clear c0 c1
      go_wp2
      go_end0
      exact ⟨rfl, _, HR.out w2 HB.out⟩
    · have hq3 : (kq : Int) = (s : Int) + keep := by omega
      have hw : IntKind.i64.wrap ((s : Int) + keep) = kq := by rw [IntKind.wrap_i64]; omega
      clear hq hq3
      go_enter Try.func28, Try.ntmps28
      go_wp2_with fail
      go_quiet (fail)
      have HB : Aside (Below w.heap.size w (w.drewN nq)) := below_dn _ _ _
      generalize w.drewN nq = w2 at HB ⊢
      obtain ⟨d0, d1, d3, z0, z1, z3⟩ := HC w2 HB.out
      clear c0 c1
      go_wp2
      go_end0
      exact ⟨rfl, _, HR.out w2 HB.out⟩
end Go.Proofs.Ytpaekckahapngaa.disk
