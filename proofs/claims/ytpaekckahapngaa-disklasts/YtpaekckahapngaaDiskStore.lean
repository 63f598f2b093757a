/-
  The contracts of the store's lay, force, leave and loose.
-/
import Derived.Test.YtpaekckahapngaaDiskMem
namespace Go.Proofs.Ytpaekckahapngaa.disk
open Go.ChangeShapes Go.WideShapes Go.ChangeAt Go.RowKit Go.Deep
open Go.Proofs.Ytpaekckahapngaa.bytes
set_option linter.unusedVariables false
set_option maxRecDepth 100000
set_option linter.unusedSimpArgs false

theorem tk1 : 52 ≠ 5 := by decide
theorem tk2 : 40 ≠ 5 := by decide
theorem DkIn.len_max {T : TypeId} {B k : Nat} {w : World} {v : Value} {d : Dk} (h : DkIn T B w k v d) : d.b.length ≤ 1048576 := Nat.le_trans h.fit.len h.fit.room

theorem gr_boxed {b : Nat} {w w' : World} {v v' : Value} {cs : Array Value} {t : TypeId} (h : Gr w v w' v') (hb : Boxed w b cs t) (hv : some b ≠ v.ownBlock) : Boxed w' b cs t := (h.grown.block b hb.lt hv).trans hb

set_option maxHeartbeats 1000000 in
theorem lay_any (B k n c : Nat) (a : Option Addr) (y : List UInt8) (v : Value) (d : Dk) (w : World) (h : DkIn 52 B w k v d) (hS : Sl w a n c y) (hf : d.b.length + y.length ≤ d.room) :
    Calls Try.prog 24 #[.pointer (some ⟨k, 0, none⟩), .slice a n c] w fun e w' => e = .returned (.tuple #[]) ∧ ∃ v', DkIn 52 B w' k v' ⟨d.b ++ y, d.lasts, d.room, d.left⟩ ∧ Gd k w v w' v' := by
  have c0 := h.c0
  have hB := h.base
  have hmax := h.len_max
  have hr := h.fit.room
  have hn := hS.at_.len
  have hown := h.own
  have hne := h.apart tk1
  have H : Aside (DkIn 52 B w k v d) := h
  have HF : Aside (Fit ⟨d.b ++ y, d.lasts, d.room, d.left⟩) := ⟨by have := h.fit.lasts; show d.lasts ≤ (d.b ++ y).length; rw [List.length_append]; omega, by show (d.b ++ y).length ≤ d.room; rw [List.length_append]; exact hf, hr, h.fit.left⟩
  obtain ⟨q, hq⟩ : ∃ q, d.b.length + n = q := ⟨_, rfl⟩
  clear h
  go_enter Try.func24, Try.ntmps24
  go_wp2_with (at_builtin; refine wpList_bytes rfl (.tmp 8) (.tmp 9) rfl B v d.b rfl hown a n c y rfl hS q hq (by omega) hB ?_; intro a3 c3 w3 h3 g3; have hx3 := gr_boxed g3 H.out.box hne; have q3 := hx3.cell (j := 0) rfl; have z3 := hx3.frz 0)
  go_end0
  exact ⟨rfl, _, DkIn.set_all hx3 H.out.low tk1 h3 HF.out, ((Gd.of_gr k g3).trans (Gd.set k 0 _ _ _))⟩

set_option maxHeartbeats 1000000 in
theorem force_any (B k : Nat) (v : Value) (d : Dk) (w : World) (h : DkIn 52 B w k v d) :
    Calls Try.prog 32 #[.pointer (some ⟨k, 0, none⟩)] w fun e w' => e = .returned (.tuple #[]) ∧ DkIn 52 B w' k v ⟨d.b, d.b.length, d.room, d.left⟩ ∧ Gd k w v w' v := by
  obtain ⟨va, vc, rfl⟩ := h.own.form
  have c0 := h.c0
  have c1 := h.c1
  have z1 := h.box.frz 1
  have hS := h.set_lasts tk1 d.b.length (Nat.le_refl _)
  have hG := Gd.set k 1 w (.slice va d.b.length vc) (.int .i64 (d.b.length : Nat))
  have hE : Aside (DkIn 52 B (w.setCell ⟨k, 1, none⟩ (.int .i64 (d.b.length : Nat))) k (.slice va d.b.length vc) ⟨d.b, d.b.length, d.room, d.left⟩ ∧ Gd k w (.slice va d.b.length vc) (w.setCell ⟨k, 1, none⟩ (.int .i64 (d.b.length : Nat))) (.slice va d.b.length vc)) := ⟨hS, hG⟩
  clear h hS hG
  go_enter Try.func32, Try.ntmps32
  go_wp2
  go_end0
  exact ⟨rfl, hE.out⟩

set_option maxHeartbeats 1000000 in
theorem loose_any (B k : Nat) (v : Value) (d : Dk) (w : World) (h : DkIn 52 B w k v d) :
    Calls Try.prog 34 #[.pointer (some ⟨k, 0, none⟩)] w fun e w' => e = .returned (.int .i64 (d.b.length - d.lasts : Nat)) ∧ Below w.heap.size w w' := by
  obtain ⟨va, vc, rfl⟩ := h.own.form
  have c0 := h.c0
  have c1 := h.c1
  have hl := h.fit.lasts
  have hm := h.len_max
  clear h
  generalize d.b.length = n at c0 hl hm ⊢
  generalize d.lasts = m at c1 hl ⊢
  go_enter Try.func34, Try.ntmps34
  go_wp2
  go_region
  go_wp2
  go_ret
  exact ⟨ret_i64 (by omega), by (repeat (first | with_reducible exact Below.refl _ _ | (with_reducible refine Below.drew ?_) | (with_reducible refine Below.alloc ?_ (by first | omega | (simp; done) | (simp; omega)) _) | (with_reducible refine Below.setCell ?_ (by first | exact Nat.le_refl _ | omega | (simp; done) | (simp; omega)) _)))⟩

set_option maxHeartbeats 2000000 in
theorem leave_any (B k m : Nat) (v : Value) (d : Dk) (w : World) (h : DkIn 52 B w k v d) (hm : m ≤ d.b.length) :
    Calls Try.prog 33 #[.pointer (some ⟨k, 0, none⟩), .int .i64 (m : Nat)] w fun e w' => e = .returned (.tuple #[]) ∧ ∃ v', DkIn 52 B w' k v' ⟨d.b.take m, min d.lasts m, d.room, d.left⟩ ∧ Gd k w v w' v' := by
  obtain ⟨va, vc, rfl⟩ := h.own.form
  have hcap : d.b.length ≤ vc := by
    obtain ⟨a, c, e, hb⟩ := h.own.bytes
    injection e with e1 e2 e3
    subst e3; exact hb.cap
  have c0 := h.c0
  have c1 := h.c1
  have z0 := h.box.frz 0
  have z1 := h.box.frz 1
  have hmax := h.len_max
  have hlast := h.fit.lasts
  have H : Aside (DkIn 52 B w k (.slice va d.b.length vc) d) := h
  have e1 : (d.b.take m).length = m := by rw [List.length_take]; omega
  have HO : Aside (Bs B w (.slice va m vc) (d.b.take m)) := Bs.cut h.own m hm
  have hF : Fit ⟨d.b.take m, min d.lasts m, d.room, d.left⟩ := ⟨by show min d.lasts m ≤ (d.b.take m).length; rw [e1]; omega, by show (d.b.take m).length ≤ d.room; rw [e1]; have := h.fit.len; omega, h.fit.room, h.fit.left⟩
  have HR : Aside (∀ n, min d.lasts m = n → DkIn 52 B ((w.setCell ⟨k, 0, none⟩ (.slice va m vc)).setCell ⟨k, 1, none⟩ (.int .i64 (n : Nat))) k (.slice va m vc) ⟨d.b.take m, min d.lasts m, d.room, d.left⟩ ∧ Gd k w (.slice va d.b.length vc) ((w.setCell ⟨k, 0, none⟩ (.slice va m vc)).setCell ⟨k, 1, none⟩ (.int .i64 (n : Nat))) (.slice va m vc)) := fun n hn => by
    subst hn
    refine ⟨h.set_two tk1 HO.out hF, ((Gd.set k 0 _ _ _).trans (Gd.set k 1 _ _ _)).front fun g hg => by rw [cut_block va d.b.length m vc]; exact hg⟩
  clear h hF e1 HO H
  generalize d.b.length = n at c0 hmax hlast hm hcap HR ⊢
  generalize hs : d.lasts = s at c1 hlast HR ⊢
  generalize d.b.take m = tk at HR ⊢
  generalize d.room = rm at HR ⊢
  generalize d.left = lf at HR ⊢
  clear hs hlast
  go_enter Try.func33, Try.ntmps33
  go_wp2
  all_goals go_end0
  · exact ⟨rfl, _, HR.out m (by omega)⟩
  · exact ⟨rfl, _, HR.out s (by omega)⟩
end Go.Proofs.Ytpaekckahapngaa.disk
