/-
 A disk and the chapter's own disk side by side: what each call does, and what it leaves as it was.
-/
import Derived.Test.YtlcjllgfpfldlaaGreatWalZ14K
import Derived.Test.YtlcjllgfpfldlaaGreatWalZ15K
open Go.ChangeShapes Go.WideShapes Go.ChangeAt Go.RowKit Go.Deep
set_option linter.unusedVariables false
set_option maxRecDepth 100000
set_option linter.unusedSimpArgs false
namespace Go.Proofs.YtlcjllgfpfldlaaGreat
namespace disk
open bytes
theorem Gd.bs {B k : Nat} {w w' : World} {v v' u : Value} {l : List UInt8} (g : Gd k w v w' v') (ho : Bs B w u l) (hk : some k ≠ u.ownBlock) (ap : ∀ q, v.ownBlock = some q → u.ownBlock ≠ some q) : Bs B w' u l := by
 refine ⟨ho.1, ?_⟩
 rcases ho.2 with h0 | ⟨q, cap, cur, hv, a, hb, r⟩
 ·exact .inl h0
 ·have hq : u.ownBlock = some q := by rw [hv]; rfl
  refine .inr ⟨q, cap, cur, hv, a, ?_, r⟩
  rw [g.same q (Array.getElem?_eq_some_iff.1 hb).1 (fun e => hk (by rw [hq, e])) (fun e => ap q e.symm hq)]; exact hb
theorem Gd.far {k : Nat} {w w' : World} {v v' u : Value} {B : Nat} {l : List UInt8} (g : Gd k w v w' v') (ho : Bs B w u l) (ap : ∀ q, v.ownBlock = some q → u.ownBlock ≠ some q) : ∀ q, v'.ownBlock = some q → u.ownBlock ≠ some q := fun q hq hu => by
 rcases g.row q hq with h1 | h1
 ·exact ap q h1 hu
 ·have := (ho.lt q hu).2; omega
theorem box_ne {w : World} {b k : Nat} {cs ds : Array Value} {t u : TypeId} (h : bytes.Boxed w b cs t) (h2 : bytes.Boxed w k ds u) (ht : t ≠ u) : b ≠ k := fun e => by
 subst e
 have h3 : some (Obj.cells cs t (0, 0)) = some (Obj.cells ds u (0, 0)) := (show w.heap[b]? = _ from h).symm.trans (show w.heap[b]? = _ from h2)
 injection h3 with h3
 injection h3 with _ h3 _
 exact ht h3

theorem DkIn.other {T1 T2 : TypeId} {B k1 k2 : Nat} {w w' : World} {v1 v1' v2 : Value} {d r : Dk} (h1 : DkIn T1 B w k1 v1 d) (h2 : DkIn T2 B w k2 v2 r) (hT : T2 ≠ T1) (t1 : T1 ≠ 5) (t2 : T2 ≠ 5) (ap : ∀ q, v1.ownBlock = some q → v2.ownBlock ≠ some q) (g : Gd k1 w v1 w' v1') :
  DkIn T2 B w' k2 v2 r ∧ ∀ q, v1'.ownBlock = some q → v2.ownBlock ≠ some q :=
 ⟨⟨g.boxed h2.box (box_ne h2.box h1.box hT) (box_row h2.box t2 h1.own), h2.low, g.bs h2.own (box_row h1.box t1 h2.own) ap, h2.fit⟩, g.far h2.own ap⟩

structure Stp (B : Nat) (w w' : World) : Prop where
 below : Below B w w'
 boxes : ∀ b cs t, bytes.Boxed w b cs t → t ≠ 65 → t ≠ 57 → t ≠ 5 → bytes.Boxed w' b cs t
theorem Stp.refl (B : Nat) (w : World) : Stp B w w := ⟨Below.refl _ _, fun _ _ _ h _ _ _ => h⟩
theorem Stp.trans {B : Nat} {w w1 w2 : World} (h : Stp B w w1) (k : Stp B w1 w2) : Stp B w w2 := ⟨h.below.trans k.below, fun b cs t hb h1 h2 h3 => k.boxes b cs t (h.boxes b cs t hb h1 h2 h3) h1 h2 h3⟩
theorem Stp.of_below {B : Nat} {w w' : World} (hb : Below w.heap.size w w') (hB : B ≤ w.heap.size) : Stp B w w' := ⟨hb.mono hB, fun b cs t h _ _ _ => h.below hb⟩
theorem Stp.of_gd {T : TypeId} {B k : Nat} {w w' : World} {v v' : Value} {d : Dk} (h : DkIn T B w k v d) (hT : T = 65 ∨ T = 57) (g : Gd k w v w' v') : Stp B w w' :=
 ⟨h.below g, fun b cs t hb h1 h2 h3 => g.boxed hb (box_ne hb h.box (by rcases hT with e | e <;> rw [e] <;> assumption)) (box_row hb h3 h.own)⟩

def Two (B : Nat) (w : World) (k1 k2 : Nat) (d r : Dk) : Prop :=
 ∃ v1 v2, DkIn 65 B w k1 v1 d ∧ DkIn 57 B w k2 v2 r ∧ ∀ q, v1.ownBlock = some q → v2.ownBlock ≠ some q
section
variable {B k1 k2 : Nat} {w : World} {d d' r r' : Dk} {x : Ending} {F : FuncId} {args : Array Value}
theorem Two.keep {w' : World} (h : Two B w k1 k2 d r) (hb : Below w.heap.size w w') : Two B w' k1 k2 d r := by
 obtain ⟨v1, v2, h1, h2, ap⟩ := h
 exact ⟨v1, v2, h1.keep hb, h2.keep hb, ap⟩
theorem Two.base (h : Two B w k1 k2 d r) : B ≤ w.heap.size := by
 obtain ⟨v1, v2, h1, h2, ap⟩ := h
 exact h1.base
theorem two_left (h : Two B w k1 k2 d r) (hop : ∀ v, DkIn 65 B w k1 v d → Calls Tryz.prog F args w fun e w' => e = x ∧ ∃ v', DkIn 65 B w' k1 v' d' ∧ Gd k1 w v w' v') :
  Calls Tryz.prog F args w fun e w' => e = x ∧ Two B w' k1 k2 d' r ∧ Stp B w w' := by
 obtain ⟨v1, v2, h1, h2, ap⟩ := h
 refine (hop v1 h1).mono ?_
 rintro e w' ⟨he, v', h3, g⟩
 obtain ⟨h4, ap2⟩ := DkIn.other h1 h2 (by decide) tk1 tk2 ap g
 exact ⟨he, ⟨v', v2, h3, h4, ap2⟩, Stp.of_gd h1 (.inl rfl) g⟩
theorem two_right (h : Two B w k1 k2 d r) (hop : ∀ v, DkIn 57 B w k2 v r → Calls Tryz.prog F args w fun e w' => e = x ∧ ∃ v', DkIn 57 B w' k2 v' r' ∧ Gd k2 w v w' v') :
  Calls Tryz.prog F args w fun e w' => e = x ∧ Two B w' k1 k2 d r' ∧ Stp B w w' := by
 obtain ⟨v1, v2, h1, h2, ap⟩ := h
 refine (hop v2 h2).mono ?_
 rintro e w' ⟨he, v', h3, g⟩
 obtain ⟨h4, ap2⟩ := DkIn.other h2 h1 (by decide) tk2 tk1 (fun q a b => ap q b a) g
 exact ⟨he, ⟨v1, v', h4, h3, fun q a b => ap2 q b a⟩, Stp.of_gd h2 (.inr rfl) g⟩
end
section
variable {B k1 k2 : Nat} {w : World} {d r : Dk}

theorem sync_l (h : Two B w k1 k2 d r) : Calls Tryz.prog 36 #[.pointer (some ⟨k1, 0, none⟩)] w fun e w' => e = .returned (.int .u16 ((sync d).2 : Nat)) ∧ Two B w' k1 k2 (sync d).1 r ∧ Stp B w w' := two_left h fun v hv => sync_any B k1 v d w hv
theorem sync_r (h : Two B w k1 k2 d r) : Calls Tryz.prog 31 #[.pointer (some ⟨k2, 0, none⟩)] w fun e w' => e = .returned (.int .i64 ((sync r).2 : Nat)) ∧ Two B w' k1 k2 d (sync r).1 ∧ Stp B w w' := two_right h fun v hv => refSync_any B k2 v r w hv
theorem cut_l (h : Two B w k1 k2 d r) (n : Int) : Calls Tryz.prog 37 #[.pointer (some ⟨k1, 0, none⟩), .int .i64 n] w fun e w' => e = .returned (.int .u16 ((cut n d).2 : Nat)) ∧ Two B w' k1 k2 (cut n d).1 r ∧ Stp B w w' := two_left h fun v hv => cut_any B k1 n v d w hv
theorem cut_r (h : Two B w k1 k2 d r) (n : Int) : Calls Tryz.prog 30 #[.pointer (some ⟨k2, 0, none⟩), .int .i64 n] w fun e w' => e = .returned (.int .i64 ((cut n r).2 : Nat)) ∧ Two B w' k1 k2 d (cut n r).1 ∧ Stp B w w' := two_right h fun v hv => refCut_any B k2 n v r w hv
theorem app_l (h : Two B w k1 k2 d r) {a : Option Addr} {n c : Nat} {y : List UInt8} (hS : Sl w a n c y) : Calls Tryz.prog 22 #[.pointer (some ⟨k1, 0, none⟩), .slice a n c] w fun e w' => e = .returned (.int .u16 ((app y d).2 : Nat)) ∧ Two B w' k1 k2 (app y d).1 r ∧ Stp B w w' := two_left h fun v hv => append_any B k1 n c a y v d w hv hS
theorem app_r (h : Two B w k1 k2 d r) {a : Option Addr} {n c : Nat} {y : List UInt8} (hS : Sl w a n c y) (hn : n ≤ 1000000000000000) : Calls Tryz.prog 23 #[.pointer (some ⟨k2, 0, none⟩), .slice a n c] w fun e w' => e = .returned (.int .i64 ((app y r).2 : Nat)) ∧ Two B w' k1 k2 d (app y r).1 ∧ Stp B w w' := two_right h fun v hv => refAppend_any B k2 n c a y v r w hv hS hn

theorem crash_l (h : Two B w k1 k2 d r) (n : Int) : Calls Tryz.prog 18 #[.pointer (some ⟨k1, 0, none⟩), .int .i64 n] w fun e w' => e = .returned (.tuple #[]) ∧ Two B w' k1 k2 (crash n d) r ∧ Stp B w w' := two_left h fun v hv => crash_any B k1 n v d w hv

theorem crash_r (h : Two B w k1 k2 d r) (n : Int) : Calls Tryz.prog 19 #[.pointer (some ⟨k2, 0, none⟩), .int .i64 n] w fun e w' => e = .returned (.tuple #[]) ∧ Two B w' k1 k2 d (crash n r) ∧ Stp B w w' := two_right h fun v hv => refCrash_any B k2 n v r w hv

theorem halt_l (h : Two B w k1 k2 d r) (n : Int) (hn : n ≤ 9223372036854775807) : Calls Tryz.prog 16 #[.pointer (some ⟨k1, 0, none⟩), .int .i64 n] w fun e w' => e = .returned (.tuple #[]) ∧ Two B w' k1 k2 (halt n d) r ∧ Stp B w w' := two_left h fun v hv => (halt_any B k1 n v d w hv hn).mono fun e w' ⟨h1, h2⟩ => ⟨h1, v, h2⟩

theorem halt_r (h : Two B w k1 k2 d r) (n : Int) (hn : n ≤ 9223372036854775807) : Calls Tryz.prog 17 #[.pointer (some ⟨k2, 0, none⟩), .int .i64 n] w fun e w' => e = .returned (.tuple #[]) ∧ Two B w' k1 k2 d (halt n r) ∧ Stp B w w' := two_right h fun v hv => (refHalt_any B k2 n v r w hv hn).mono fun e w' ⟨h1, h2⟩ => ⟨h1, v, h2⟩

theorem read_l (h : Two B w k1 k2 d r) : Calls Tryz.prog 21 #[.pointer (some ⟨k1, 0, none⟩)] w fun e w' => ∃ v', e = .returned v' ∧ Bs w.heap.size w' v' d.b ∧ Below w.heap.size w w' := by
 obtain ⟨v1, v2, h1, h2, ap⟩ := h
 exact read_any B k1 v1 d w h1

theorem Two.len (h : Two B w k1 k2 d r) : d.b.length ≤ 1048576 := by
 obtain ⟨v1, v2, h1, h2, ap⟩ := h
 exact h1.len_max
theorem Two.fit (h : Two B w k1 k2 d r) : Fit d := by
 obtain ⟨v1, v2, h1, h2, ap⟩ := h
 exact h1.fit
end

/-! ### a call, by its kind -/
end disk
end Go.Proofs.YtlcjllgfpfldlaaGreat
