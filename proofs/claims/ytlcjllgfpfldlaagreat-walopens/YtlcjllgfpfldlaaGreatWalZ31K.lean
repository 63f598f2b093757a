/-
 The contract of the statements' own Facts: facts that may be, of some.
 What the statements' own Make hands out: plain, and its lists.
-/
import Derived.Test.YtlcjllgfpfldlaaGreatWalZ29K
import Derived.Test.YtlcjllgfpfldlaaGreatWalZ23K
import Derived.Deep.RegionLaw
import Derived.BigRegion
import Derived.Deep.RegionHeldLaw
namespace Go.Proofs.YtlcjllgfpfldlaaGreat.code
open Go.ChangeShapes Go.WideShapes Go.ChangeAt Go.RowKit Go.Deep
open Go.Proofs.YtlcjllgfpfldlaaGreat.dims (nth Ints cell_lt vals vals_len vals_get own_below own_mono own_out RowOut ret_bool ret_int)
set_option linter.unusedVariables false
set_option maxRecDepth 100000
set_option linter.unusedSimpArgs false

/-- a fact in a variable, its key so far -/
structure FB (W1 : World) (v : Int) (ks : List Int) (a : Option Addr) (j c : Nat) (W : World) : Prop where
 box : Boxed W W1.heap.size #[.slice a j c, .int .i64 v] 124
 own : W.ownsRow (W1.heap.size + 1) 3 1 (.slice a j c) j (vals ks)
 len : ks.length = j
 bel : Below W1.heap.size W1 W
theorem FB.start (W : World) (v : Int) : FB W v [] none 0 0 (W.alloc (.cells #[.slice none 0 0, .int .i64 v] 124)) :=
 ⟨Boxed.new _ _ _, World.ownsRow_nil _ _ _ _, rfl, (Below.refl _ _).alloc (Nat.le_refl _) _⟩

theorem FB.push {W1 W w3 : World} {v : Int} {ks : List Int} {a : Option Addr} {j c g c3 : Nat} {x y : Int} {o : Obj} (h : FB W1 v ks a j c W) (hg : (W.drew.alloc o).grownBy w3 (Value.slice a j c).ownBlock)
  (hown : w3.ownsRow (W1.heap.size + 1) 3 1 (.slice (some ⟨g, 0, none⟩) (j + 1) c3) (j + 1) (vals ks ++ [.int .i64 y])) (hy : y = x) :
  FB W1 v (ks ++ [x]) (some ⟨g, 0, none⟩) (j + 1) c3 (w3.setCell ⟨W1.heap.size, 0, none⟩ (.slice (some ⟨g, 0, none⟩) (j + 1) c3)) := by
 subst hy
 have hne : some W1.heap.size ≠ (Value.slice a j c).ownBlock := fun e => by have := (World.ownsRow.lt h.own _ e.symm).1; omega
 have hb0 : Below W.heap.size W (W.drew.alloc o) := ((Below.refl _ _).drew).alloc (Nat.le_refl _) o
 have hx := (h.box.below hb0).grown hg hne
 refine ⟨hx.set 0 _, ?_, by simp [h.len], ?_⟩
 ·have e : vals (ks ++ [y]) = vals ks ++ [Value.int .i64 y] := by simp [vals]
  rw [e]
  refine hown.kept (grown_at _ _ _ _) (Or.inr ?_)
  intro e1
  have := (World.ownsRow.lt hown _ e1).1
  omega
 ·have h1 : Below W1.heap.size W1 (W.drew.alloc o) := h.bel.trans (hb0.mono h.bel.size)
  exact (h1.grown hg h1.size fun q hq => by have := (World.ownsRow.lt h.own _ hq).1; omega).setCell (Nat.le_refl _) _
theorem FB.fact {W1 W : World} {v : Int} {ks : List Int} {a : Option Addr} {j c B : Nat} (h : FB W1 v ks a j c W) (hB : B ≤ W1.heap.size) (hk : ∀ x ∈ ks, I64 x) (hv : I64 v) : FtOwn B W ⟨a, c, ks, v⟩ := by
 obtain rfl := h.len
 exact ⟨own_mono h.own (by omega), hk, hv⟩
/-- one fact more -/
theorem FsOwn.push {B : Nat} {W w3 : World} {v v3 : Value} {os : List Ft} {f : Ft} {o : Obj} {k : Nat} (hk : os.length = k) (h : FsOwn B W v os) (hf : FtOwn B W f) (hg : (W.alloc o).grownBy w3 v.ownBlock)
  (hown : w3.ownsRow B 124 2 v3 (k + 1) (os.flatMap factC ++ [.slice f.a f.k.length f.cap, .int .i64 f.v])) : FsOwn B w3 v3 (os ++ [f]) := by
 subst hk
 have hfr : Far (W.alloc o) v.ownBlock 3 := far_row (World.ownsRow.alloc h.own o) (by decide)
 refine ⟨?_, fun x hx => ?_⟩
 ·have e1 : (os ++ [f]).flatMap factC = os.flatMap factC ++ [Value.slice f.a f.k.length f.cap, Value.int .i64 f.v] := by simp [factC]
  rw [e1]; simpa using hown
 ·rcases List.mem_append.1 hx with hx | hx
  ·exact (FtOwn.far (h.all x hx) (World.grownBy_alloc _ _ none) (far_none _ _)).far hg hfr
  ·simp only [List.mem_singleton] at hx
   subst hx
   exact (FtOwn.far hf (World.grownBy_alloc _ _ none) (far_none _ _)).far hg hfr
theorem FsOwn.keep {B : Nat} {W W' : World} {v : Value} {os : List Ft} (h : FsOwn B W v os) (hb : Below W.heap.size W W') : FsOwn B W' v os := ⟨own_below h.own hb, fun f hf => ⟨own_below (h.all f hf).own hb, (h.all f hf).key, (h.all f hf).num⟩⟩

end Go.Proofs.YtlcjllgfpfldlaaGreat.code

namespace Go.Proofs.YtlcjllgfpfldlaaGreat.code
open Go.ChangeShapes Go.WideShapes Go.ChangeAt Go.RowKit Go.Deep
open Go.Proofs.YtlcjllgfpfldlaaGreat.dims (nth Ints cell_lt vals vals_len vals_get own_below own_mono own_out RowOut ret_bool ret_int)
set_option linter.unusedVariables false
set_option maxRecDepth 100000
set_option linter.unusedSimpArgs false

/-- is a node asked for? -/
def nbit (nodes : Int) (k : Nat) : Bool := bits .and .u8 (nodes / 2 ^ k) 1 == 1
/-- the nodes below k that are -/
def ndL (nodes : Int) : Nat → List Int
 | 0 => []
 | k + 1 => if nbit nodes k = true then ndL nodes k ++ [(k : Int)] else ndL nodes k
/-- nodes that rise, below k -/
def NdL (nodes : Int) (l : List Int) (k : Nat) : Prop := nodesOk l = true ∧ (∀ x ∈ l, 0 ≤ x ∧ x < (k : Int)) ∧ l = ndL nodes k
theorem NdL.nil (nodes : Int) : NdL nodes [] 0 := ⟨rfl, by simp, rfl⟩
theorem NdL.skip {nodes : Int} {l : List Int} {k : Nat} (h : NdL nodes l k) (hb : nbit nodes k = false) : NdL nodes l (k + 1) := ⟨h.1, fun x hx => by have := h.2.1 x hx; omega, by rw [h.2.2, ndL, if_neg (by rw [hb]; decide)]⟩
theorem NdL.push {nodes : Int} {l : List Int} {k : Nat} (h : NdL nodes l k) (hb : nbit nodes k = true) (hk : k ≤ 5) : NdL nodes (l ++ [(k : Int)]) (k + 1) := by
 refine ⟨(nodesOk_iff _).2 fun i hi => ?_, fun x hx => ?_, by rw [h.2.2, ndL, if_pos hb]⟩
 ·have h0 := (nodesOk_iff l).1 h.1
  by_cases e : i < l.length
  ·have e1 : nth (l ++ [(k : Int)]) i = nth l i := by simp [nth, List.getElem?_append_left e]
   have e2 : nth (l ++ [(k : Int)]) (i - 1) = nth l (i - 1) := by simp [nth, List.getElem?_append_left (show i - 1 < l.length by omega)]
   unfold ndGood
   rw [e1, e2]
   exact h0 i e
  ·have ei : i = l.length := by simp at hi; omega
   subst ei
   have e1 : nth (l ++ [(k : Int)]) l.length = (k : Int) := by simp [nth]
   unfold ndGood
   rw [e1]
   refine ⟨by omega, fun hp => ?_⟩
   have e2 : nth (l ++ [(k : Int)]) (l.length - 1) = nth l (l.length - 1) := by simp [nth, List.getElem?_append_left (show l.length - 1 < l.length by omega)]
   rw [e2]
   exact (h.2.1 _ (nth_mem (by omega))).2
 ·rcases List.mem_append.1 hx with hx | hx
  ·have := h.2.1 x hx; omega
  ·simp at hx; subst hx; omega
theorem NdL.ok {nodes : Int} {l : List Int} {k : Nat} (h : NdL nodes l k) (hk : k ≤ 6) : ∀ x ∈ l, I64 x := fun x hx => by have := h.2.1 x hx; unfold I64; omega
theorem FsOwn.mono {B B' : Nat} {W : World} {v : Value} {os : List Ft} (h : FsOwn B W v os) (hB : B' ≤ B) : FsOwn B' W v os := ⟨own_mono h.own hB, fun f hf => ⟨own_mono (h.all f hf).own hB, (h.all f hf).key, (h.all f hf).num⟩⟩
theorem EsOwn.mono {B B' : Nat} {W : World} {v : Value} {es : List Et} (h : EsOwn B W v es) (hB : B' ≤ B) : EsOwn B' W v es := ⟨own_mono h.own hB, fun e he => ⟨(h.all e he).own.mono hB, (h.all e he).num⟩⟩
/-- an entry stays where others are laid -/
theorem EtOwn.step {B b j : Nat} {W W1 w3 : World} {e : Et} {o : Obj} {row : Option Nat} {cs : Array Value} {v : Value} (h : EtOwn B W e) (hb : Below W.heap.size W W1) (hg : (W1.alloc o).grownBy w3 row) (hr : Far (W1.alloc o) row 3) (hr2 : Far (W1.alloc o) row 124) (hx : Boxed w3 b cs 46) : EtOwn B (w3.setCell ⟨b, j, none⟩ v) e :=
 (((h.far (grown_below hb) (far_none _ _) (far_none _ _)).far (World.grownBy_alloc _ _ none) (far_none _ _) (far_none _ _)).far hg hr hr2).far (grown_at _ _ _ _) (hx.far (by decide)) (hx.far (by decide))
end Go.Proofs.YtlcjllgfpfldlaaGreat.code
