/-
  Bytes of a call's own; facts, entries, spans and records in memory.
-/
import Derived.Test.YtlokamblbhooaaaDimsRows
import Derived.Test.YtlokamblbhooaaaCodeBack
import Derived.Laws.IdiomStrings
import Derived.Lib.SmallJoins
import Derived.Deep.AppendLies
namespace Go.Proofs.Ytlokamblbhooaaa.code
open Go.ChangeShapes Go.WideShapes Go.ChangeAt Go.RowKit Go.Deep
open Go.Proofs.Ytlokamblbhooaaa.dims (nth Ints cell_lt vals vals_len vals_get vals_one vals_app own_below own_mono own_out own_apart RowOut ret_bool ret_int)
set_option linter.unusedVariables false
set_option maxRecDepth 100000

/-- bytes of a call's own -/
def Bs (B : Nat) (w : World) (v : Value) (l : List UInt8) : Prop := w.ownsRow B 5 1 v l.length (Lib.byteCells l)
/-- nothing but the row and new memory has changed; the row is where it was, or in new memory -/
structure Gr (w : World) (v : Value) (w' : World) (v' : Value) : Prop where
  grown : w.grownBy w' v.ownBlock
  row : ∀ g, v'.ownBlock = some g → v.ownBlock = some g ∨ w.heap.size ≤ g
theorem Gr.refl (w : World) (v : Value) : Gr w v w v := ⟨⟨rfl, rfl, rfl, Nat.le_refl _, fun _ _ _ => rfl⟩, fun g h => .inl h⟩
theorem Gr.trans {w w1 w2 : World} {v v1 v2 : Value} (h : Gr w v w1 v1) (k : Gr w1 v1 w2 v2) : Gr w v w2 v2 := by
  refine ⟨⟨k.grown.os.trans h.grown.os, k.grown.tape.trans h.grown.tape, k.grown.output.trans h.grown.output, Nat.le_trans h.grown.size k.grown.size, fun g hg hne => ?_⟩, fun g hg => ?_⟩
  · rw [k.grown.block g (Nat.lt_of_lt_of_le hg h.grown.size) ?_, h.grown.block g hg hne]
    intro e
    rcases h.row g e.symm with h1 | h1
    · exact hne h1.symm
    · omega
  · rcases k.row g hg with h1 | h1
    · exact h.row g h1
    · exact .inr (Nat.le_trans h.grown.size h1)
theorem Gr.of_below {w w' : World} (v : Value) (hb : Below w.heap.size w w') : Gr w v w' v := ⟨⟨hb.os, hb.tape, hb.output, hb.size, fun i hi _ => hb.block i hi⟩, fun g h => .inl h⟩
theorem Gr.alloc (w : World) (v : Value) (o : Obj) : Gr w v (w.alloc o) v := ⟨World.grownBy_alloc w o _, fun g h => .inl h⟩
theorem Gr.cell {w w' : World} {v v' : Value} (h : Gr w v w' v') {b o : Nat} {x : Value} (hc : w.cell? ⟨b, o, none⟩ = some x) (hne : some b ≠ v.ownBlock) : w'.cell? ⟨b, o, none⟩ = some x := h.grown.cell (a := ⟨b, o, none⟩) hc hne
theorem Gr.below {B : Nat} {w w' : World} {v v' : Value} {l : List UInt8} (h : Gr w v w' v') (ho : Bs B w v l) (hB : B ≤ w.heap.size) : Below B w w' := (Below.refl _ _).grown h.grown hB fun q hq => (ho.lt q hq).1
theorem Bs.nil (B : Nat) (w : World) : Bs B w (.slice none 0 0) [] := World.ownsRow_nil _ _ _ _
theorem Bs.alloc {B : Nat} {w : World} {v : Value} {l : List UInt8} (h : Bs B w v l) (o : Obj) : Bs B (w.alloc o) v l := World.ownsRow.alloc h o
theorem Bs.keep {B : Nat} {w w' : World} {v : Value} {l : List UInt8} (h : Bs B w v l) (hb : Below w.heap.size w w') : Bs B w' v l := own_below h hb
theorem Bs.form {B : Nat} {w : World} {v : Value} {l : List UInt8} (h : Bs B w v l) : ∃ a c, v = .slice a l.length c := by
  rcases h.2 with ⟨h1, h2⟩ | ⟨g, cap, cur, h1, _⟩
  · rw [h1, h2]; exact ⟨_, _, rfl⟩
  · exact ⟨_, _, h1⟩
theorem hid {p : Prop} (h : p) : Hid p := h
theorem info_u8 : (Try.prog.info? 5).map (fun i => (i.zero, i.size, i.bytes)) = some (some (.int .u8 0), 1, 1) := by kernel_rfl
theorem cell_one_new (w : World) (v : Value) (t : TypeId) : ∀ j u, [v][j]? = some u → (w.alloc (.cells #[v] t)).cell? ((⟨w.heap.size, 0, none⟩ : Addr).add j) = some u := by
  intro j u hj
  match j, hj with
  | 0, hj => simp at hj; subst hj; simp [Addr.add, go_sem]
  | j + 1, hj => simp at hj
theorem byteCells_snoc (l : List UInt8) (x : Nat) : Lib.byteCells (l ++ [UInt8.ofNat x]) = Lib.byteCells l ++ [Value.int .u8 ((x % 256 : Nat) : Int)] := by simp [Lib.byteCells]

/-- one byte more: behind the append -/
theorem Bs.push {B n : Nat} {w w3 : World} {v : Value} {l : List UInt8} {x : Nat} {g c : Nat} {y : Int} {o : Obj} (hn : l.length = n) (hy : y = ((x % 256 : Nat) : Int))
    (hown : w3.ownsRow B 5 1 (.slice (some ⟨g, 0, none⟩) (n + 1) c) (n + 1) (Lib.byteCells l ++ [Value.int .u8 y])) (hg : (w.alloc o).grownBy w3 v.ownBlock) (hat : v.ownBlock = some g ∨ g = w.heap.size + 1) :
    Bs B w3 (.slice (some ⟨g, 0, none⟩) (n + 1) c) (l ++ [UInt8.ofNat x]) ∧ Gr w v w3 (.slice (some ⟨g, 0, none⟩) (n + 1) c) := by
  subst hn hy
  refine ⟨?_, (Gr.alloc w v o).trans ⟨hg, fun q hq => ?_⟩⟩
  · unfold Bs
    rw [byteCells_snoc]
    simpa using hown
  · simp only [Value.ownBlock, Option.some.injEq] at hq
    subst hq
    rcases hat with h | h
    · exact .inl h
    · right; simp; omega
end Go.Proofs.Ytlokamblbhooaaa.code
