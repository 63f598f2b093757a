/-
  What a reader has read: lists in memory of the call's own.
-/
import Derived.Test.YtlokamblbhooaaaCodeRead
namespace Go.Proofs.Ytlokamblbhooaaa.code
open Go.ChangeShapes Go.WideShapes Go.ChangeAt Go.RowKit Go.Deep
open Go.Proofs.Ytlokamblbhooaaa.dims (nth Ints cell_lt vals vals_len vals_get vals_one vals_app own_below own_mono own_out own_apart RowOut ret_bool ret_int)
set_option linter.unusedVariables false
set_option maxRecDepth 100000

/-- a block that is no row of such elements -/
def Far (W : World) (row : Option Nat) (e : TypeId) : Prop := ∀ g cur t fr, row = some g → W.heap[g]? = some (.cells cur t fr) → t ≠ e
theorem own_far {W W' : World} {B s n : Nat} {e : TypeId} {v : Value} {xs : List Value} {row : Option Nat} (h : W.ownsRow B e s v n xs) (hg : W.grownBy W' row) (hf : Far W row e) : W'.ownsRow B e s v n xs := by
  refine h.kept hg ?_
  rcases h.2 with ⟨h0, _⟩ | ⟨g, cap, cur, hv, _, hgg, _⟩
  · left; rw [h0]; rfl
  · right
    rw [hv]
    intro e1
    exact hf g cur e (0, 0) e1.symm hgg rfl
theorem far_row {W : World} {B s n : Nat} {e e' : TypeId} {v : Value} {xs : List Value} (h : W.ownsRow B e s v n xs) (hne : e ≠ e') : Far W v.ownBlock e' := by
  intro g cur t fr hr hg
  rcases h.2 with ⟨h0, _⟩ | ⟨g', cap, cur', hv, _, hgg, _⟩
  · rw [h0] at hr; cases hr
  · rw [hv] at hr
    simp only [Value.ownBlock, Option.some.injEq] at hr
    subst hr
    rw [hgg] at hg
    simp only [Option.some.injEq, Obj.cells.injEq] at hg
    rw [← hg.2.1]; exact hne
theorem far_rdr {R n c : Nat} {w : World} {a : Option Addr} {l : List UInt8} (h : Rdr R w a n c l) {e : TypeId} (hne : 77 ≠ e) : Far w (some R) e := by
  intro g cur t fr hr hg
  simp only [Option.some.injEq] at hr
  subst hr
  rw [h.box] at hg
  simp only [Option.some.injEq, Obj.cells.injEq] at hg
  rw [← hg.2.1]; exact hne
theorem far_none (W : World) (e : TypeId) : Far W none e := fun g cur t fr hr _ => by cases hr
theorem grown_below {W W' : World} (hb : Below W.heap.size W W') : W.grownBy W' none := ⟨hb.os, hb.tape, hb.output, hb.size, fun i hi _ => hb.block i hi⟩

structure FtOwn (B : Nat) (W : World) (f : Ft) : Prop where
  own : W.ownsRow B 3 1 (.slice f.a f.k.length f.cap) f.k.length (vals f.k)
  key : ∀ x ∈ f.k, I64 x
  num : I64 f.v
theorem FtOwn.far {B : Nat} {W W' : World} {f : Ft} {row : Option Nat} (h : FtOwn B W f) (hg : W.grownBy W' row) (h1 : Far W row 3) : FtOwn B W' f := ⟨own_far h.own hg h1, h.key, h.num⟩
def factC (f : Ft) : List Value := [.slice f.a f.k.length f.cap, .int .i64 f.v]
structure FsOwn (B : Nat) (W : World) (v : Value) (fs : List Ft) : Prop where
  own : W.ownsRow B 53 2 v fs.length (fs.flatMap factC)
  all : ∀ f ∈ fs, FtOwn B W f
theorem FsOwn.far {B : Nat} {W W' : World} {v : Value} {fs : List Ft} {row : Option Nat} (h : FsOwn B W v fs) (hg : W.grownBy W' row) (h1 : Far W row 3) (h2 : Far W row 53) : FsOwn B W' v fs := ⟨own_far h.own hg h2, fun f hf => (h.all f hf).far hg h1⟩
structure EtOwn (B : Nat) (W : World) (e : Et) : Prop where
  own : FsOwn B W (.slice e.a e.fs.length e.cap) e.fs
  num : U32 e.t
def entC (e : Et) : List Value := [.int .u32 e.t, .slice e.a e.fs.length e.cap]
theorem EtOwn.far {B : Nat} {W W' : World} {e : Et} {row : Option Nat} (h : EtOwn B W e) (hg : W.grownBy W' row) (h1 : Far W row 3) (h2 : Far W row 53) : EtOwn B W' e := ⟨h.own.far hg h1 h2, h.num⟩
structure EsOwn (B : Nat) (W : World) (v : Value) (es : List Et) : Prop where
  own : W.ownsRow B 56 2 v es.length (es.flatMap entC)
  all : ∀ e ∈ es, EtOwn B W e
theorem EsOwn.far {B : Nat} {W W' : World} {v : Value} {es : List Et} {row : Option Nat} (h : EsOwn B W v es) (hg : W.grownBy W' row) (h1 : Far W row 3) (h2 : Far W row 53) (h3 : Far W row 56) : EsOwn B W' v es := ⟨own_far h.own hg h3, fun f hf => (h.all f hf).far hg h1 h2⟩
def spanC (s : PSpan) : List Value := [.int .i64 s.1, .int .i64 s.2]
structure SsOwn (B : Nat) (W : World) (v : Value) (ss : List PSpan) : Prop where
  own : W.ownsRow B 63 2 v ss.length (ss.flatMap spanC)
  all : ∀ s ∈ ss, I64 s.1 ∧ I64 s.2
theorem SsOwn.far {B : Nat} {W W' : World} {v : Value} {ss : List PSpan} {row : Option Nat} (h : SsOwn B W v ss) (hg : W.grownBy W' row) (h1 : Far W row 63) : SsOwn B W' v ss := ⟨own_far h.own hg h1, h.all⟩
structure NsOwn (B : Nat) (W : World) (v : Value) (l : List Int) : Prop where
  own : W.ownsRow B 3 1 v l.length (vals l)
  all : ∀ x ∈ l, I64 x
theorem NsOwn.far {B : Nat} {W W' : World} {v : Value} {l : List Int} {row : Option Nat} (h : NsOwn B W v l) (hg : W.grownBy W' row) (h1 : Far W row 3) : NsOwn B W' v l := ⟨own_far h.own hg h1, h.all⟩

theorem Rdr.kept {R n c : Nat} {w w' : World} {a : Option Addr} {l : List UInt8} (h : Rdr R w a n c l) (hk : ∀ i, i ≤ R → w'.heap[i]? = w.heap[i]?) : Rdr R w' a n c l := by
  refine ⟨(hk R (Nat.le_refl _)).trans h.box, h.len, h.cap, h.low, ?_⟩
  rcases h.mem with h0 | ⟨b, off, ha, hc⟩
  · exact .inl h0
  · exact .inr ⟨b, off, ha, fun i hi => (World.cell?_of_block (a := ⟨b, off + i, none⟩) (hk b (by have := h.low (by rintro rfl; simp at hi) _ ha; simp at this; omega))).trans (hc i hi)⟩
def RdL (R : Nat) (w : World) (l : List UInt8) : Prop := ∃ a n c, Rdr R w a n c l
theorem RdL.lt {R : Nat} {w : World} {l : List UInt8} (h : RdL R w l) : R < w.heap.size := by
  obtain ⟨a, n, c, h⟩ := h
  exact cell_lt h.cell
theorem RdL.keep {R : Nat} {w w' : World} {l : List UInt8} (h : RdL R w l) (hb : Below w.heap.size w w') : RdL R w' l := by
  obtain ⟨a, n, c, h⟩ := h
  exact ⟨a, n, c, h.keep hb⟩
theorem Went.trans {R : Nat} {w w1 w2 : World} {l l' : List UInt8} (h : Went R w w1 l) (k : Went R w1 w2 l') : Went R w w2 l' :=
  ⟨k.rdr, ⟨k.grown.os.trans h.grown.os, k.grown.tape.trans h.grown.tape, k.grown.output.trans h.grown.output, Nat.le_trans h.grown.size k.grown.size, fun i hi hne => (k.grown.block i (Nat.lt_of_lt_of_le hi h.grown.size) hne).trans (h.grown.block i hi hne)⟩⟩
theorem grown_trans {w w1 w2 : World} {row : Option Nat} (h : w.grownBy w1 row) (k : w1.grownBy w2 row) : w.grownBy w2 row :=
  ⟨k.os.trans h.os, k.tape.trans h.tape, k.output.trans h.output, Nat.le_trans h.size k.size, fun i hi hne => (k.block i (Nat.lt_of_lt_of_le hi h.size) hne).trans (h.block i hi hne)⟩
theorem Went.row {R : Nat} {w w2 w3 : World} {l : List UInt8} {row : Option Nat} (h : Went R w w2 l) (hg : w2.grownBy w3 row) (hr : ∀ g, row = some g → w.heap.size ≤ g) (hR : R < w.heap.size) : Went R w w3 l := by
  have hb : ∀ i, i < w.heap.size → w3.heap[i]? = w2.heap[i]? := fun i hi => hg.block i (Nat.lt_of_lt_of_le hi h.grown.size) fun e => by have := hr i e.symm; omega
  obtain ⟨a, n, c, hr2⟩ := h.rdr
  exact ⟨⟨a, n, c, hr2.kept fun i hi => hb i (by omega)⟩, ⟨hg.os.trans h.grown.os, hg.tape.trans h.grown.tape, hg.output.trans h.grown.output, Nat.le_trans h.grown.size hg.size, fun i hi hne => (hb i hi).trans (h.grown.block i hi hne)⟩⟩
theorem Went.below {R : Nat} {w w2 w3 : World} {l : List UInt8} (h : Went R w w2 l) (hb : Below w2.heap.size w2 w3) (hR : R < w.heap.size) : Went R w w3 l := h.row (grown_below hb) (fun g e => by cases e) hR
theorem Went.start {R : Nat} {w w2 : World} {l : List UInt8} (h : RdL R w l) (hb : Below w.heap.size w w2) : Went R w w2 l := ⟨h.keep hb, ⟨hb.os, hb.tape, hb.output, hb.size, fun i hi _ => hb.block i hi⟩⟩

/-- what comes of a read: a value, or what is missing -/
def PostX {γ : Type} (R : Nat) (w : World) (o : Option (γ × List UInt8)) (Got : γ → Value → World → Prop) (e : Ending) (w' : World) : Prop :=
  match o with
  | some (y, l') => ∃ v, e = .returned v ∧ Got y v w' ∧ Went R w w' l'
  | none => (∃ m, e = .panicked [{ v := .iface 74 (.int .i64 m), recovered := false }]) ∧ w.grownBy w' (some R)
theorem PostX.some {γ : Type} {R : Nat} {w w' : World} {o : Option (γ × List UInt8)} {Got : γ → Value → World → Prop} {v : Value} {y : γ} {l' : List UInt8} (h : o = .some (y, l')) (h1 : Got y v w') (h2 : Went R w w' l') : PostX R w o Got (.returned v) w' := by
  unfold PostX; rw [h]; exact ⟨v, rfl, h1, h2⟩
theorem PostX.none {γ : Type} {R : Nat} {w w' : World} {o : Option (γ × List UInt8)} {Got : γ → Value → World → Prop} {m : Int} (h : o = .none) (h2 : w.grownBy w' (.some R)) : PostX R w o Got (.panicked [{ v := .iface 74 (.int .i64 m), recovered := false }]) w' := by
  unfold PostX; rw [h]; exact ⟨⟨m, rfl⟩, h2⟩
theorem PostX.got {γ : Type} {R : Nat} {w w' : World} {o : Option (γ × List UInt8)} {Got : γ → Value → World → Prop} {e : Ending} {y : γ} {l' : List UInt8} (h : PostX R w o Got e w') (ho : o = .some (y, l')) : ∃ v, e = .returned v ∧ Got y v w' ∧ Went R w w' l' := by
  unfold PostX at h; rw [ho] at h; exact h
theorem PostX.miss {γ : Type} {R : Nat} {w w' : World} {o : Option (γ × List UInt8)} {Got : γ → Value → World → Prop} {e : Ending} (h : PostX R w o Got e w') (ho : o = .none) : (∃ m, e = .panicked [{ v := .iface 74 (.int .i64 m), recovered := false }]) ∧ w.grownBy w' (.some R) := by
  unfold PostX at h; rw [ho] at h; exact h
/-- a function that reads one -/
def Reads {γ : Type} (R B f : Nat) (p : Ps γ) (Got : γ → Value → World → Prop) : Prop :=
  ∀ w l, B ≤ w.heap.size → RdL R w l → l.length ≤ 60000 → Calls Try.prog f #[.pointer (some ⟨R, 0, none⟩)] w fun e w' => PostX R w (p l) Got e w'

theorem pInt_some {k : Nat} {l : List UInt8} (h : k ≤ l.length) : pInt k l = some (((valB (l.take k) : Nat) : Int), l.drop k) := by
  unfold pInt pGet; rw [if_pos h]; rfl
theorem pInt_none {k : Nat} {l : List UInt8} (h : l.length < k) : pInt k l = none := by
  unfold pInt pGet; rw [if_neg (by omega)]; rfl
theorem pGet_some {k : Nat} {l : List UInt8} (h : k ≤ l.length) : pGet k l = some (valB (l.take k), l.drop k) := by unfold pGet; rw [if_pos h]
theorem pGet_none {k : Nat} {l : List UInt8} (h : l.length < k) : pGet k l = none := by unfold pGet; rw [if_neg (by omega)]
theorem pI64_some {l : List UInt8} (h : 8 ≤ l.length) : pI64 l = some (asI64 (valB (l.take 8)), l.drop 8) := by unfold pI64 pGet; rw [if_pos h]; rfl
theorem pI64_none {l : List UInt8} (h : l.length < 8) : pI64 l = none := by unfold pI64 pGet; rw [if_neg (by omega)]; rfl
theorem grown_refl (w : World) (row : Option Nat) : w.grownBy w row := ⟨rfl, rfl, rfl, Nat.le_refl _, fun _ _ _ => rfl⟩

/-- the numbers, read by size -/
theorem rint (R : Nat) (w : World) (l : List UInt8) (h : RdL R w l) (k : Nat) (h1 : 1 ≤ k) (h4 : k ≤ 4) :
    Calls Try.prog 65 #[.pointer (some ⟨R, 0, none⟩), .int .i64 k] w fun e w' => PostX R w (pInt k l) (fun y v _ => v = .int .i64 y) e w' := by
  obtain ⟨a, n, c, h⟩ := h
  have hl := h.len
  by_cases hk : k ≤ n
  · exact (read_int R n c w a l h k h1 h4 hk).mono fun e w' ⟨e1, e2⟩ => by rw [e1]; exact PostX.some (pInt_some (by omega)) rfl e2
  · exact (miss_int R n c w a l h k (by omega) (by omega)).mono fun e w' ⟨⟨m, e1⟩, e2⟩ => by rw [e1, e2]; exact PostX.none (pInt_none (by omega)) (grown_refl _ _)
theorem ru32 (R : Nat) (w : World) (l : List UInt8) (h : RdL R w l) (k : Nat) (h1 : 1 ≤ k) (h4 : k ≤ 4) :
    Calls Try.prog 58 #[.pointer (some ⟨R, 0, none⟩), .int .i64 k] w fun e w' => PostX R w (pInt k l) (fun y v _ => v = .int .u32 y) e w' := by
  obtain ⟨a, n, c, h⟩ := h
  have hl := h.len
  by_cases hk : k ≤ n
  · exact (read_u32 R n c w a l h k h1 h4 hk).mono fun e w' ⟨e1, e2⟩ => by rw [e1]; exact PostX.some (pInt_some (by omega)) rfl e2
  · exact (miss_u32 R n c w a l h k (by omega) (by omega)).mono fun e w' ⟨⟨m, e1⟩, e2⟩ => by rw [e1, e2]; exact PostX.none (pInt_none (by omega)) (grown_refl _ _)
theorem ru8 (R : Nat) (w : World) (l : List UInt8) (h : RdL R w l) :
    Calls Try.prog 57 #[.pointer (some ⟨R, 0, none⟩), .int .i64 1] w fun e w' => PostX R w (pInt 1 l) (fun y v _ => v = .int .u8 y) e w' := by
  obtain ⟨a, n, c, h⟩ := h
  have hl := h.len
  by_cases hk : 1 ≤ n
  · exact (read_u8 R n c w a l h 1 (by omega) (by omega) hk).mono fun e w' ⟨e1, e2⟩ => by rw [e1]; exact PostX.some (pInt_some (by omega)) rfl e2
  · exact (miss_u8 R n c w a l h 1 (by omega) (by omega)).mono fun e w' ⟨⟨m, e1⟩, e2⟩ => by rw [e1, e2]; exact PostX.none (pInt_none (by omega)) (grown_refl _ _)
theorem ri64 (R : Nat) (w : World) (l : List UInt8) (h : RdL R w l) :
    Calls Try.prog 77 #[.pointer (some ⟨R, 0, none⟩), .int .i64 8] w fun e w' => PostX R w (pI64 l) (fun y v _ => v = .int .i64 y) e w' := by
  obtain ⟨a, n, c, h⟩ := h
  have hl := h.len
  by_cases hk : 8 ≤ n
  · exact (read_int64 R n c w a l h 8 (by omega) (by omega) hk).mono fun e w' ⟨e1, e2⟩ => by rw [e1]; exact PostX.some (pI64_some (by omega)) rfl e2
  · exact (miss_int64 R n c w a l h 8 (by omega) (by omega)).mono fun e w' ⟨⟨m, e1⟩, e2⟩ => by rw [e1, e2]; exact PostX.none (pI64_none (by omega)) (grown_refl _ _)
theorem pInt_lt {k : Nat} {l l' : List UInt8} {y : Int} (h : pInt k l = some (y, l')) : 0 ≤ y ∧ y < 256 ^ k ∧ l'.length + k = l.length := by
  unfold pInt at h
  obtain ⟨⟨v, l1⟩, h1, h2⟩ := Option.map_eq_some_iff.1 h
  simp only [Prod.mk.injEq] at h2
  obtain ⟨rfl, rfl⟩ := h2
  have := pGet_val h1
  have e : ((256 ^ k : Nat) : Int) = (256 : Int) ^ k := by simp
  exact ⟨by omega, by omega, this.2⟩
theorem pI64_lt {l l' : List UInt8} {y : Int} (h : pI64 l = some (y, l')) : I64 y ∧ l'.length + 8 = l.length := by
  unfold pI64 at h
  obtain ⟨⟨v, l1⟩, h1, h2⟩ := Option.map_eq_some_iff.1 h
  simp only [Prod.mk.injEq] at h2
  obtain ⟨rfl, rfl⟩ := h2
  have := pGet_val h1
  have h8 : (256 : Nat) ^ 8 = 18446744073709551616 := by decide
  refine ⟨?_, this.2⟩
  unfold I64 asI64
  split <;> omega
theorem grown_at (w : World) (b o : Nat) (v : Value) : w.grownBy (w.setCell ⟨b, o, none⟩ v) (some b) :=
  ⟨rfl, rfl, rfl, by simp [World.setCell], fun k hk hne => by
    have : b ≠ k := fun e => hne (by rw [e])
    simp [World.setCell, Array.getElem?_modify, this]⟩
/-- a variable of the call's own -/
def Boxed (w : World) (h : Nat) (cs : Array Value) (t : TypeId) : Prop := w.heap[h]? = some (.cells cs t (0, 0))
theorem Boxed.new (w : World) (cs : Array Value) (t : TypeId) : Boxed (w.alloc (.cells cs t)) w.heap.size cs t := heap_alloc_new w _
theorem Boxed.cell {w : World} {h : Nat} {cs : Array Value} {t : TypeId} (hb : Boxed w h cs t) {j : Nat} {x : Value} (hx : cs[j]? = some x) : w.cell? ⟨h, j, none⟩ = some x := by
  rw [cell_of_row w h j cs t (0, 0) hb]; exact hx
theorem Boxed.frz {w : World} {h : Nat} {cs : Array Value} {t : TypeId} (hb : Boxed w h cs t) (j : Nat) : w.frozen? ⟨h, j, none⟩ = false := by
  unfold Boxed at hb
  simp [World.frozen?, hb]
theorem Boxed.lt {w : World} {h : Nat} {cs : Array Value} {t : TypeId} (hb : Boxed w h cs t) : h < w.heap.size := (Array.getElem?_eq_some_iff.1 hb).1
theorem Boxed.grown {w w' : World} {h : Nat} {cs : Array Value} {t : TypeId} (hb : Boxed w h cs t) {row : Option Nat} (hg : w.grownBy w' row) (hne : some h ≠ row) : Boxed w' h cs t := (hg.block h hb.lt hne).trans hb
theorem Boxed.below {w w' : World} {h : Nat} {cs : Array Value} {t : TypeId} (hb : Boxed w h cs t) (hg : Below w.heap.size w w') : Boxed w' h cs t := (hg.block h hb.lt).trans hb
theorem Boxed.set {w : World} {h : Nat} {cs : Array Value} {t : TypeId} (hb : Boxed w h cs t) (j : Nat) (v : Value) : Boxed (w.setCell ⟨h, j, none⟩ v) h (cs.setIfInBounds j v) t := by
  unfold Boxed at hb ⊢
  simp [World.setCell, Array.getElem?_modify, hb]
theorem Boxed.far {w : World} {h : Nat} {cs : Array Value} {t e : TypeId} (hb : Boxed w h cs t) (hne : t ≠ e) : Far w (some h) e := by
  intro g cur t' fr hr hg
  simp only [Option.some.injEq] at hr
  subst hr
  unfold Boxed at hb
  rw [hb] at hg
  simp only [Option.some.injEq, Obj.cells.injEq] at hg
  rw [← hg.2.1]; exact hne
theorem RdL.far {R : Nat} {w : World} {l : List UInt8} (h : RdL R w l) {e : TypeId} (hne : 77 ≠ e) : Far w (some R) e := by
  obtain ⟨a, n, c, h⟩ := h
  exact far_rdr h hne
end Go.Proofs.Ytlokamblbhooaaa.code
