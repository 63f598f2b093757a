/-
 What is read off bytes is within its types, plain. Nothing of the program.
-/
import Derived.Test.YtlcjllgfpfldlaaGreatWalZ27K
set_option linter.unusedVariables false
set_option maxRecDepth 100000
namespace Go.Proofs.YtlcjllgfpfldlaaGreat
namespace wal
open code (Ps PRec pInt pI64 pTimes pAll pFact pEnt pBody pRec pGet_val asI64 Typed U32 I64 dec)
def Yld {α : Type} (p : Ps α) (Q : α → Prop) : Prop := ∀ l x l', p l = some (x, l') → Q x
theorem yld_int (k : Nat) : Yld (pInt k) (fun x => 0 ≤ x ∧ x < ((256 ^ k : Nat) : Int)) := by
 intro l x l' h
 unfold pInt at h
 obtain ⟨⟨v, l1⟩, h1, h2⟩ := Option.map_eq_some_iff.1 h
 simp only [Prod.mk.injEq] at h2
 obtain ⟨rfl, rfl⟩ := h2
 have := (pGet_val h1).1
 exact ⟨by omega, by omega⟩
theorem yld_u32 : Yld (pInt 4) U32 := fun l x l' h => by
 have := yld_int 4 l x l' h
 unfold U32; simp at this; omega
theorem yld_i64 : Yld pI64 I64 := by
 intro l x l' h
 unfold pI64 at h
 obtain ⟨⟨v, l1⟩, h1, h2⟩ := Option.map_eq_some_iff.1 h
 simp only [Prod.mk.injEq] at h2
 obtain ⟨rfl, rfl⟩ := h2
 have := (pGet_val h1).1
 unfold I64 asI64
 simp at this
 split <;> omega
theorem yld_times {α : Type} {p : Ps α} {Q : α → Prop} (h : Yld p Q) : ∀ n, Yld (pTimes p n) (fun ys => ∀ y ∈ ys, Q y)
 | 0 => by
  intro l x l' e
  simp only [pTimes, oiQ, Prod.mk.injEq] at e
  obtain ⟨rfl, rfl⟩ := e
  intro y hy; cases hy
 | n + 1 => by
  intro l x l' e
  simp only [pTimes] at e
  obtain ⟨⟨y, l1⟩, h1, h2⟩ := Option.bind_eq_some_iff.1 e
  obtain ⟨⟨z, l2⟩, h3, h4⟩ := Option.map_eq_some_iff.1 h2
  simp only [Prod.mk.injEq] at h4
  obtain ⟨rfl, rfl⟩ := h4
  intro q hq
  rcases List.mem_cons.1 hq with rfl | hq
  ·exact h _ _ _ h1
  ·exact yld_times h n _ _ _ h3 q hq
theorem yld_all {α : Type} {p : Ps α} {Q : α → Prop} (h : Yld p Q) (k : Nat) : Yld (pAll k p) (fun ys => ∀ y ∈ ys, Q y) := by
 intro l x l' e
 unfold pAll at e
 obtain ⟨⟨n, l1⟩, h1, h2⟩ := Option.bind_eq_some_iff.1 e
 exact yld_times h n _ _ _ h2
theorem yld_fact : Yld pFact (fun f => I64 f.2) := by
 intro l x l' e
 unfold pFact at e
 obtain ⟨⟨y, l1⟩, h1, h2⟩ := Option.bind_eq_some_iff.1 e
 obtain ⟨⟨z, l2⟩, h3, h4⟩ := Option.map_eq_some_iff.1 h2
 simp only [Prod.mk.injEq] at h4
 obtain ⟨rfl, rfl⟩ := h4
 exact yld_i64 _ _ _ h3
theorem yld_ent : Yld pEnt (fun e => U32 e.1 ∧ ∀ f ∈ e.2, I64 f.2) := by
 intro l x l' e
 unfold pEnt at e
 obtain ⟨⟨y, l1⟩, h1, h2⟩ := Option.bind_eq_some_iff.1 e
 obtain ⟨⟨z, l2⟩, h3, h4⟩ := Option.map_eq_some_iff.1 h2
 simp only [Prod.mk.injEq] at h4
 obtain ⟨rfl, rfl⟩ := h4
 exact ⟨yld_u32 _ _ _ h1, yld_all yld_fact 4 _ _ _ h3⟩
theorem u32_nil : U32 0 := by unfold U32; omega
theorem yld_rec : Yld pRec Typed := by
 intro l x l' e
 unfold pRec at e
 obtain ⟨⟨k, l1⟩, h1, h2⟩ := Option.bind_eq_some_iff.1 e
 obtain ⟨⟨i, l2⟩, h3, h4⟩ := Option.bind_eq_some_iff.1 h2
 have hk := yld_int 1 _ _ _ h1
 have hk : 0 ≤ k ∧ k ≤ 255 := by simp at hk; omega
 have hi := yld_u32 _ _ _ h3
 simp only at h4
 unfold pBody at h4
 split at h4
 ·obtain ⟨⟨n, l3⟩, h5, h6⟩ := Option.bind_eq_some_iff.1 h4
  obtain ⟨⟨f, l4⟩, h7, h8⟩ := Option.map_eq_some_iff.1 h6
  simp only [Prod.mk.injEq] at h8
  obtain ⟨rfl, rfl⟩ := h8
  exact ⟨hk, hi, u32_nil, u32_nil, yld_all yld_fact 4 _ _ _ h7, fun e he => by cases he⟩
 ·split at h4
  ·obtain ⟨⟨a, l3⟩, h5, h6⟩ := Option.bind_eq_some_iff.1 h4
   obtain ⟨⟨n, l4⟩, h7, h8⟩ := Option.map_eq_some_iff.1 h6
   simp only [Prod.mk.injEq] at h8
   obtain ⟨rfl, rfl⟩ := h8
   exact ⟨hk, hi, yld_u32 _ _ _ h5, u32_nil, fun f hf => (by cases hf), fun e he => by cases he⟩
  ·split at h4
   ·obtain ⟨⟨a, l3⟩, h5, h6⟩ := Option.bind_eq_some_iff.1 h4
    obtain ⟨⟨n, l4⟩, h7, h8⟩ := Option.map_eq_some_iff.1 h6
    simp only [Prod.mk.injEq] at h8
    obtain ⟨rfl, rfl⟩ := h8
    exact ⟨hk, hi, u32_nil, yld_u32 _ _ _ h5, fun f hf => (by cases hf), fun e he => by cases he⟩
   ·split at h4
    ·obtain ⟨⟨a, l3⟩, h5, h6⟩ := Option.bind_eq_some_iff.1 h4
     obtain ⟨⟨b, l4⟩, h7, h8⟩ := Option.bind_eq_some_iff.1 h6
     obtain ⟨⟨n, l5⟩, h9, h10⟩ := Option.map_eq_some_iff.1 h8
     simp only [Prod.mk.injEq] at h10
     obtain ⟨rfl, rfl⟩ := h10
     exact ⟨hk, hi, u32_nil, u32_nil, fun f hf => (by cases hf), yld_all yld_ent 4 _ _ _ h9⟩
    ·simp only [oiQ, Prod.mk.injEq] at h4
     obtain ⟨rfl, rfl⟩ := h4
     exact ⟨hk, hi, u32_nil, u32_nil, fun f hf => (by cases hf), fun e he => by cases he⟩
theorem dec_typed {l : List UInt8} {x : PRec} (h : dec l = some x) : Typed x := by
 unfold dec at h
 obtain ⟨⟨y, rest⟩, h1, h2⟩ := Option.bind_eq_some_iff.1 h
 split at h2
 ·injection h2 with h2
  subst h2
  exact yld_rec _ _ _ h1
 ·cases h2
end wal
end Go.Proofs.YtlcjllgfpfldlaaGreat
