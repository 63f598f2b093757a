/-
 Records come back from their bytes, in one way: plain. The chapter's reader over a record's bytes tells that record; two sound records with the same bytes are the same.
 Records read from bytes, plain: what is missing tells none; what is read is what was laid, and the other way round.
-/
import Derived.Test.YtlcjllgfpfldlaaGreatCodeMath
set_option linter.unusedVariables false
set_option maxRecDepth 100000
namespace Go.Proofs.YtlcjllgfpfldlaaGreat
namespace code
theorem pow4 : (256 : Int) ^ 4 = 4294967296 := by decide
theorem pow1 : (256 : Int) ^ 1 = 256 := by decide
theorem rdGet_putB (v k : Nat) (r : List UInt8) : rdGet k (putB v k ++ r, false) = (v % 256 ^ k, (r, false)) := by
 unfold rdGet
 rw [if_neg (by simp [putB_len])]
 obtain ⟨e1, e2⟩ := putB_append v k r
 simp only [e1, e2, valB_put]
theorem asI64_back {x : Int} (h : I64 x) : asI64 ((x % 18446744073709551616).toNat % 256 ^ 8) = x := by
 have e : (256 : Nat) ^ 8 = 18446744073709551616 := by decide
 rw [e]
 unfold I64 at h
 unfold asI64
 split <;> omega
theorem rd1_back : Back (rdInt 1) (putI · 1) (fun x => 0 ≤ x ∧ x ≤ 255) := rdInt_back _ fun x h => by rw [pow1]; omega
theorem rd4_back : Back (rdInt 4) (putI · 4) U32 := rdInt_back _ fun x h => by rw [pow4]; unfold U32 at h; omega

/-! ### what may be, limb by limb -/
theorem nodesOk_all : ∀ {l : List Int}, nodesOk l = true → ∀ x ∈ l, 0 ≤ x ∧ x ≤ 5
 | [], _ => by simp
 | y :: l, h => by
  simp only [nodesOk, Bool.and_eq_true, decide_eq_true_eq] at h
  intro x hx
  rcases List.mem_cons.1 hx with rfl | hx
  ·exact h.1.1
  ·exact nodesOk_all h.2 x hx
theorem nodesOk_len : ∀ {l : List Int} {y : Int}, nodesOk (y :: l) = true → (l.length : Int) + y ≤ 5
 | [], y, h => by
  simp only [nodesOk, Bool.and_eq_true, decide_eq_true_eq] at h
  simp only [List.length_nil]; omega
 | z :: l, y, h => by
  have h2 : nodesOk (z :: l) = true := by
   rw [nodesOk] at h
   simp only [Bool.and_eq_true] at h
   exact h.2
  have h3 : y < z := by
   rw [nodesOk] at h
   simp only [Bool.and_eq_true, decide_eq_true_eq] at h
   exact h.1.2
  have := nodesOk_len h2
  simp only [List.length_cons]; omega
theorem nodesOk_few {l : List Int} (h : nodesOk l = true) : l.length ≤ 6 := by
 rcases l with _ | ⟨y, l⟩
 ·simp
 ·have h1 := nodesOk_len h
  have h2 := (nodesOk_all h y (by simp)).1
  simp only [List.length_cons]; omega
theorem keyOk_iff {k : List Int} : keyOk k = true ↔ (∀ v ∈ k, 0 ≤ v ∧ v ≤ 9999) ∧ k.length ≤ 4 := by
 unfold keyOk
 simp only [Bool.and_eq_true, List.all_eq_true, decide_eq_true_eq]
theorem factsOk_iff {l : List PFact} : factsOk l = true ↔ (∀ f ∈ l, keyOk f.1 = true) ∧ l.length ≤ 200 := by
 unfold factsOk
 simp only [Bool.and_eq_true, List.all_eq_true, decide_eq_true_eq]
theorem spansOk_iff {l : List PSpan} : spansOk l = true ↔ (∀ s ∈ l, (0 ≤ s.1 ∧ s.1 ≤ 9999) ∧ 0 ≤ s.2 ∧ s.2 ≤ 5) ∧ l.length ≤ 40 := by
 unfold spansOk
 simp only [Bool.and_eq_true, List.all_eq_true, decide_eq_true_eq]
theorem entsUp_all : ∀ {l : List PEnt}, entsUp l = true → ∀ e ∈ l, factsOk e.2 = true
 | [], _ => by simp
 | y :: l, h => by
  simp only [entsUp, Bool.and_eq_true] at h
  intro x hx
  rcases List.mem_cons.1 hx with rfl | hx
  ·exact h.1.1
  ·exact entsUp_all h.2 x hx
theorem entsOk_iff {l : List PEnt} (h : entsOk l = true) : (∀ e ∈ l, factsOk e.2 = true) ∧ l.length ≤ 5000 := by
 unfold entsOk at h
 simp only [Bool.and_eq_true, decide_eq_true_eq] at h
 exact ⟨entsUp_all h.1, h.2⟩

/-! ### back -/
theorem rdNodes_back : Back rdNodes nodesB (fun l => nodesOk l = true) := fun l h r => by
 have hf := nodesOk_few h
 unfold rdNodes nodesB
 rw [List.append_assoc, rdMany_put (e := (putI · 1)) l (by omega) (fun x => by rw [putI_len]; omega) (by rw [pow1]; omega) (by omega)]
 exact rdTimes_back rd1_back l (fun x hx => by have := nodesOk_all h x hx; omega) r
theorem rdFact_back : Back rdFact factB (fun f => keyOk f.1 = true ∧ I64 f.2) := fun f h r => by
 obtain ⟨k, v⟩ := f
 obtain ⟨hk, hv⟩ := h
 obtain ⟨h1, h2⟩ := keyOk_iff.1 hk
 have e : factB (k, v) ++ r = putI k.length 1 ++ (k.flatMap (putI · 4) ++ (putI v 8 ++ r)) := by simp [factB, List.append_assoc]
 have h2' : k.length ≤ 4 := h2
 unfold rdFact
 rw [e, rdMany_put (e := (putI · 4)) k (by omega) (fun x => by rw [putI_len]; omega) (by rw [pow1]; omega) (by omega)]
 simp only
 rw [rdTimes_back rd4_back k (fun x hx => by have := h1 x hx; unfold U32; omega)]
 simp only
 unfold putI
 rw [rdGet_putB]
 simp only
 rw [asI64_back hv]
theorem factB_least (f : PFact) : 9 ≤ (factB f).length := by
 unfold factB
 rw [List.length_append, List.length_append, putI_len, putI_len]; omega
theorem rdFacts_back : Back rdFacts factsB (fun l => factsOk l = true ∧ ∀ f ∈ l, I64 f.2) := fun l h r => by
 obtain ⟨h1, h2⟩ := factsOk_iff.1 h.1
 unfold rdFacts factsB
 rw [List.append_assoc, rdMany_put (e := factB) l (by omega) factB_least (by rw [pow4]; omega) (by omega)]
 exact rdWhile_back rdFact_back l (fun f hf => ⟨h1 f hf, h.2 f hf⟩) r
theorem rdEnt_back : Back rdEnt entB (fun e => U32 e.1 ∧ factsOk e.2 = true ∧ ∀ f ∈ e.2, I64 f.2) := fun e h r => by
 obtain ⟨a, l⟩ := e
 unfold rdEnt entB
 rw [List.append_assoc, rd4_back a h.1]
 simp only
 rw [rdFacts_back l h.2]
theorem entB_least (e : PEnt) : 8 ≤ (entB e).length := by
 unfold entB factsB
 rw [List.length_append, List.length_append, putI_len, putI_len]; omega
theorem rdEnts_back : Back rdEnts entsB (fun l => entsOk l = true ∧ ∀ e ∈ l, U32 e.1 ∧ ∀ f ∈ e.2, I64 f.2) := fun l h r => by
 obtain ⟨h1, h2⟩ := entsOk_iff h.1
 unfold rdEnts entsB
 rw [List.append_assoc, rdMany_put (e := entB) l (by omega) entB_least (by rw [pow4]; omega) (by omega)]
 exact rdWhile_back rdEnt_back l (fun e he => ⟨(h.2 e he).1, h1 e he, (h.2 e he).2⟩) r
theorem rdSpan_back : Back rdSpan spanB (fun s => (0 ≤ s.1 ∧ s.1 ≤ 9999) ∧ 0 ≤ s.2 ∧ s.2 ≤ 5) := fun s h r => by
 obtain ⟨a, b⟩ := s
 obtain ⟨h1, h2⟩ := h
 have h1' : 0 ≤ a ∧ a ≤ 9999 := h1
 have h2' : 0 ≤ b ∧ b ≤ 5 := h2
 unfold rdSpan spanB
 rw [List.append_assoc, rd4_back a (by unfold U32; omega)]
 simp only
 rw [rd1_back b (by omega)]
theorem spanB_len (s : PSpan) : (spanB s).length = 5 := by
 unfold spanB
 rw [List.length_append, putI_len, putI_len]
theorem rdSpans_put (l : List PSpan) (h : spansOk l = true) (r : List UInt8) : rdSpans (putI l.length 1 ++ (l.flatMap spanB ++ r), false) = (l, (r, false)) := by
 obtain ⟨h1, h2⟩ := spansOk_iff.1 h
 unfold rdSpans
 rw [rdMany_put (e := spanB) l (by omega) (fun s => by rw [spanB_len]; omega) (by rw [pow1]; omega) (by omega)]
 exact rdTimes_back rdSpan_back l h1 r

def rdRec (s : Rd) : PRec × Rd :=
 let k := rdInt 1 s
 let i := rdInt 4 k.2
 if k.1 = 1 then let n := rdNodes i.2; let f := rdFacts n.2; (⟨k.1, i.1, 0, n.1, f.1, 0, [], 0, 0, []⟩, f.2)
 else if k.1 = 2 then let a := rdInt 4 i.2; let n := rdNodes a.2; (⟨k.1, i.1, a.1, n.1, [], 0, [], 0, 0, []⟩, n.2)
 else if k.1 = 6 then let e := rdInt 4 i.2; let l := rdSpans e.2; (⟨k.1, i.1, 0, [], [], e.1, l.1, 0, 0, []⟩, l.2)
 else if k.1 = 7 then let f := rdInt 4 i.2; let t := rdInt 4 f.2; let e := rdEnts t.2; (⟨k.1, i.1, 0, [], [], 0, [], f.1, t.1, e.1⟩, e.2)
 else (⟨k.1, i.1, 0, [], [], 0, [], 0, 0, []⟩, i.2)

theorem rdRec_back (x : PRec) (h : sndRec x = true) (ht : Typed x) (r : List UInt8) : rdRec (recB x ++ r, false) = (x, (r, false)) := by
 obtain ⟨kind, id, at_, nodes, facts, epoch, spans, frm, to, ents⟩ := x
 have hk := ht.kind
 have hid := ht.id
 have hat := ht.at_
 have hep := ht.epoch
 have hfa := ht.facts
 have hen := ht.ents
 simp only at hk hid hat hep hfa hen
 unfold recB rdRec
 simp only [List.append_assoc]
 rw [rd1_back kind hk]
 simp only
 rw [rd4_back id hid]
 simp only
 simp only [sndRec, bareI, bareA, bareN, bareF, bareM, bareR] at h
 unfold bodyB
 simp only
 by_cases k1 : kind = 1
 ·subst k1
  simp only [if_true, Bool.and_eq_true, decide_eq_true_eq, List.length_eq_zero_iff] at h ⊢
  obtain ⟨⟨rfl, ⟨rfl, rfl⟩, rfl, rfl, rfl⟩, hn, hf⟩ := h
  rw [List.append_assoc, rdNodes_back nodes hn]
  simp only
  rw [rdFacts_back facts ⟨hf, hfa⟩]
 rw [if_neg k1] at h
 rw [if_neg k1, if_neg k1]
 by_cases k2 : kind = 2
 ·subst k2
  simp only [if_true, Bool.and_eq_true, decide_eq_true_eq, List.length_eq_zero_iff] at h ⊢
  obtain ⟨⟨rfl, ⟨rfl, rfl⟩, rfl, rfl, rfl⟩, hn⟩ := h
  rw [List.append_assoc, rd4_back at_ hat]
  simp only
  rw [rdNodes_back nodes hn]
 rw [if_neg k2] at h
 rw [if_neg k2, if_neg k2]
 by_cases k3 : kind = 3 ∨ kind = 4 ∨ kind = 5
 ·rw [if_pos k3] at h
  rw [if_neg (by omega), if_neg (by omega), if_neg (by omega), if_neg (by omega)]
  simp only [Bool.and_eq_true, decide_eq_true_eq, List.length_eq_zero_iff] at h
  obtain ⟨rfl, rfl, rfl, ⟨rfl, rfl⟩, rfl, rfl, rfl⟩ := h
  rw [List.nil_append]
 rw [if_neg k3] at h
 by_cases k6 : kind = 6
 ·subst k6
  simp only [if_true, Bool.and_eq_true, decide_eq_true_eq, List.length_eq_zero_iff] at h ⊢
  obtain ⟨⟨rfl, rfl, rfl, rfl, rfl, rfl, rfl⟩, hs⟩ := h
  unfold mapB
  rw [List.append_assoc, List.append_assoc, rd4_back epoch hep]
  simp only
  rw [rdSpans_put spans hs]
 rw [if_neg k6] at h
 rw [if_neg k6, if_neg k6]
 by_cases k7 : kind = 7
 ·subst k7
  simp only [if_true, Bool.and_eq_true, decide_eq_true_eq, List.length_eq_zero_iff] at h ⊢
  obtain ⟨⟨rfl, rfl, rfl, rfl, rfl⟩, he, hf, ho⟩ := h
  rw [List.append_assoc, List.append_assoc, rd4_back frm (by unfold U32; omega)]
  simp only
  rw [rd4_back to (by unfold U32; omega)]
  simp only
  rw [rdEnts_back ents ⟨he, hen⟩]
 rw [if_neg k7] at h
 cases h
abbrev Ps (α : Type) := List UInt8 → Option (α × List UInt8)
def pGet (k : Nat) : Ps Nat := fun l => if k ≤ l.length then some (valB (l.take k), l.drop k) else none
def pInt (k : Nat) : Ps Int := fun l => (pGet k l).map fun y => ((y.1 : Int), y.2)
def pI64 : Ps Int := fun l => (pGet 8 l).map fun y => (asI64 y.1, y.2)
def pTimes {α : Type} (p : Ps α) : Nat → Ps (List α)
 | 0, l => some ([], l)
 | n + 1, l => (p l).bind fun y => (pTimes p n y.2).map fun z => (y.1 :: z.1, z.2)
def pAll {α : Type} (k : Nat) (p : Ps α) : Ps (List α) := fun l => (pGet k l).bind fun y => pTimes p y.1 y.2
def pFact : Ps PFact := fun l => (pAll 1 (pInt 4) l).bind fun y => (pI64 y.2).map fun z => ((y.1, z.1), z.2)
def pEnt : Ps PEnt := fun l => (pInt 4 l).bind fun y => (pAll 4 pFact y.2).map fun z => ((y.1, z.1), z.2)
def pSpan : Ps PSpan := fun l => (pInt 4 l).bind fun y => (pInt 1 y.2).map fun z => ((y.1, z.1), z.2)
def pBody (k i : Int) : Ps PRec := fun l =>
 if k = 1 then (pAll 1 (pInt 1) l).bind fun n => (pAll 4 pFact n.2).map fun f => (⟨k, i, 0, n.1, f.1, 0, [], 0, 0, []⟩, f.2)
 else if k = 2 then (pInt 4 l).bind fun a => (pAll 1 (pInt 1) a.2).map fun n => (⟨k, i, a.1, n.1, [], 0, [], 0, 0, []⟩, n.2)
 else if k = 6 then (pInt 4 l).bind fun e => (pAll 1 pSpan e.2).map fun s => (⟨k, i, 0, [], [], e.1, s.1, 0, 0, []⟩, s.2)
 else if k = 7 then (pInt 4 l).bind fun f => (pInt 4 f.2).bind fun t => (pAll 4 pEnt t.2).map fun e => (⟨k, i, 0, [], [], 0, [], f.1, t.1, e.1⟩, e.2)
 else some (⟨k, i, 0, [], [], 0, [], 0, 0, []⟩, l)
def pRec : Ps PRec := fun l => (pInt 1 l).bind fun k => (pInt 4 k.2).bind fun i => pBody k.1 i.1 i.2

def Enc {α : Type} (p : Ps α) (e : α → List UInt8) : Prop := ∀ l x l', p l = some (x, l') → l = e x ++ l'
def Dec {α : Type} (p : Ps α) (e : α → List UInt8) (ok : α → Prop) : Prop := ∀ x, ok x → ∀ r, p (e x ++ r) = some (x, r)

theorem valB_head (b : UInt8) (l : List UInt8) : (b.toNat * 256 ^ l.length + valB l) / 256 ^ l.length = b.toNat := by
 have hp : 0 < 256 ^ l.length := Nat.pos_of_ne_zero (by simp)
 rw [Nat.mul_comm, Nat.mul_add_div hp, Nat.div_eq_of_lt (valB_lt l), Nat.add_zero]
theorem valB_inj : ∀ l l' : List UInt8, l.length = l'.length → valB l = valB l' → l = l'
 | [], [], _, _ => rfl
 | [], b :: l, h, _ => by simp at h
 | b :: l, [], h, _ => by simp at h
 | b :: l, b' :: l', h, e => by
  simp only [List.length_cons, Nat.add_right_cancel_iff] at h
  rw [valB_cons, valB_cons] at e
  have e1 := valB_head b l
  rw [e, h, valB_head b' l'] at e1
  have e2 : b = b' := UInt8.toNat_inj.1 e1.symm
  subst e2
  rw [h] at e
  rw [valB_inj l l' h (by omega)]
theorem putB_val (l : List UInt8) : putB (valB l) l.length = l := by
 refine valB_inj _ _ (putB_len _ _) ?_
 rw [valB_put, Nat.mod_eq_of_lt (valB_lt l)]
theorem pGet_enc (k : Nat) : Enc (pGet k) (fun v => putB v k) := by
 intro l x l' h
 unfold pGet at h
 split at h
 ·rename_i hk
  simp only [Option.some.injEq, Prod.mk.injEq] at h
  obtain ⟨rfl, rfl⟩ := h
  have e : (l.take k).length = k := by rw [List.length_take]; omega
  have := putB_val (l.take k)
  rw [e] at this
  show l = putB (valB (l.take k)) k ++ l.drop k
  rw [this, List.take_append_drop]
 ·cases h
theorem pGet_val {k : Nat} {l l' : List UInt8} {x : Nat} (h : pGet k l = some (x, l')) : x < 256 ^ k ∧ l'.length + k = l.length := by
 unfold pGet at h
 split at h
 ·rename_i hk
  simp only [Option.some.injEq, Prod.mk.injEq] at h
  obtain ⟨rfl, rfl⟩ := h
  have e : (l.take k).length = k := by rw [List.length_take]; omega
  have := valB_lt (l.take k)
  rw [e] at this
  exact ⟨this, by rw [List.length_drop]; omega⟩
 ·cases h
theorem pow_le8 {k : Nat} (h : k ≤ 8) : 256 ^ k ≤ 18446744073709551616 := by
 have : 256 ^ k ≤ 256 ^ 8 := Nat.pow_le_pow_right (by omega) h
 simpa using this
theorem putI_nat {x k : Nat} (h : x < 18446744073709551616) : putI (x : Int) k = putB x k := by
 unfold putI
 rw [show ((x : Int) % 18446744073709551616).toNat = x by omega]
theorem pInt_enc {k : Nat} (hk : k ≤ 8) : Enc (pInt k) (putI · k) := by
 intro l x l' h
 unfold pInt at h
 obtain ⟨⟨v, l1⟩, h1, h2⟩ := Option.map_eq_some_iff.1 h
 simp only [Prod.mk.injEq] at h2
 obtain ⟨rfl, rfl⟩ := h2
 have := (pGet_val h1).1
 have h8 := pow_le8 hk
 show l = putI (v : Int) k ++ l1
 rw [putI_nat (by omega)]
 exact pGet_enc k l v l1 h1
theorem pI64_enc : Enc pI64 (putI · 8) := by
 intro l x l' h
 unfold pI64 at h
 obtain ⟨⟨v, l1⟩, h1, h2⟩ := Option.map_eq_some_iff.1 h
 simp only [Prod.mk.injEq] at h2
 obtain ⟨rfl, rfl⟩ := h2
 have := (pGet_val h1).1
 have h8 : (256 : Nat) ^ 8 = 18446744073709551616 := by decide
 show l = putI (asI64 v) 8 ++ l1
 have e : putI (asI64 v) 8 = putB v 8 := by
  unfold putI asI64
  split
  ·rw [show ((v : Int) % 18446744073709551616).toNat = v by omega]
  ·rw [show (((v : Int) - 18446744073709551616) % 18446744073709551616).toNat = v by omega]
 rw [e]
 exact pGet_enc 8 l v l1 h1
theorem pTimes_enc {α : Type} {p : Ps α} {e : α → List UInt8} (hp : Enc p e) : ∀ n l x l', pTimes p n l = some (x, l') → l = x.flatMap e ++ l' ∧ x.length = n
 | 0, l, x, l', h => by
  simp only [pTimes, Option.some.injEq, Prod.mk.injEq] at h
  obtain ⟨rfl, rfl⟩ := h
  simp
 | n + 1, l, x, l', h => by
  simp only [pTimes] at h
  obtain ⟨⟨y, l1⟩, h1, h2⟩ := Option.bind_eq_some_iff.1 h
  obtain ⟨⟨ys, l2⟩, h3, h4⟩ := Option.map_eq_some_iff.1 h2
  simp only [Prod.mk.injEq] at h4
  obtain ⟨rfl, rfl⟩ := h4
  obtain ⟨e1, e2⟩ := pTimes_enc hp n l1 ys l2 h3
  refine ⟨?_, by simp [e2]⟩
  rw [List.flatMap_cons, List.append_assoc, ← e1]
  exact hp l y l1 h1
theorem pAll_enc {α : Type} {p : Ps α} {e : α → List UInt8} (hp : Enc p e) {k : Nat} (hk : k ≤ 8) : Enc (pAll k p) (fun xs => putI xs.length k ++ xs.flatMap e) := by
 intro l x l' h
 unfold pAll at h
 obtain ⟨⟨n, l1⟩, h1, h2⟩ := Option.bind_eq_some_iff.1 h
 obtain ⟨e1, e2⟩ := pTimes_enc hp n l1 x l' h2
 have := (pGet_val h1).1
 have h8 := pow_le8 hk
 subst e2
 rw [pGet_enc k l _ l1 h1]
 show putB x.length k ++ l1 = (putI (x.length : Int) k ++ x.flatMap e) ++ l'
 rw [putI_nat (by omega), List.append_assoc, ← e1]
theorem pFact_enc : Enc pFact factB := by
 intro l x l' h
 unfold pFact at h
 obtain ⟨⟨k, l1⟩, h1, h2⟩ := Option.bind_eq_some_iff.1 h
 obtain ⟨⟨v, l2⟩, h3, h4⟩ := Option.map_eq_some_iff.1 h2
 simp only [Prod.mk.injEq] at h4
 obtain ⟨rfl, rfl⟩ := h4
 rw [pAll_enc (pInt_enc (by omega)) (by omega) l k l1 h1, pI64_enc l1 v l2 h3]
 simp [factB]
theorem pEnt_enc : Enc pEnt entB := by
 intro l x l' h
 unfold pEnt at h
 obtain ⟨⟨k, l1⟩, h1, h2⟩ := Option.bind_eq_some_iff.1 h
 obtain ⟨⟨v, l2⟩, h3, h4⟩ := Option.map_eq_some_iff.1 h2
 simp only [Prod.mk.injEq] at h4
 obtain ⟨rfl, rfl⟩ := h4
 rw [pInt_enc (by omega) l k l1 h1, pAll_enc pFact_enc (by omega) l1 v l2 h3]
 simp [entB, factsB]
theorem pSpan_enc : Enc pSpan spanB := by
 intro l x l' h
 unfold pSpan at h
 obtain ⟨⟨k, l1⟩, h1, h2⟩ := Option.bind_eq_some_iff.1 h
 obtain ⟨⟨v, l2⟩, h3, h4⟩ := Option.map_eq_some_iff.1 h2
 simp only [Prod.mk.injEq] at h4
 obtain ⟨rfl, rfl⟩ := h4
 rw [pInt_enc (by omega) l k l1 h1, pInt_enc (by omega) l1 v l2 h3]
 simp [spanB]
theorem pRec_enc : Enc pRec recB := by
 intro l x l' h
 unfold pRec at h
 obtain ⟨⟨k, l1⟩, h1, h2⟩ := Option.bind_eq_some_iff.1 h
 obtain ⟨⟨i, l2⟩, h3, h4⟩ := Option.bind_eq_some_iff.1 h2
 simp only at h3 h4
 rw [pInt_enc (by omega) l k l1 h1, pInt_enc (by omega) l1 i l2 h3]
 unfold pBody at h4
 by_cases k1 : k = 1
 ·subst k1
  simp only [if_true] at h4
  obtain ⟨⟨n, l3⟩, h5, h6⟩ := Option.bind_eq_some_iff.1 h4
  obtain ⟨⟨f, l4⟩, h7, h8⟩ := Option.map_eq_some_iff.1 h6
  simp only [Prod.mk.injEq] at h8
  obtain ⟨rfl, rfl⟩ := h8
  rw [pAll_enc (pInt_enc (by omega)) (by omega) l2 n l3 h5, pAll_enc pFact_enc (by omega) l3 f l4 h7]
  simp [recB, bodyB, nodesB, factsB]
 rw [if_neg k1] at h4
 by_cases k2 : k = 2
 ·subst k2
  simp only [if_true] at h4
  obtain ⟨⟨n, l3⟩, h5, h6⟩ := Option.bind_eq_some_iff.1 h4
  obtain ⟨⟨f, l4⟩, h7, h8⟩ := Option.map_eq_some_iff.1 h6
  simp only [Prod.mk.injEq] at h8
  obtain ⟨rfl, rfl⟩ := h8
  rw [pInt_enc (by omega) l2 n l3 h5, pAll_enc (pInt_enc (by omega)) (by omega) l3 f l4 h7]
  simp [recB, bodyB, nodesB]
 rw [if_neg k2] at h4
 by_cases k6 : k = 6
 ·subst k6
  simp only [if_true] at h4
  obtain ⟨⟨n, l3⟩, h5, h6⟩ := Option.bind_eq_some_iff.1 h4
  obtain ⟨⟨f, l4⟩, h7, h8⟩ := Option.map_eq_some_iff.1 h6
  simp only [Prod.mk.injEq] at h8
  obtain ⟨rfl, rfl⟩ := h8
  rw [pInt_enc (by omega) l2 n l3 h5, pAll_enc pSpan_enc (by omega) l3 f l4 h7]
  simp [recB, bodyB, mapB]
 rw [if_neg k6] at h4
 by_cases k7 : k = 7
 ·subst k7
  simp only [if_true] at h4
  obtain ⟨⟨n, l3⟩, h5, h6⟩ := Option.bind_eq_some_iff.1 h4
  obtain ⟨⟨t, l5⟩, h9, h10⟩ := Option.bind_eq_some_iff.1 h6
  obtain ⟨⟨f, l4⟩, h7, h8⟩ := Option.map_eq_some_iff.1 h10
  simp only [Prod.mk.injEq] at h8
  obtain ⟨rfl, rfl⟩ := h8
  rw [pInt_enc (by omega) l2 n l3 h5, pInt_enc (by omega) l3 t l5 h9, pAll_enc pEnt_enc (by omega) l5 f l4 h7]
  simp [recB, bodyB, entsB]
 rw [if_neg k7] at h4
 simp only [Option.some.injEq, Prod.mk.injEq] at h4
 obtain ⟨rfl, rfl⟩ := h4
 simp [recB, bodyB, k1, k2, k6, k7]

/-! ### the other way round -/
theorem pGet_dec (v k : Nat) (hv : v < 256 ^ k) (r : List UInt8) : pGet k (putB v k ++ r) = some (v, r) := by
 unfold pGet
 rw [if_pos (by rw [List.length_append, putB_len]; omega)]
 obtain ⟨e1, e2⟩ := putB_append v k r
 rw [e1, e2, valB_put, Nat.mod_eq_of_lt hv]
theorem pInt_dec {k : Nat} (hk : k ≤ 8) : Dec (pInt k) (putI · k) (fun x => 0 ≤ x ∧ x < 256 ^ k) := by
 intro x hx r
 obtain ⟨n, rfl⟩ : ∃ n : Nat, x = (n : Int) := ⟨x.toNat, by omega⟩
 have h8 := pow_le8 hk
 have e : ((256 ^ k : Nat) : Int) = (256 : Int) ^ k := by simp
 have hn : n < 256 ^ k := by omega
 show pInt k (putI (n : Int) k ++ r) = _
 rw [putI_nat (by omega)]
 unfold pInt
 rw [pGet_dec n k hn]; rfl
theorem pI64_dec : Dec pI64 (putI · 8) I64 := by
 intro x hx r
 unfold pI64
 show (pGet 8 (putI x 8 ++ r)).map _ = _
 unfold putI
 have h8 : (256 : Nat) ^ 8 = 18446744073709551616 := by decide
 rw [pGet_dec _ 8 (by omega)]
 have := asI64_back hx
 rw [Nat.mod_eq_of_lt (by omega)] at this
 simp only [Option.map_some, this]
theorem pTimes_dec {α : Type} {p : Ps α} {e : α → List UInt8} {ok : α → Prop} (hp : Dec p e ok) : ∀ (l : List α), (∀ x ∈ l, ok x) → ∀ r, pTimes p l.length (l.flatMap e ++ r) = some (l, r)
 | [], _, r => rfl
 | x :: l, h, r => by
  rw [List.flatMap_cons, List.append_assoc]
  simp only [List.length_cons, pTimes]
  rw [hp x (h x (by simp))]
  simp only [Option.bind_some]
  rw [pTimes_dec hp l fun y hy => h y (by simp [hy])]
  rfl
theorem pAll_dec {α : Type} {p : Ps α} {e : α → List UInt8} {ok : α → Prop} (hp : Dec p e ok) {k : Nat} (hk : k ≤ 8) : Dec (pAll k p) (fun xs => putI xs.length k ++ xs.flatMap e) (fun xs => xs.length < 256 ^ k ∧ ∀ x ∈ xs, ok x) := by
 intro l hl r
 have h8 := pow_le8 hk
 unfold pAll
 show ((pGet k ((putI (l.length : Int) k ++ l.flatMap e) ++ r)).bind fun y => pTimes p y.1 y.2) = _
 rw [putI_nat (by omega), List.append_assoc, pGet_dec _ k hl.1]
 simp only [Option.bind_some]
 exact pTimes_dec hp l hl.2 r
theorem p1_dec : Dec (pInt 1) (putI · 1) (fun x => 0 ≤ x ∧ x ≤ 255) := fun x hx r => pInt_dec (by omega) x (by rw [pow1]; omega) r
theorem p4_dec : Dec (pInt 4) (putI · 4) U32 := fun x hx r => pInt_dec (by omega) x (by rw [pow4]; unfold U32 at hx; omega) r
theorem pFact_dec : Dec pFact factB (fun f => keyOk f.1 = true ∧ I64 f.2) := by
 intro f h r
 obtain ⟨k, v⟩ := f
 obtain ⟨h1, h2⟩ := keyOk_iff.1 h.1
 have h2' : k.length ≤ 4 := h2
 have e : factB (k, v) ++ r = (putI k.length 1 ++ k.flatMap (putI · 4)) ++ (putI v 8 ++ r) := by simp [factB]
 unfold pFact
 rw [e, pAll_dec p4_dec (by omega) k ⟨by rw [Nat.pow_one]; omega, fun x hx => by have := h1 x hx; unfold U32; omega⟩]
 simp only [Option.bind_some]
 rw [pI64_dec v h.2]
 rfl
theorem pow4n : (256 : Nat) ^ 4 = 4294967296 := by decide
theorem pFacts_dec : Dec (pAll 4 pFact) factsB (fun l => factsOk l = true ∧ ∀ f ∈ l, I64 f.2) := by
 intro l h r
 obtain ⟨h1, h2⟩ := factsOk_iff.1 h.1
 exact pAll_dec pFact_dec (by omega) l ⟨by rw [pow4n]; omega, fun f hf => ⟨h1 f hf, h.2 f hf⟩⟩ r
theorem pNodes_dec : Dec (pAll 1 (pInt 1)) nodesB (fun l => nodesOk l = true) := by
 intro l h r
 have hf := nodesOk_few h
 exact pAll_dec p1_dec (by omega) l ⟨by rw [Nat.pow_one]; omega, fun x hx => by have := nodesOk_all h x hx; omega⟩ r
theorem pEnt_dec : Dec pEnt entB (fun e => U32 e.1 ∧ factsOk e.2 = true ∧ ∀ f ∈ e.2, I64 f.2) := by
 intro e h r
 obtain ⟨a, l⟩ := e
 unfold pEnt entB
 rw [List.append_assoc, p4_dec a h.1]
 simp only [Option.bind_some]
 rw [pFacts_dec l h.2]
 rfl
theorem pEnts_dec : Dec (pAll 4 pEnt) entsB (fun l => entsOk l = true ∧ ∀ e ∈ l, U32 e.1 ∧ ∀ f ∈ e.2, I64 f.2) := by
 intro l h r
 obtain ⟨h1, h2⟩ := entsOk_iff h.1
 exact pAll_dec pEnt_dec (by omega) l ⟨by rw [pow4n]; omega, fun e he => ⟨(h.2 e he).1, h1 e he, (h.2 e he).2⟩⟩ r
theorem pSpan_dec : Dec pSpan spanB (fun s => (0 ≤ s.1 ∧ s.1 ≤ 9999) ∧ 0 ≤ s.2 ∧ s.2 ≤ 5) := by
 intro s h r
 obtain ⟨a, b⟩ := s
 obtain ⟨h1, h2⟩ := h
 have h1' : 0 ≤ a ∧ a ≤ 9999 := h1
 have h2' : 0 ≤ b ∧ b ≤ 5 := h2
 unfold pSpan spanB
 rw [List.append_assoc, p4_dec a (by unfold U32; omega)]
 simp only [Option.bind_some]
 rw [p1_dec b (by omega)]
 rfl
theorem pSpans_dec : Dec (pAll 1 pSpan) (fun l => putI l.length 1 ++ l.flatMap spanB) (fun l => spansOk l = true) := by
 intro l h r
 obtain ⟨h1, h2⟩ := spansOk_iff.1 h
 exact pAll_dec pSpan_dec (by omega) l ⟨by rw [Nat.pow_one]; omega, h1⟩ r
theorem pRec_dec (x : PRec) (h : sndRec x = true) (ht : Typed x) (r : List UInt8) : pRec (recB x ++ r) = some (x, r) := by
 obtain ⟨kind, id, at_, nodes, facts, epoch, spans, frm, to, ents⟩ := x
 have hk := ht.kind
 have hid := ht.id
 have hat := ht.at_
 have hep := ht.epoch
 have hfa := ht.facts
 have hen := ht.ents
 simp only at hk hid hat hep hfa hen
 unfold recB pRec
 simp only [List.append_assoc]
 rw [p1_dec kind hk]
 simp only [Option.bind_some]
 rw [p4_dec id hid]
 simp only [Option.bind_some]
 simp only [sndRec, bareI, bareA, bareN, bareF, bareM, bareR] at h
 unfold bodyB pBody
 simp only
 by_cases k1 : kind = 1
 ·subst k1
  simp only [if_true, Bool.and_eq_true, decide_eq_true_eq, List.length_eq_zero_iff] at h ⊢
  obtain ⟨⟨rfl, ⟨rfl, rfl⟩, rfl, rfl, rfl⟩, hn, hf⟩ := h
  rw [List.append_assoc, pNodes_dec nodes hn]
  simp only [Option.bind_some]
  rw [pFacts_dec facts ⟨hf, hfa⟩]; rfl
 rw [if_neg k1] at h
 rw [if_neg k1, if_neg k1]
 by_cases k2 : kind = 2
 ·subst k2
  simp only [if_true, Bool.and_eq_true, decide_eq_true_eq, List.length_eq_zero_iff] at h ⊢
  obtain ⟨⟨rfl, ⟨rfl, rfl⟩, rfl, rfl, rfl⟩, hn⟩ := h
  rw [List.append_assoc, p4_dec at_ hat]
  simp only [Option.bind_some]
  rw [pNodes_dec nodes hn]; rfl
 rw [if_neg k2] at h
 rw [if_neg k2, if_neg k2]
 by_cases k3 : kind = 3 ∨ kind = 4 ∨ kind = 5
 ·rw [if_pos k3] at h
  rw [if_neg (by omega), if_neg (by omega), if_neg (by omega), if_neg (by omega)]
  simp only [Bool.and_eq_true, decide_eq_true_eq, List.length_eq_zero_iff] at h
  obtain ⟨rfl, rfl, rfl, ⟨rfl, rfl⟩, rfl, rfl, rfl⟩ := h
  rw [List.nil_append]
 rw [if_neg k3] at h
 by_cases k6 : kind = 6
 ·subst k6
  simp only [if_true, Bool.and_eq_true, decide_eq_true_eq, List.length_eq_zero_iff] at h ⊢
  obtain ⟨⟨rfl, rfl, rfl, rfl, rfl, rfl, rfl⟩, hs⟩ := h
  unfold mapB
  rw [List.append_assoc, p4_dec epoch hep]
  simp only [Option.bind_some]
  rw [pSpans_dec spans hs]; rfl
 rw [if_neg k6] at h
 rw [if_neg k6, if_neg k6]
 by_cases k7 : kind = 7
 ·subst k7
  simp only [if_true, Bool.and_eq_true, decide_eq_true_eq, List.length_eq_zero_iff] at h ⊢
  obtain ⟨⟨rfl, rfl, rfl, rfl, rfl⟩, he, hf, ht'⟩ := h
  rw [List.append_assoc, p4_dec frm (by unfold U32; omega)]
  simp only [Option.bind_some]
  rw [List.append_assoc, p4_dec to (by unfold U32; omega)]
  simp only [Option.bind_some]
  rw [pEnts_dec ents ⟨he, hen⟩]; rfl
 rw [if_neg k7] at h
 cases h
end code
end Go.Proofs.YtlcjllgfpfldlaaGreat
