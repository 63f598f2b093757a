/-
  Records as bytes, plain: numbers of so many bytes, nodes, facts, entries, maps, records; what may be; the chapter's reader. Nothing of the program.
-/
import Derived.RowKit
namespace Go.Proofs.Ytfhihkogdnbghaa.code
set_option linter.unusedVariables false
set_option maxRecDepth 100000

/-- a number as so many bytes, the most significant first -/
def putB (v : Nat) : Nat → List UInt8
  | 0 => []
  | k + 1 => UInt8.ofNat (v / 256 ^ k) :: putB v k
theorem putB_len (v : Nat) : ∀ k, (putB v k).length = k
  | 0 => rfl
  | k + 1 => by simp [putB, putB_len v k]
/-- what bytes come to -/
def valB (l : List UInt8) : Nat := l.foldl (fun n b => n * 256 + b.toNat) 0
theorem valB_acc (l : List UInt8) (a : Nat) : l.foldl (fun n b => n * 256 + b.toNat) a = a * 256 ^ l.length + valB l := by
  induction l generalizing a with
  | nil => simp [valB]
  | cons b l ih =>
    unfold valB
    rw [List.foldl_cons, List.foldl_cons, ih, ih (0 * 256 + b.toNat), List.length_cons, Nat.pow_succ]
    rw [Nat.add_mul, Nat.mul_assoc, Nat.mul_comm 256 (256 ^ l.length), Nat.zero_mul, Nat.zero_add]
    omega
theorem valB_cons (b : UInt8) (l : List UInt8) : valB (b :: l) = b.toNat * 256 ^ l.length + valB l := by
  unfold valB
  rw [List.foldl_cons, valB_acc]
  simp [valB]
theorem valB_lt (l : List UInt8) : valB l < 256 ^ l.length := by
  induction l with
  | nil => simp [valB]
  | cons b l ih =>
    rw [valB_cons, List.length_cons, Nat.pow_succ]
    have hb := b.toNat_lt
    have : (b.toNat + 1) * 256 ^ l.length ≤ 256 * 256 ^ l.length := Nat.mul_le_mul_right _ (by omega)
    rw [Nat.add_mul] at this
    omega
theorem valB_put (v : Nat) : ∀ k, valB (putB v k) = v % 256 ^ k
  | 0 => by simp [putB, valB, Nat.mod_one]
  | k + 1 => by
    rw [putB, valB_cons, putB_len, valB_put v k]
    have e : (UInt8.ofNat (v / 256 ^ k)).toNat = v / 256 ^ k % 256 := by simp
    rw [e, Nat.pow_succ, Nat.mod_mul, Nat.mul_comm]
    omega
theorem putB_append (v : Nat) (k : Nat) (r : List UInt8) : (putB v k ++ r).take k = putB v k ∧ (putB v k ++ r).drop k = r := by
  have h := putB_len v k
  constructor
  · rw [List.take_append_of_le_length (by omega), List.take_of_length_le (by omega)]
  · rw [List.drop_append_of_le_length (by omega), List.drop_of_length_le (by omega), List.nil_append]

/-- an int as so many bytes -/
def putI (x : Int) (k : Nat) : List UInt8 := putB (x % 18446744073709551616).toNat k
theorem putI_len (x : Int) (k : Nat) : (putI x k).length = k := putB_len _ _
theorem valB_putI {x : Int} {k : Nat} (h0 : 0 ≤ x) (h1 : x < 18446744073709551616) (hk : x < 256 ^ k) : (valB (putI x k) : Int) = x := by
  unfold putI
  rw [valB_put, Int.emod_eq_of_lt h0 h1, Nat.mod_eq_of_lt]
  · omega
  · have e : ((256 ^ k : Nat) : Int) = (256 : Int) ^ k := by simp
    omega

abbrev PFact := List Int × Int
abbrev PEnt := Int × List PFact
abbrev PSpan := Int × Int
structure PRec where
  kind : Int
  id : Int
  at_ : Int
  nodes : List Int
  facts : List PFact
  epoch : Int
  spans : List PSpan
  frm : Int
  to : Int
  ents : List PEnt

def nodesB (l : List Int) : List UInt8 := putI l.length 1 ++ l.flatMap (putI · 1)
def factB (f : PFact) : List UInt8 := putI f.1.length 1 ++ (f.1.flatMap (putI · 4) ++ putI f.2 8)
def factsB (l : List PFact) : List UInt8 := putI l.length 4 ++ l.flatMap factB
def entB (e : PEnt) : List UInt8 := putI e.1 4 ++ factsB e.2
def entsB (l : List PEnt) : List UInt8 := putI l.length 4 ++ l.flatMap entB
def spanB (s : PSpan) : List UInt8 := putI s.1 4 ++ putI s.2 1
def mapB (ep : Int) (l : List PSpan) : List UInt8 := putI ep 4 ++ (putI l.length 1 ++ l.flatMap spanB)
def bodyB (r : PRec) : List UInt8 :=
  if r.kind = 1 then nodesB r.nodes ++ factsB r.facts
  else if r.kind = 2 then putI r.at_ 4 ++ nodesB r.nodes
  else if r.kind = 6 then mapB r.epoch r.spans
  else if r.kind = 7 then putI r.frm 4 ++ (putI r.to 4 ++ entsB r.ents)
  else []
def recB (r : PRec) : List UInt8 := putI r.kind 1 ++ (putI r.id 4 ++ bodyB r)

/-! ### what may be -/
def nodesOk : List Int → Bool
  | [] => true
  | x :: l => decide (0 ≤ x ∧ x ≤ 5) && (match l with | [] => true | y :: _ => decide (x < y)) && nodesOk l
def keyOk (k : List Int) : Bool := (k.all fun v => decide (0 ≤ v ∧ v ≤ 9999)) && decide (k.length ≤ 4)
def factsOk (l : List PFact) : Bool := (l.all fun f => keyOk f.1) && decide (l.length ≤ 200)
def entsUp : List PEnt → Bool
  | [] => true
  | x :: l => factsOk x.2 && (match l with | [] => true | y :: _ => decide (x.1 < y.1)) && entsUp l
def entsOk (l : List PEnt) : Bool := entsUp l && decide (l.length ≤ 5000)
def spansOk (l : List PSpan) : Bool := (l.all fun s => decide (0 ≤ s.1 ∧ s.1 ≤ 9999) && decide (0 ≤ s.2 ∧ s.2 ≤ 5)) && decide (l.length ≤ 40)
def bareI (r : PRec) : Bool := decide (r.id = 0)
def bareA (r : PRec) : Bool := decide (r.at_ = 0)
def bareN (r : PRec) : Bool := decide (r.nodes.length = 0)
def bareF (r : PRec) : Bool := decide (r.facts.length = 0)
def bareM (r : PRec) : Bool := decide (r.epoch = 0) && decide (r.spans.length = 0)
def bareR (r : PRec) : Bool := decide (r.frm = 0) && (decide (r.to = 0) && decide (r.ents.length = 0))
def sndRec (r : PRec) : Bool :=
  if r.kind = 1 then (bareA r && (bareM r && bareR r)) && (nodesOk r.nodes && factsOk r.facts)
  else if r.kind = 2 then (bareF r && (bareM r && bareR r)) && nodesOk r.nodes
  else if r.kind = 3 ∨ r.kind = 4 ∨ r.kind = 5 then bareA r && (bareN r && (bareF r && (bareM r && bareR r)))
  else if r.kind = 6 then (bareI r && (bareA r && (bareN r && (bareF r && bareR r)))) && spansOk r.spans
  else if r.kind = 7 then (bareA r && (bareN r && (bareF r && bareM r))) && (entsOk r.ents && (decide (0 ≤ r.frm ∧ r.frm ≤ 10000) && decide (0 ≤ r.to ∧ r.to ≤ 10000)))
  else false
/-- what the types hold -/
def U32 (x : Int) : Prop := 0 ≤ x ∧ x ≤ 4294967295
def I64 (x : Int) : Prop := -9223372036854775808 ≤ x ∧ x ≤ 9223372036854775807
structure Typed (r : PRec) : Prop where
  kind : 0 ≤ r.kind ∧ r.kind ≤ 255
  id : U32 r.id
  at_ : U32 r.at_
  epoch : U32 r.epoch
  facts : ∀ f ∈ r.facts, I64 f.2
  ents : ∀ e ∈ r.ents, U32 e.1 ∧ ∀ f ∈ e.2, I64 f.2

/-! ### the chapter's reader -/
abbrev Rd := List UInt8 × Bool
def rdGet (k : Nat) (s : Rd) : Nat × Rd := if s.2 = true ∨ s.1.length < k then (0, (s.1, true)) else (valB (s.1.take k), (s.1.drop k, false))
def rdMany (k least : Nat) (s : Rd) : Nat × Rd :=
  let g := rdGet k s
  if g.2.1.length / least < g.1 then (0, (g.2.1, true)) else g
def rdTimes {α : Type} (p : Rd → α × Rd) : Nat → Rd → List α × Rd
  | 0, s => ([], s)
  | n + 1, s => let x := p s; let y := rdTimes p n x.2; (x.1 :: y.1, y.2)
/-- till something is missing -/
def rdWhile {α : Type} (p : Rd → α × Rd) : Nat → Rd → List α × Rd
  | 0, s => ([], s)
  | n + 1, s => if s.2 = true then ([], s) else let x := p s; let y := rdWhile p n x.2; (x.1 :: y.1, y.2)
def rdInt (k : Nat) (s : Rd) : Int × Rd := ((rdGet k s).1, (rdGet k s).2)
/-- two's complement -/
def asI64 (n : Nat) : Int := if n < 9223372036854775808 then (n : Int) else (n : Int) - 18446744073709551616
def rdNodes (s : Rd) : List Int × Rd := let m := rdMany 1 1 s; rdTimes (rdInt 1) m.1 m.2
def rdFact (s : Rd) : PFact × Rd :=
  let m := rdMany 1 4 s
  let k := rdTimes (rdInt 4) m.1 m.2
  let v := rdGet 8 k.2
  ((k.1, asI64 v.1), v.2)
def rdFacts (s : Rd) : List PFact × Rd := let m := rdMany 4 9 s; rdWhile rdFact m.1 m.2
def rdEnt (s : Rd) : PEnt × Rd := let a := rdInt 4 s; let f := rdFacts a.2; ((a.1, f.1), f.2)
def rdEnts (s : Rd) : List PEnt × Rd := let m := rdMany 4 8 s; rdWhile rdEnt m.1 m.2
def rdSpan (s : Rd) : PSpan × Rd := let a := rdInt 4 s; let b := rdInt 1 a.2; ((a.1, b.1), b.2)
def rdSpans (s : Rd) : List PSpan × Rd := let m := rdMany 1 5 s; rdTimes rdSpan m.1 m.2

/-- a reader that comes back from bytes -/
def Back {α : Type} (p : Rd → α × Rd) (e : α → List UInt8) (ok : α → Prop) : Prop := ∀ x, ok x → ∀ r, p (e x ++ r, false) = (x, (r, false))
theorem rdGet_put {x : Int} {k : Nat} (h0 : 0 ≤ x) (h1 : x < 18446744073709551616) (hk : x < 256 ^ k) (r : List UInt8) : rdGet k (putI x k ++ r, false) = (x.toNat, (r, false)) := by
  unfold rdGet
  rw [if_neg (by simp [putI_len])]
  obtain ⟨e1, e2⟩ := putB_append (x % 18446744073709551616).toNat k r
  have e3 := valB_putI h0 h1 hk
  unfold putI at e3 ⊢
  simp only [e1, e2]
  rw [show valB (putB (x % 18446744073709551616).toNat k) = x.toNat by omega]
theorem rdInt_back {k : Nat} (ok : Int → Prop) (h : ∀ x, ok x → 0 ≤ x ∧ x < 18446744073709551616 ∧ x < 256 ^ k) : Back (rdInt k) (putI · k) ok := fun x hx r => by
  obtain ⟨h0, h1, h2⟩ := h x hx
  unfold rdInt
  simp only [rdGet_put h0 h1 h2 r]
  rw [show ((x.toNat : Nat) : Int) = x by omega]
theorem rdTimes_back {α : Type} {p : Rd → α × Rd} {e : α → List UInt8} {ok : α → Prop} (h : Back p e ok) (l : List α) (hl : ∀ x ∈ l, ok x) (r : List UInt8) : rdTimes p l.length (l.flatMap e ++ r, false) = (l, (r, false)) := by
  induction l with
  | nil => rfl
  | cons x l ih =>
    rw [List.flatMap_cons, List.append_assoc]
    simp only [List.length_cons, rdTimes]
    rw [h x (hl x (by simp))]
    simp only
    rw [ih fun y hy => hl y (by simp [hy])]
theorem rdWhile_back {α : Type} {p : Rd → α × Rd} {e : α → List UInt8} {ok : α → Prop} (h : Back p e ok) (l : List α) (hl : ∀ x ∈ l, ok x) (r : List UInt8) : rdWhile p l.length (l.flatMap e ++ r, false) = (l, (r, false)) := by
  induction l with
  | nil => rfl
  | cons x l ih =>
    rw [List.flatMap_cons, List.append_assoc]
    simp only [List.length_cons, rdWhile]
    rw [if_neg (by simp), h x (hl x (by simp))]
    simp only
    rw [ih fun y hy => hl y (by simp [hy])]
theorem flat_least {α : Type} {e : α → List UInt8} {m : Nat} (h : ∀ x, m ≤ (e x).length) (l : List α) : l.length * m ≤ (l.flatMap e).length := by
  induction l with
  | nil => simp
  | cons x l ih =>
    rw [List.flatMap_cons, List.length_append, List.length_cons, Nat.add_mul]
    have := h x
    omega
theorem rdMany_put {α : Type} {e : α → List UInt8} {k least : Nat} (l : List α) (hm : 1 ≤ least) (h : ∀ x, least ≤ (e x).length) (hk : (l.length : Int) < 256 ^ k) (h64 : (l.length : Int) < 18446744073709551616) (r : List UInt8) : rdMany k least (putI l.length k ++ (l.flatMap e ++ r), false) = (l.length, (l.flatMap e ++ r, false)) := by
  unfold rdMany
  rw [rdGet_put (by omega) h64 hk]
  simp only
  rw [show ((l.length : Nat) : Int).toNat = l.length by omega]
  have h1 := flat_least h l
  rw [if_neg]
  have h2 : l.length ≤ (l.flatMap e ++ r).length / least := (Nat.le_div_iff_mul_le (by omega)).2 (by rw [List.length_append]; omega)
  omega
end Go.Proofs.Ytfhihkogdnbghaa.code
