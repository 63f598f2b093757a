/-
 What the walks of the statements over a log share.
 Two disks side by side under two logs: what the walks of WalOpens and WalDoes share.
-/
import Derived.Test.YtlcjllgfpfldlaaGreatWalZ46K
import Derived.Test.YtlcjllgfpfldlaaGreatWalZ47K
namespace Go.Proofs.YtlcjllgfpfldlaaGreat.wal
open Go.ChangeShapes Go.WideShapes Go.ChangeAt Go.RowKit Go.Deep
open Go.Proofs.YtlcjllgfpfldlaaGreat.code (Rc PRec pr rcC rcV RecIn OwnIn sndRec recB dec dec_recB Far far_row I64)
open Go.Proofs.YtlcjllgfpfldlaaGreat.bytes
open Go.Proofs.YtlcjllgfpfldlaaGreat.disk
open Go.Proofs.YtlcjllgfpfldlaaGreat.frame (scanB rowsB wrapB wrapB_len)
set_option linter.unusedVariables false
set_option maxRecDepth 100000
set_option linter.unusedSimpArgs false

theorem RsOwn.at_ {B n c : Nat} {W : World} {a : Option Addr} {rs : List Rc} (h : RsOwn B W (.slice a n c) rs) : n = rs.length ∧ RsIn W a rs := by
 obtain ⟨a2, c2, e, -, -, hi⟩ := h.rsIn
 injection e with e1 e2 e3
 subst e1
 exact ⟨e2, hi⟩
theorem snd_all {rs : List Rc} {xs : List PRec} (h : rs.map pr = xs) (h2 : ∀ x ∈ xs, sndRec x = true) : ∀ r ∈ rs, sndRec (pr r) = true := fun r hr => h2 _ (by rw [← h]; exact List.mem_map_of_mem hr)
theorem read_str {B k : Nat} {P : World → Dk → Prop} (hD : Dsk B k P) (w : World) (d : Dk) (hp : P w d) (l : List UInt8) (hl : d.b = l) : Calls Tryz.prog 21 #[.pointer (some ⟨k, 0, none⟩)] w fun e w' => ∃ v, e = .returned v ∧ (∀ q, (convert 54 9 v).run Tryz.prog (w'.drewN q) = .ok (.string ⟨l.toArray⟩) (w'.drewN q)) ∧ (convert 54 9 v).run Tryz.prog w' = .ok (.string ⟨l.toArray⟩) w' ∧ Below w.heap.size w w' := by
 subst hl
 refine (hD.hRead w d hp).mono fun e w' ⟨a, c, he, hS, hb⟩ => ⟨_, he, fun q => ?_, str_of hS.at_.mem _ _ hS.at_.len, hb⟩
 exact str_of (show ByIn (w'.drewN q) a d.b from hS.at_.mem) _ _ hS.at_.len
end Go.Proofs.YtlcjllgfpfldlaaGreat.wal

namespace Go.Proofs.YtlcjllgfpfldlaaGreat.wal
open Go.ChangeShapes Go.WideShapes Go.ChangeAt Go.RowKit Go.Deep
open Go.Proofs.YtlcjllgfpfldlaaGreat.code (Rc PRec pr rcC rcV RecIn OwnIn Far sndRec recB dec dec_is)
open Go.Proofs.YtlcjllgfpfldlaaGreat.bytes
open Go.Proofs.YtlcjllgfpfldlaaGreat.disk
open Go.Proofs.YtlcjllgfpfldlaaGreat.frame (scanB rowsB wrapB wrapB_len)
set_option linter.unusedVariables false
set_option maxRecDepth 100000
set_option linter.unusedSimpArgs false

theorem two_new {B k1 m : Nat} {w : World} (h1 : DkIn 65 B w k1 (.slice none 0 0) (new m)) (hm : m ≤ 1048576) :
  Calls Tryz.prog 8 #[.int .i64 (m : Nat)] w fun e w' => e = .returned (.pointer (some ⟨w.heap.size, 0, none⟩)) ∧ Two B w' k1 w.heap.size (new m) (new m) ∧ Below w.heap.size w w' :=
 (refNew_any B m w hm h1.base).mono fun e w' ⟨h2, h3, h4⟩ => ⟨h2, ⟨_, _, h1.keep h4, h3, fun q hq => by cases hq⟩, h4⟩
theorem rec_snd {l : List (List UInt8)} : ∀ x ∈ recs dec l, sndRec x = true := fun x hx => by
 obtain ⟨y, -, hy⟩ := recs_mem hx
 exact (dec_is hy).2
theorem own_len2 {B n c : Nat} {w : World} {a : Option Addr} {rs : List Rc} (h : RsOwn B w (.slice a n c) rs) : n ≤ 9223372036854775807 := by
 obtain ⟨a2, c2, e, h1, h2, -⟩ := h.rsIn
 injection e with _ e2 _
 omega
theorem same_yes {B1 B2 n m c d : Nat} {w : World} {a b : Option Addr} {rs ss : List Rc} {xs : List PRec} (h1 : RsOwn B1 w (.slice a n c) rs) (h2 : RsOwn B2 w (.slice b m d) ss) (e1 : rs.map pr = xs) (e2 : ss.map pr = xs) (hs : ∀ x ∈ xs, sndRec x = true) (W : World) (hW : Below w.heap.size w W) :
  Calls Tryz.prog 20 #[.slice a n c, .slice b m d] W fun e w' => e = .returned (.bool true) ∧ Aside (Below w.heap.size w w') := by
 have q1 := own_len2 h1
 have q2 := own_len2 h2
 refine (lawSame_any n m c d a b rs ss W (h1.keep hW).at_.2 (h2.keep hW).at_.2 h1.at_.1.symm h2.at_.1.symm q1 q2 (snd_all e1 hs) (snd_all e2 hs)).mono fun e w' ⟨t, he, ht, hb⟩ => ?_
 obtain rfl := ht.2 (e1.trans e2.symm)
 exact ⟨he, hW.trans (hb.mono hW.size)⟩
/-- the disk's bytes, in any world above -/
theorem read_up {B k : Nat} {P : World → Dk → Prop} (hD : Dsk B k P) {w : World} {d : Dk} (hp : P w d) {l : List UInt8} (hl : d.b = l) (W : World) (hW : Below w.heap.size w W) : Calls Tryz.prog 21 #[.pointer (some ⟨k, 0, none⟩)] W fun e w' => ∃ v, e = .returned v ∧ Aside (Below w.heap.size w w') ∧ (convert 54 9 v).run Tryz.prog w' = .ok (.string ⟨l.toArray⟩) w' :=
 (read_str hD W d (hD.keep _ _ _ hp hW) l hl).mono fun e w' ⟨v, h1, _, h2, h3⟩ => ⟨v, h1, hW.trans (h3.mono hW.size), h2⟩
/-- the chapter's disk's bytes, as they lie, in any world above -/
theorem cell_up {B k : Nat} {P : World → Dk → Prop} (hD : RDsk B k P) {w : World} {d : Dk} (hp : P w d) {l : List UInt8} (hl : d.b = l) : ∃ a n c, ∀ W, Below w.heap.size w W → W.cell? ⟨k, 0, none⟩ = some (.slice a n c) ∧ (convert 54 9 (.slice a n c)).run Tryz.prog W = .ok (.string ⟨l.toArray⟩) W := by
 subst hl
 obtain ⟨a, c, h1, h2⟩ := hD.cell _ _ hp
 refine ⟨a, d.b.length, c, fun W hW => ⟨(hW.cell (p := ⟨k, 0, none⟩) (cell_lt h1)).trans h1, ?_⟩⟩
 exact str_of (h2.keep hW).at_.mem _ _ rfl
end Go.Proofs.YtlcjllgfpfldlaaGreat.wal
