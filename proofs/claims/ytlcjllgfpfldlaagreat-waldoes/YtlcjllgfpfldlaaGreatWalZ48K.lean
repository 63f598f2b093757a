/-
 What the walks of the statements over a log share.
 Two disks side by side under two logs: what the walks of WalOpens and WalDoes share.
-/
import Derived.Test.YtlcjllgfpfldlaaGreatWalZ46K
import Derived.Test.YtlcjllgfpfldlaaGreatWalZ47K
open Go.ChangeShapes Go.WideShapes Go.ChangeAt Go.RowKit Go.Deep
set_option linter.unusedVariables false
set_option maxRecDepth 100000
set_option linter.unusedSimpArgs false
namespace Go.Proofs.YtlcjllgfpfldlaaGreat
namespace wal
open code (Rc PRec pr sndRec dec)
open bytes
open disk

theorem RsOwn.at_ {B n c : Nat} {W : World} {a : Option Addr} {rs : List Rc} (h : RsOwn B W (.slice a n c) rs) : n = rs.length ∧ RsIn W a rs := by
 obtain ⟨a2, c2, e, -, -, hi⟩ := h.rsIn
 injection e with e1 e2 e3
 subst e1
 exact ⟨e2, hi⟩
theorem snd_all {rs : List Rc} {xs : List PRec} (h : rs.map pr = xs) (h2 : ∀ x ∈ xs, sndRec x = true) : ∀ r ∈ rs, sndRec (pr r) = true := fun r hr => h2 _ (by rw [← h]; exact List.mem_map_of_mem hr)
theorem wp_at {W : World} {a : Option Addr} {os : List Wop} (h : OpsIn W a os) {k : Nat} (hk : k < os.length) : ∃ b off, a = some ⟨b, off, none⟩ ∧ (∀ j x, (wpL (wopn os k))[j]? = some x → W.cell? ⟨b, off + k * 13 + j, none⟩ = some x) ∧ WopOk W (wopn os k) := by
 obtain ⟨b, off, ha, hc⟩ := h.get hk
 exact ⟨b, off, ha, (hc k hk).1, (hc k hk).2⟩
theorem wps_at {W : World} {b off k : Nat} {o : Wop} (h : ∀ j x, (wpL o)[j]? = some x → W.cell? ⟨b, off + k * 13 + j, none⟩ = some x) : W.cell? ⟨b, off + k * 13, none⟩ = some (.int .u8 o.q) ∧ W.cell? ⟨b, off + k * 13 + 1, none⟩ = some (.int .u8 o.r.kind) ∧ W.cell? ⟨b, off + k * 13 + 2, none⟩ = some (.int .u32 o.r.id) ∧ W.cell? ⟨b, off + k * 13 + 3, none⟩ = some (.int .u32 o.r.at_) ∧ W.cell? ⟨b, off + k * 13 + 4, none⟩ = some (.slice o.r.na o.r.nodes.length o.r.nc) ∧ W.cell? ⟨b, off + k * 13 + 5, none⟩ = some (.slice o.r.fa o.r.facts.length o.r.fc) ∧ W.cell? ⟨b, off + k * 13 + 6, none⟩ = some (.int .u32 o.r.epoch) ∧ W.cell? ⟨b, off + k * 13 + 7, none⟩ = some (.slice o.r.sa o.r.spans.length o.r.sc) ∧ W.cell? ⟨b, off + k * 13 + 8, none⟩ = some (.int .i64 o.r.frm) ∧ W.cell? ⟨b, off + k * 13 + 9, none⟩ = some (.int .i64 o.r.til) ∧ W.cell? ⟨b, off + k * 13 + 10, none⟩ = some (.slice o.r.ea o.r.ents.length o.r.ec) ∧ W.cell? ⟨b, off + k * 13 + 11, none⟩ = some (.int .u8 o.wh) ∧ W.cell? ⟨b, off + k * 13 + 12, none⟩ = some (.int .i64 o.n) :=
 ⟨h 0 _ rfl, h 1 _ rfl, h 2 _ rfl, h 3 _ rfl, h 4 _ rfl, h 5 _ rfl, h 6 _ rfl, h 7 _ rfl, h 8 _ rfl, h 9 _ rfl, h 10 _ rfl, h 11 _ rfl, h 12 _ rfl⟩
theorem read_str {B k : Nat} {P : World → Dk → Prop} (hD : Dsk B k P) (w : World) (d : Dk) (hp : P w d) (l : List UInt8) (hl : d.b = l) : Calls Tryz.prog 21 #[.pointer (some ⟨k, 0, none⟩)] w fun e w' => ∃ v, e = .returned v ∧ (∀ q, (convert 54 9 v).run Tryz.prog (w'.drewN q) = .ok (.string ⟨l.toArray⟩) (w'.drewN q)) ∧ (convert 54 9 v).run Tryz.prog w' = .ok (.string ⟨l.toArray⟩) w' ∧ Below w.heap.size w w' := by
 subst hl
 refine (hD.hRead w d hp).mono fun e w' ⟨a, c, he, hS, hb⟩ => ⟨_, he, fun q => ?_, str_of hS.at_.mem _ _ hS.at_.len, hb⟩
 exact str_of (show ByIn (w'.drewN q) a d.b from hS.at_.mem) _ _ hS.at_.len
theorem open_crash {d : Dk} (hf : Fit d) (keep : Int) : openD dec (crash keep d) = ((openD dec (crash keep d)).1, 0) := by
 have h := (hf.crash keep).lasts
 exact Prod.ext rfl (by rw [open_free rfl h])
end wal
namespace wal
open code (Rc PRec pr sndRec dec dec_is)
open bytes
open disk

theorem two_new {B k1 m : Nat} {w : World} (h1 : DkIn 65 B w k1 (.slice none 0 0) (new m)) (hm : m ≤ 1048576) :
  Calls Tryz.prog 8 #[.int .i64 (m : Nat)] w fun e w' => e = .returned (.pointer (some ⟨w.heap.size, 0, none⟩)) ∧ Two B w' k1 w.heap.size (new m) (new m) ∧ Below w.heap.size w w' :=
 (refNew_any B m w hm h1.base).mono fun e w' ⟨h2, h3, h4⟩ => ⟨h2, ⟨_, _, h1.keep h4, h3, fun q hq => by cases hq⟩, h4⟩
theorem rec_snd {l : List (List UInt8)} : ∀ x ∈ recs dec l, sndRec x = true := fun x hx => by
 obtain ⟨y, -, hy⟩ := recs_mem hx
 exact (dec_is hy).2
theorem own_len2 {B n c : Nat} {w : World} {a : Option Addr} {rs : List Rc} (h : RsOwn B w (.slice a n c) rs) : n ≤ 9223372036854775807 := by
 obtain ⟨a2, c2, e, h1, h2, -⟩ := h.rsIn
 injection e with _ e2 _
 omega
theorem same_yes {B1 B2 n m c d : Nat} {w : World} {a b : Option Addr} {rs ss : List Rc} {xs : List PRec} (h1 : RsOwn B1 w (.slice a n c) rs) (h2 : RsOwn B2 w (.slice b m d) ss) (e1 : rs.map pr = xs) (e2 : ss.map pr = xs) (hs : ∀ x ∈ xs, sndRec x = true) (W : World) (hW : Below w.heap.size w W) :
  Calls Tryz.prog 20 #[.slice a n c, .slice b m d] W fun e w' => e = .returned (.bool true) ∧ Aside (Below w.heap.size w w') := by
 have q1 := own_len2 h1
 have q2 := own_len2 h2
 refine (lawSame_any n m c d a b rs ss W (h1.keep hW).at_.2 (h2.keep hW).at_.2 h1.at_.1.symm h2.at_.1.symm q1 q2 (snd_all e1 hs) (snd_all e2 hs)).mono fun e w' ⟨t, he, ht, hb⟩ => ?_
 obtain rfl := ht.2 (e1.trans e2.symm)
 exact ⟨he, hW.trans (hb.mono hW.size)⟩
theorem read_up {B k : Nat} {P : World → Dk → Prop} (hD : Dsk B k P) {w : World} {d : Dk} (hp : P w d) {l : List UInt8} (hl : d.b = l) (W : World) (hW : Below w.heap.size w W) : Calls Tryz.prog 21 #[.pointer (some ⟨k, 0, none⟩)] W fun e w' => ∃ v, e = .returned v ∧ Aside (Below w.heap.size w w') ∧ (convert 54 9 v).run Tryz.prog w' = .ok (.string ⟨l.toArray⟩) w' :=
 (read_str hD W d (hD.keep _ _ _ hp hW) l hl).mono fun e w' ⟨v, h1, _, h2, h3⟩ => ⟨v, h1, hW.trans (h3.mono hW.size), h2⟩
theorem cell_up {B k : Nat} {P : World → Dk → Prop} (hD : RDsk B k P) {w : World} {d : Dk} (hp : P w d) {l : List UInt8} (hl : d.b = l) : ∃ a n c, ∀ W, Below w.heap.size w W → W.cell? ⟨k, 0, none⟩ = some (.slice a n c) ∧ (convert 54 9 (.slice a n c)).run Tryz.prog W = .ok (.string ⟨l.toArray⟩) W := by
 subst hl
 obtain ⟨a, c, h1, h2⟩ := hD.cell _ _ hp
 refine ⟨a, d.b.length, c, fun W hW => ⟨(hW.cell (p := ⟨k, 0, none⟩) (cell_lt h1)).trans h1, ?_⟩⟩
 exact str_of (h2.keep hW).at_.mem _ _ rfl
end wal
end Go.Proofs.YtlcjllgfpfldlaaGreat
