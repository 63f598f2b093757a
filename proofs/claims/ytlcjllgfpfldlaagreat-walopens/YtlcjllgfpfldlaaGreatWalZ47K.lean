/-
 Calls that came in: a kind, a record, choices; what the row's reading tells of them.
 The statements' own: whether calls are heavy, a sound record of a call, whether records are alike.
 The statements' own same: whether records are alike.
-/
import Derived.Test.YtlcjllgfpfldlaaGreatWalRows
import Derived.Test.YtlcjllgfpfldlaaGreatWalZ35K
import Derived.Deep.Strs
import Derived.Test.YtlcjllgfpfldlaaGreatWalZ29K
import Derived.BigQuiet
import Derived.Deep.RegionHeld3
namespace Go.Proofs.YtlcjllgfpfldlaaGreat.wal
open Go.ChangeShapes Go.WideShapes Go.ChangeAt Go.RowKit Go.Deep
open Go.Proofs.YtlcjllgfpfldlaaGreat.code (Rc Ft Et PRec PSpan pr rcC rcV RecIn OwnIn U32 I64 sndRec recB Mk same_mk is_or_not FactsIn EntsIn)
open Go.Proofs.YtlcjllgfpfldlaaGreat.bytes
open Go.Proofs.YtlcjllgfpfldlaaGreat.disk
set_option linter.unusedVariables false
set_option maxRecDepth 100000
set_option linter.unusedSimpArgs false

structure Wop where
 q : Int
 r : Rc
 wh : Int
 n : Int
def wpL (o : Wop) : List Value := [.int .u8 o.q, .int .u8 o.r.kind, .int .u32 o.r.id, .int .u32 o.r.at_, .slice o.r.na o.r.nodes.length o.r.nc, .slice o.r.fa o.r.facts.length o.r.fc, .int .u32 o.r.epoch, .slice o.r.sa o.r.spans.length o.r.sc, .int .i64 o.r.frm, .int .i64 o.r.til, .slice o.r.ea o.r.ents.length o.r.ec, .int .u8 o.wh, .int .i64 o.n]
def wopn (os : List Wop) (i : Nat) : Wop := os.getD i ⟨0, rc0, 0, 0⟩
structure WopOk (W : World) (o : Wop) : Prop where
 kind : 0 ≤ o.q ∧ o.q ≤ 255
 row : RecIn W o.r
 wh : 0 ≤ o.wh ∧ o.wh ≤ 255
 num : I64 o.n
theorem WopOk.keep {W W1 : World} {o : Wop} (h : WopOk W o) (hb : Below W.heap.size W W1) : WopOk W1 o := ⟨h.kind, h.row.keep hb, h.wh, h.num⟩
def OpsIn (W : World) (a : Option Addr) (os : List Wop) : Prop :=
 os = [] ∨ ∃ b off, a = some ⟨b, off, none⟩ ∧ ∀ i, i < os.length → (∀ j x, (wpL (wopn os i))[j]? = some x → W.cell? ⟨b, off + i * 13 + j, none⟩ = some x) ∧ WopOk W (wopn os i)
theorem OpsIn.keep {W W' : World} {a : Option Addr} {os : List Wop} (h : OpsIn W a os) (hb : Below W.heap.size W W') : OpsIn W' a os := by
 rcases h with h | ⟨b, off, ha, hc⟩
 ·exact .inl h
 ·exact .inr ⟨b, off, ha, fun i hi => ⟨fun j x hx => (hb.cell (p := ⟨b, off + i * 13 + j, none⟩) (cell_lt ((hc i hi).1 j x hx))).trans ((hc i hi).1 j x hx), (hc i hi).2.keep hb⟩⟩
theorem OpsIn.get {W : World} {a : Option Addr} {os : List Wop} (h : OpsIn W a os) {k : Nat} (hk : k < os.length) : ∃ b off, a = some ⟨b, off, none⟩ ∧ ∀ i, i < os.length → (∀ j x, (wpL (wopn os i))[j]? = some x → W.cell? ⟨b, off + i * 13 + j, none⟩ = some x) ∧ WopOk W (wopn os i) := by
 rcases h with rfl | h
 ·simp at hk
 ·exact h

section
variable {H : Type} {enc : TypeId × Value → H} {W : World} {base : Nat} {spare : Nat → Bool} {held : Bool}
end
end Go.Proofs.YtlcjllgfpfldlaaGreat.wal

namespace Go.Proofs.YtlcjllgfpfldlaaGreat.wal
open Go.ChangeShapes Go.WideShapes Go.ChangeAt Go.RowKit Go.Deep
open Go.Proofs.YtlcjllgfpfldlaaGreat.code (Rc Ft Et PRec PSpan pr rcC rcV RecIn OwnIn U32 I64 sndRec recB Mk same_mk is_or_not FactsIn EntsIn)
open Go.Proofs.YtlcjllgfpfldlaaGreat.bytes
open Go.Proofs.YtlcjllgfpfldlaaGreat.disk
set_option linter.unusedVariables false
set_option maxRecDepth 100000
set_option linter.unusedSimpArgs false

end Go.Proofs.YtlcjllgfpfldlaaGreat.wal

namespace Go.Proofs.YtlcjllgfpfldlaaGreat.wal
open Go.ChangeShapes Go.WideShapes Go.ChangeAt Go.RowKit Go.Deep
open Go.Proofs.YtlcjllgfpfldlaaGreat.code (Rc Ft Et PRec PSpan pr rcC rcV RecIn OwnIn U32 I64 sndRec recB Mk same_mk is_or_not FactsIn EntsIn)
open Go.Proofs.YtlcjllgfpfldlaaGreat.bytes
open Go.Proofs.YtlcjllgfpfldlaaGreat.disk
set_option linter.unusedVariables false
set_option maxRecDepth 100000
set_option linter.unusedSimpArgs false

theorem rcs_at {W : World} {b off k : Nat} {r : Rc} (h : ∀ j x, (rcL r)[j]? = some x → W.cell? ⟨b, off + k * 10 + j, none⟩ = some x) : W.cell? ⟨b, off + k * 10, none⟩ = some (.int .u8 r.kind) ∧ W.cell? ⟨b, off + k * 10 + 1, none⟩ = some (.int .u32 r.id) ∧ W.cell? ⟨b, off + k * 10 + 2, none⟩ = some (.int .u32 r.at_) ∧ W.cell? ⟨b, off + k * 10 + 3, none⟩ = some (.slice r.na r.nodes.length r.nc) ∧ W.cell? ⟨b, off + k * 10 + 4, none⟩ = some (.slice r.fa r.facts.length r.fc) ∧ W.cell? ⟨b, off + k * 10 + 5, none⟩ = some (.int .u32 r.epoch) ∧ W.cell? ⟨b, off + k * 10 + 6, none⟩ = some (.slice r.sa r.spans.length r.sc) ∧ W.cell? ⟨b, off + k * 10 + 7, none⟩ = some (.int .i64 r.frm) ∧ W.cell? ⟨b, off + k * 10 + 8, none⟩ = some (.int .i64 r.til) ∧ W.cell? ⟨b, off + k * 10 + 9, none⟩ = some (.slice r.ea r.ents.length r.ec) :=
 ⟨h 0 _ rfl, h 1 _ rfl, h 2 _ rfl, h 3 _ rfl, h 4 _ rfl, h 5 _ rfl, h 6 _ rfl, h 7 _ rfl, h 8 _ rfl, h 9 _ rfl⟩
theorem take_alike {α : Type} {l k : List α} {n : Nat} (hl : n < l.length) (hk : n < k.length) (h : l.take n = k.take n) (e : l[n] = k[n]) : l.take (n + 1) = k.take (n + 1) := by
 rw [List.take_succ_eq_append_getElem hl, List.take_succ_eq_append_getElem hk, h, e]
theorem recs2_of {W0 W : World} {bx ox by' oy k : Nat} {r s : Rc} (hx : ∀ j x, (rcL r)[j]? = some x → W0.cell? ⟨bx, ox + k * 10 + j, none⟩ = some x) (hy : ∀ j x, (rcL s)[j]? = some x → W0.cell? ⟨by', oy + k * 10 + j, none⟩ = some x) (hb : Below W0.heap.size W0 W) :
  Below W0.heap.size W0 W ∧ W.cell? ⟨bx, ox + k * 10, none⟩ = some (.int .u8 r.kind) ∧ W.cell? ⟨bx, ox + k * 10 + 1, none⟩ = some (.int .u32 r.id) ∧ W.cell? ⟨bx, ox + k * 10 + 2, none⟩ = some (.int .u32 r.at_) ∧ W.cell? ⟨bx, ox + k * 10 + 3, none⟩ = some (.slice r.na r.nodes.length r.nc) ∧ W.cell? ⟨bx, ox + k * 10 + 4, none⟩ = some (.slice r.fa r.facts.length r.fc) ∧ W.cell? ⟨bx, ox + k * 10 + 5, none⟩ = some (.int .u32 r.epoch) ∧ W.cell? ⟨bx, ox + k * 10 + 6, none⟩ = some (.slice r.sa r.spans.length r.sc) ∧ W.cell? ⟨bx, ox + k * 10 + 7, none⟩ = some (.int .i64 r.frm) ∧ W.cell? ⟨bx, ox + k * 10 + 8, none⟩ = some (.int .i64 r.til) ∧ W.cell? ⟨bx, ox + k * 10 + 9, none⟩ = some (.slice r.ea r.ents.length r.ec) ∧ W.cell? ⟨by', oy + k * 10, none⟩ = some (.int .u8 s.kind) ∧ W.cell? ⟨by', oy + k * 10 + 1, none⟩ = some (.int .u32 s.id) ∧ W.cell? ⟨by', oy + k * 10 + 2, none⟩ = some (.int .u32 s.at_) ∧ W.cell? ⟨by', oy + k * 10 + 3, none⟩ = some (.slice s.na s.nodes.length s.nc) ∧ W.cell? ⟨by', oy + k * 10 + 4, none⟩ = some (.slice s.fa s.facts.length s.fc) ∧ W.cell? ⟨by', oy + k * 10 + 5, none⟩ = some (.int .u32 s.epoch) ∧ W.cell? ⟨by', oy + k * 10 + 6, none⟩ = some (.slice s.sa s.spans.length s.sc) ∧ W.cell? ⟨by', oy + k * 10 + 7, none⟩ = some (.int .i64 s.frm) ∧ W.cell? ⟨by', oy + k * 10 + 8, none⟩ = some (.int .i64 s.til) ∧ W.cell? ⟨by', oy + k * 10 + 9, none⟩ = some (.slice s.ea s.ents.length s.ec) := by
 have h1 := rcs_at (W := W) (b := bx) (off := ox) (k := k) (r := r) fun j x h => (hb.cell (p := ⟨bx, ox + k * 10 + j, none⟩) (cell_lt (hx j x h))).trans (hx j x h)
 have h2 := rcs_at (W := W) (b := by') (off := oy) (k := k) (r := s) fun j x h => (hb.cell (p := ⟨by', oy + k * 10 + j, none⟩) (cell_lt (hy j x h))).trans (hy j x h)
 obtain ⟨a0, a1, a2, a3, a4, a5, a6, a7, a8, a9⟩ := h1
 obtain ⟨b0, b1, b2, b3, b4, b5, b6, b7, b8, b9⟩ := h2
 exact ⟨hb, a0, a1, a2, a3, a4, a5, a6, a7, a8, a9, b0, b1, b2, b3, b4, b5, b6, b7, b8, b9⟩
/-- what same answers -/
def SmOut (p : Prop) (w : World) (e : Ending) (w' : World) : Prop := ∃ t : Bool, e = .returned (.bool t) ∧ (t = true ↔ p) ∧ Below w.heap.size w w'
set_option maxHeartbeats 8000000 in
theorem lawSame_any (n m c d : Nat) (a b : Option Addr) (rs ss : List Rc) (w : World) (hx : RsIn w a rs) (hy : RsIn w b ss) (hn : rs.length = n) (hm : ss.length = m) (hn2 : n ≤ 9223372036854775807) (hm2 : m ≤ 9223372036854775807) (hrs : ∀ r ∈ rs, sndRec (pr r) = true) (hss : ∀ r ∈ ss, sndRec (pr r) = true) :
  Calls Tryz.prog 20 #[.slice a n c, .slice b m d] w fun e w' => SmOut (rs.map pr = ss.map pr) w e w' := by
 have H : Aside (RsIn w a rs ∧ RsIn w b ss ∧ rs.length = n ∧ ss.length = m) := ⟨hx, hy, hn, hm⟩
 have HH : Aside ((∀ r ∈ rs, sndRec (pr r) = true) ∧ (∀ r ∈ ss, sndRec (pr r) = true)) := ⟨hrs, hss⟩
 clear hx hy hn hm hrs hss
 by_cases hnm : n = m
 ·subst hnm
  go_enter Tryz.func20, Tryz.ntmps20
  go_wp2_with fail
  go_loopg [5] n (fun g1 vi wr => ∃ (k : Nat), vi = .int .i64 k ∧ k ≤ n ∧ n - k ≤ g1 ∧ Aside (Below w.heap.size w wr ∧ (rs.map pr).take k = (ss.map pr).take k))
  case atStart => exact ⟨0, rfl, Nat.zero_le _, Nat.le_refl _, Below.refl _ _, rfl⟩
  case round =>
   obtain ⟨k, rfl, hk, hg1, SK⟩ := hrel
   by_cases hlt : k < n
   ·have hltz : (k : Int) < (n : Int) := by omega
    have hkx : k < rs.length := by rw [H.out.2.2.1]; exact hlt
    have hky : k < ss.length := by rw [H.out.2.2.2]; exact hlt
    obtain ⟨bx, ox, ha, hcx⟩ := (H.out.1.keep SK.out.1).get hkx
    obtain ⟨by', oy, hb, hcy⟩ := (H.out.2.1.keep SK.out.1).get hky
    subst ha hb
    obtain ⟨r0, r1⟩ := hcx k hkx
    obtain ⟨s0, s1⟩ := hcy k hky
    clear hcx hcy
    have hr2 : sndRec (pr (rsn rs k)) = true := HH.out.1 _ (rsn_mem hkx)
    have hs2 : sndRec (pr (rsn ss k)) = true := HH.out.2 _ (rsn_mem hky)
    have HD : Aside (pr (rsn rs k) = pr (rsn ss k) → (rs.map pr).take (k + 1) = (ss.map pr).take (k + 1)) := fun e => by
     refine take_alike (by simpa using hkx) (by simpa using hky) SK.out.2 ?_
     rw [rsn_eq hkx, rsn_eq hky] at e
     simpa using e
    have HE : Aside (¬ pr (rsn rs k) = pr (rsn ss k) → ¬ rs.map pr = ss.map pr) := fun h e => h (by
     rw [rsn_eq hkx, rsn_eq hky]
     have := congrArg (fun l => l[k]?) e
     simpa [hkx, hky] using this)
    generalize rsn rs k = r at r0 r1 hr2 HD HE
    generalize rsn ss k = s at s0 s1 hs2 HD HE
    obtain ⟨t, ht⟩ := is_or_not (pr r = pr s)
    have hS : ∀ W, Below wr.heap.size wr W → Calls Tryz.prog 41 #[.agg #[.int .u8 r.kind, .int .u32 r.id, .int .u32 r.at_, .slice r.na r.nodes.length r.nc, .slice r.fa r.facts.length r.fc, .int .u32 r.epoch, .slice r.sa r.spans.length r.sc, .int .i64 r.frm, .int .i64 r.til, .slice r.ea r.ents.length r.ec], .agg #[.int .u8 s.kind, .int .u32 s.id, .int .u32 s.at_, .slice s.na s.nodes.length s.nc, .slice s.fa s.facts.length s.fc, .int .u32 s.epoch, .slice s.sa s.spans.length s.sc, .int .i64 s.frm, .int .i64 s.til, .slice s.ea s.ents.length s.ec]] W fun e w' => e = .returned (.bool t) ∧ Aside (Below wr.heap.size wr w') := fun W hW => by
     have := same_mk W r s ⟨r1.keep hW, hr2⟩ ⟨s1.keep hW, hs2⟩ t ht
     exact this.mono fun e w' ⟨h1, h2⟩ => ⟨h1, hW.trans (h2.mono hW.size)⟩
    have HC : Aside (∀ W, Below wr.heap.size wr W → Below wr.heap.size wr W ∧ W.cell? ⟨bx, ox + k * 10, none⟩ = some (.int .u8 r.kind) ∧ W.cell? ⟨bx, ox + k * 10 + 1, none⟩ = some (.int .u32 r.id) ∧ W.cell? ⟨bx, ox + k * 10 + 2, none⟩ = some (.int .u32 r.at_) ∧ W.cell? ⟨bx, ox + k * 10 + 3, none⟩ = some (.slice r.na r.nodes.length r.nc) ∧ W.cell? ⟨bx, ox + k * 10 + 4, none⟩ = some (.slice r.fa r.facts.length r.fc) ∧ W.cell? ⟨bx, ox + k * 10 + 5, none⟩ = some (.int .u32 r.epoch) ∧ W.cell? ⟨bx, ox + k * 10 + 6, none⟩ = some (.slice r.sa r.spans.length r.sc) ∧ W.cell? ⟨bx, ox + k * 10 + 7, none⟩ = some (.int .i64 r.frm) ∧ W.cell? ⟨bx, ox + k * 10 + 8, none⟩ = some (.int .i64 r.til) ∧ W.cell? ⟨bx, ox + k * 10 + 9, none⟩ = some (.slice r.ea r.ents.length r.ec) ∧ W.cell? ⟨by', oy + k * 10, none⟩ = some (.int .u8 s.kind) ∧ W.cell? ⟨by', oy + k * 10 + 1, none⟩ = some (.int .u32 s.id) ∧ W.cell? ⟨by', oy + k * 10 + 2, none⟩ = some (.int .u32 s.at_) ∧ W.cell? ⟨by', oy + k * 10 + 3, none⟩ = some (.slice s.na s.nodes.length s.nc) ∧ W.cell? ⟨by', oy + k * 10 + 4, none⟩ = some (.slice s.fa s.facts.length s.fc) ∧ W.cell? ⟨by', oy + k * 10 + 5, none⟩ = some (.int .u32 s.epoch) ∧ W.cell? ⟨by', oy + k * 10 + 6, none⟩ = some (.slice s.sa s.spans.length s.sc) ∧ W.cell? ⟨by', oy + k * 10 + 7, none⟩ = some (.int .i64 s.frm) ∧ W.cell? ⟨by', oy + k * 10 + 8, none⟩ = some (.int .i64 s.til) ∧ W.cell? ⟨by', oy + k * 10 + 9, none⟩ = some (.slice s.ea s.ents.length s.ec)) := fun W hW => recs2_of r0 s0 hW
    have HT : Aside ((t = true ↔ pr r = pr s) ∧ Below w.heap.size w wr) := ⟨ht, SK.out.1⟩
    clear SK r0 r1 s0 s1 hr2 hs2 ht
    go_upto_region 6 with fail
    go_region_held3 (fun w' => Below wr.heap.size wr w' ∧ w'.cell? ⟨bx, ox + k * 10, none⟩ = some (.int .u8 r.kind) ∧ w'.cell? ⟨bx, ox + k * 10 + 1, none⟩ = some (.int .u32 r.id) ∧ w'.cell? ⟨bx, ox + k * 10 + 2, none⟩ = some (.int .u32 r.at_) ∧ w'.cell? ⟨bx, ox + k * 10 + 3, none⟩ = some (.slice r.na r.nodes.length r.nc) ∧ w'.cell? ⟨bx, ox + k * 10 + 4, none⟩ = some (.slice r.fa r.facts.length r.fc) ∧ w'.cell? ⟨bx, ox + k * 10 + 5, none⟩ = some (.int .u32 r.epoch) ∧ w'.cell? ⟨bx, ox + k * 10 + 6, none⟩ = some (.slice r.sa r.spans.length r.sc) ∧ w'.cell? ⟨bx, ox + k * 10 + 7, none⟩ = some (.int .i64 r.frm) ∧ w'.cell? ⟨bx, ox + k * 10 + 8, none⟩ = some (.int .i64 r.til) ∧ w'.cell? ⟨bx, ox + k * 10 + 9, none⟩ = some (.slice r.ea r.ents.length r.ec) ∧ w'.cell? ⟨by', oy + k * 10, none⟩ = some (.int .u8 s.kind) ∧ w'.cell? ⟨by', oy + k * 10 + 1, none⟩ = some (.int .u32 s.id) ∧ w'.cell? ⟨by', oy + k * 10 + 2, none⟩ = some (.int .u32 s.at_) ∧ w'.cell? ⟨by', oy + k * 10 + 3, none⟩ = some (.slice s.na s.nodes.length s.nc) ∧ w'.cell? ⟨by', oy + k * 10 + 4, none⟩ = some (.slice s.fa s.facts.length s.fc) ∧ w'.cell? ⟨by', oy + k * 10 + 5, none⟩ = some (.int .u32 s.epoch) ∧ w'.cell? ⟨by', oy + k * 10 + 6, none⟩ = some (.slice s.sa s.spans.length s.sc) ∧ w'.cell? ⟨by', oy + k * 10 + 7, none⟩ = some (.int .i64 s.frm) ∧ w'.cell? ⟨by', oy + k * 10 + 8, none⟩ = some (.int .i64 s.til) ∧ w'.cell? ⟨by', oy + k * 10 + 9, none⟩ = some (.slice s.ea s.ents.length s.ec))
     (first | with_reducible assumption | (refine HC.out _ ?_; repeat (first | with_reducible exact Below.refl _ _ | with_reducible exact hbA.out | (with_reducible refine Below.drew ?_))))
     ((go_at_call 41; refine (hS _ ?_).mono ?_; (focus (apply And.left; assumption)); rintro e wa ⟨rfl, hbA⟩))
    all_goals
     have S2 : Aside ((t = true ↔ pr r = pr s) ∧ Below w.heap.size w wa) := ⟨HT.out.1, HT.out.2.trans (hbA.out.mono HT.out.2.size)⟩
     clear HC HT hbA hS
     cases t with
     | true =>
      have S3 : Aside (Below w.heap.size w wa ∧ (rs.map pr).take (k + 1) = (ss.map pr).take (k + 1)) := ⟨S2.out.2, HD.out (S2.out.1.1 rfl)⟩
      clear HD HE S2
      go_wp2
      go_roundg (n - (k + 1))
      case measure => omega
      case rel => exact ⟨k + 1, by go_num, by omega, by omega, S3⟩
     | false =>
      have S3 : Aside (¬ rs.map pr = ss.map pr ∧ Below w.heap.size w wa) := ⟨HE.out (fun e => by have := S2.out.1.2 e; cases this), S2.out.2⟩
      clear HD HE S2
      go_wp2
      go_ret
      exact ⟨false, rfl, ⟨fun h => (by cases h), fun h => absurd h S3.out.1⟩, S3.out.2⟩
   ·have hltz : ¬ (k : Int) < (n : Int) := by omega
    have hD : Aside (rs.map pr = ss.map pr ∧ Below w.heap.size w wr) := by
     refine ⟨?_, SK.out.1⟩
     have := SK.out.2
     rwa [List.take_of_length_le (by rw [List.length_map, H.out.2.2.1]; omega), List.take_of_length_le (by rw [List.length_map, H.out.2.2.2]; omega)] at this
    clear SK
    go_wp2
    go_ret
    exact ⟨true, rfl, ⟨fun _ => hD.out.1, fun _ => rfl⟩, hD.out.2⟩
 ·have hnz : ¬ (n : Int) = (m : Int) := by omega
  have hD : Aside (¬ rs.map pr = ss.map pr) := fun e => by
   have := congrArg List.length e
   rw [List.length_map, List.length_map, H.out.2.2.1, H.out.2.2.2] at this
   exact hnm this
  clear HH
  go_enter Tryz.func20, Tryz.ntmps20
  go_wp2
  go_ret
  exact ⟨false, rfl, ⟨fun h => (by cases h), fun h => absurd h hD.out⟩, Below.refl _ _⟩
end Go.Proofs.YtlcjllgfpfldlaaGreat.wal
