/-
 Calls that came in: a kind, a record, choices; what the row's reading tells of them.
 The statements' own: whether calls are heavy, a sound record of a call, whether records are alike.
 The statements' own same: whether records are alike.
-/
import Derived.Test.YtlcjllgfpfldlaaGreatWalRows
import Derived.Deep.Strs
set_option maxHeartbeats 8000000
open Go.ChangeShapes Go.WideShapes Go.ChangeAt Go.RowKit Go.Deep
set_option linter.unusedVariables false
set_option maxRecDepth 100000
set_option linter.unusedSimpArgs false
namespace Go.Proofs.YtlcjllgfpfldlaaGreat
namespace wal
open code (Rc PRec pr rcC rcV RecIn OwnIn I64 i64_wf u32_wf u8_wf ints_cell facts_cell spans_cell ents_cell sndRec mkQ make_any same_mk is_or_not Heavy_any)
open bytes
open disk
structure Wop where
 q : Int
 r : Rc
 wh : Int
 n : Int
def wpL (o : Wop) : List Value := [.int .u8 o.q, .int .u8 o.r.kind, .int .u32 o.r.id, .int .u32 o.r.at_, .slice o.r.na o.r.nodes.length o.r.nc, .slice o.r.fa o.r.facts.length o.r.fc, .int .u32 o.r.epoch, .slice o.r.sa o.r.spans.length o.r.sc, .int .i64 o.r.frm, .int .i64 o.r.til, .slice o.r.ea o.r.ents.length o.r.ec, .int .u8 o.wh, .int .i64 o.n]
def wopn (os : List Wop) (i : Nat) : Wop := os.getD i ⟨0, rc0, 0, 0⟩
structure WopOk (W : World) (o : Wop) : Prop where
 kind : 0 ≤ o.q ∧ o.q ≤ 255
 row : RecIn W o.r
 wh : 0 ≤ o.wh ∧ o.wh ≤ 255
 num : I64 o.n
theorem WopOk.keep {W W1 : World} {o : Wop} (h : WopOk W o) (hb : Below W.heap.size W W1) : WopOk W1 o := ⟨h.kind, h.row.keep hb, h.wh, h.num⟩
def OpsIn (W : World) (a : Option Addr) (os : List Wop) : Prop :=
 os = [] ∨ ∃ b off, a = some ⟨b, off, none⟩ ∧ ∀ i, i < os.length → (∀ j x, (wpL (wopn os i))[j]? = some x → W.cell? ⟨b, off + i * 13 + j, none⟩ = some x) ∧ WopOk W (wopn os i)
theorem OpsIn.keep {W W' : World} {a : Option Addr} {os : List Wop} (h : OpsIn W a os) (hb : Below W.heap.size W W') : OpsIn W' a os := by
 rcases h with h | ⟨b, off, ha, hc⟩
 ·exact .inl h
 ·exact .inr ⟨b, off, ha, fun i hi => ⟨fun j x hx => (hb.cell (p := ⟨b, off + i * 13 + j, none⟩) (cell_lt ((hc i hi).1 j x hx))).trans ((hc i hi).1 j x hx), (hc i hi).2.keep hb⟩⟩
theorem OpsIn.get {W : World} {a : Option Addr} {os : List Wop} (h : OpsIn W a os) {k : Nat} (hk : k < os.length) : ∃ b off, a = some ⟨b, off, none⟩ ∧ ∀ i, i < os.length → (∀ j x, (wpL (wopn os i))[j]? = some x → W.cell? ⟨b, off + i * 13 + j, none⟩ = some x) ∧ WopOk W (wopn os i) := by
 rcases h with rfl | h
 ·simp at hk
 ·exact h

section
variable {H : Type} {enc : TypeId × Value → H} {W : World} {base : Nat} {spare : Nat → Bool} {held : Bool}
theorem rec_cells {fuel : Nat} {cs : List Value} {x : DataW H × List MemPlace} (hlen10 : cs.length = 10) (hf : DataW.trod enc Tryz.prog W base spare held fuel 46 cs = some x) : ∃ r : Rc, cs = rcL r ∧ RecIn W r := by
 obtain ⟨xs, n, _, _, hl, hlen, hg⟩ := DataW.trod_struct Tryz.underlying46 hf
 have n8 : Tryz.prog.cellsOf 5 = 1 := by kernel_rfl
 have n32 : Tryz.prog.cellsOf 38 = 1 := by kernel_rfl
 have nin : Tryz.prog.cellsOf 3 = 1 := by kernel_rfl
 have nis : Tryz.prog.cellsOf 39 = 1 := by kernel_rfl
 have nfs : Tryz.prog.cellsOf 40 = 1 := by kernel_rfl
 have nss : Tryz.prog.cellsOf 41 = 1 := by kernel_rfl
 have nes : Tryz.prog.cellsOf 44 = 1 := by kernel_rfl
 have nmp : Tryz.prog.cellsOf 43 = 2 := by kernel_rfl
 match cs, hlen10, xs, hlen with
 | [c0, c1, c2, c3, c4, c5, c6, c7, c8, c9], _, [y0, y1, y2, y3, y4, y5, y6, y7, y8], _ =>
  have g0 := hg 0 _ rfl
  have g1 := hg 1 _ rfl
  have g2 := hg 2 _ rfl
  have g3 := hg 3 _ rfl
  have g4 := hg 4 _ rfl
  have g5 := hg 5 _ rfl
  have g6 := hg 6 _ rfl
  have g7 := hg 7 _ rfl
  have g8 := hg 8 _ rfl
  simp [n8, n32, nin, nis, nfs, nss, nes, nmp] at g0 g1 g2 g3 g4 g5 g6 g7 g8
  obtain ⟨kind, e0, _, w0⟩ := DataW.trod_int Tryz.underlying5 g0
  obtain ⟨id, e1, _, w1⟩ := DataW.trod_int Tryz.underlying38 g1
  obtain ⟨at_, e2, _, w2⟩ := DataW.trod_int Tryz.underlying38 g2
  obtain ⟨na, nc, nodes, e3, i3, l3, k3⟩ := ints_cell g3
  obtain ⟨fa, fc, facts, e4, i4, l4⟩ := facts_cell g4
  obtain ⟨z0, z1, n', _, _, m0, m1⟩ := trod_struct2 Tryz.underlying43 g5
  simp [n32, nss] at m0 m1
  obtain ⟨epoch, e5, _, w5⟩ := DataW.trod_int Tryz.underlying38 m0
  obtain ⟨sa, sc, spans, e6, i6, l6⟩ := spans_cell m1
  obtain ⟨frm, e7, _, w7⟩ := DataW.trod_int Tryz.underlying3 g6
  obtain ⟨til, e8, _, w8⟩ := DataW.trod_int Tryz.underlying3 g7
  obtain ⟨ea, ec, ents, e9, i9, l9⟩ := ents_cell g8
  simp only [List.cons.injEq, and_true] at e0 e1 e2 e5 e7 e8
  refine ⟨⟨kind, id, at_, na, nc, nodes, fa, fc, facts, epoch, sa, sc, spans, frm, til, ea, ec, ents⟩, ?_, ⟨u8_wf w0, u32_wf w1, u32_wf w2, i3, l3, k3, i4, l4, u32_wf w5, i6, l6, i64_wf w7, i64_wf w8, i9, l9⟩⟩
  unfold rcL
  rw [e0, e1, e2, e3, e4, e5, e6, e7, e8, e9]
set_option maxRecDepth 100000 in
theorem ops_open {fuel : Nat} {a : Option Addr} {len cap : Nat} {x : DataW H × List MemPlace}
  (h : DataW.trod enc Tryz.prog W base spare held fuel 23 [.slice a len cap] = some x) : ∃ os, OpsIn W a os ∧ os.length = len ∧ len ≤ cap ∧ cap ≤ maxLen := by
 rcases open_slice Tryz.underlying23 h with ⟨h0, _⟩ | ⟨a', len', cap', m, n, D, Pl, hcs, hb, hl, hm, hmm, hxe, hx⟩
 ·simp at h0
  obtain ⟨rfl, rfl, rfl⟩ := h0
  exact ⟨[], .inl rfl, rfl, nrQ _, Nat.zero_le _⟩
 ·simp at hcs
  obtain ⟨rfl, rfl, rfl⟩ := hcs
  by_cases hz : len = 0
  ·subst hz; exact ⟨[], .inl rfl, rfl, hl, hm⟩
  ·have hlm : len ≤ m := by rw [hmm]; split <;> omega
   have n13 : Tryz.prog.cellsOf 48 = 13 := by kernel_rfl
   have n8 : Tryz.prog.cellsOf 5 = 1 := by kernel_rfl
   have nr : Tryz.prog.cellsOf 46 = 10 := by kernel_rfl
   have nin : Tryz.prog.cellsOf 3 = 1 := by kernel_rfl
   have each : ∀ i, i < len → ∃ o : Wop, (∀ j x, (wpL o)[j]? = some x → W.cell? ((a'.add (i * 13)).add j) = some x) ∧ WopOk W o := by
    intro i hi
    obtain ⟨cs', h1, h2⟩ := hx i (by omega)
    rw [n13] at h1
    obtain ⟨_, hlen, hget⟩ := World.cells?_some h1
    obtain ⟨xs, n', _, _, hl', hlen', hg⟩ := DataW.trod_struct Tryz.underlying48 h2
    match cs', hlen, xs, hlen' with
    | [c0, c1, c2, c3, c4, c5, c6, c7, c8, c9, c10, c11, c12], _, [y0, y1, y2, y3], _ =>
     have g0 := hg 0 _ rfl
     have g1 := hg 1 _ rfl
     have g2 := hg 2 _ rfl
     have g3 := hg 3 _ rfl
     simp [n8, nr, nin] at g0 g1 g2 g3
     obtain ⟨q, e0, _, w0⟩ := DataW.trod_int Tryz.underlying5 g0
     obtain ⟨r, e1, hr⟩ := rec_cells rfl g1
     obtain ⟨wh, e2, _, w2⟩ := DataW.trod_int Tryz.underlying5 g2
     obtain ⟨v, e3, _, w3⟩ := DataW.trod_int Tryz.underlying3 g3
     simp only [List.cons.injEq, and_true] at e0 e2 e3
     refine ⟨⟨q, r, wh, v⟩, fun j x hx => ?_, ⟨u8_wf w0, hr, u8_wf w2, i64_wf w3⟩⟩
     have e : [c0, c1, c2, c3, c4, c5, c6, c7, c8, c9, c10, c11, c12] = wpL ⟨q, r, wh, v⟩ := by
      have : [c0, c1, c2, c3, c4, c5, c6, c7, c8, c9, c10, c11, c12] = c0 :: ([c1, c2, c3, c4, c5, c6, c7, c8, c9, c10] ++ [c11, c12]) := rfl
      rw [this, e0, e1, e2, e3]; rfl
     have hj : j < 13 := (List.getElem?_eq_some_iff.1 hx).1
     have h5 := hget j hj
     simp only [e] at h5
     rw [h5, ← hx, List.getElem?_eq_getElem hj]
   obtain ⟨d0, hc0, _⟩ := each 0 (by omega)
   have hc0 := hc0 0 _ rfl
   obtain ⟨b, off, spot⟩ := a'
   have hspot : spot = none := by
    have := World.cell?_spot hc0
    simpa [Addr.add] using this
   subst hspot
   obtain ⟨f, hf⟩ : ∃ f : Nat → Wop, ∀ i, i < len → (∀ j x, (wpL (f i))[j]? = some x → W.cell? (((⟨b, off, none⟩ : Addr).add (i * 13)).add j) = some x) ∧ WopOk W (f i) := by
    refine ⟨fun i => if h : i < len then Classical.choose (each i h) else ⟨0, rc0, 0, 0⟩, fun i hi => ?_⟩
    simp only [hi, dif_pos]
    exact Classical.choose_spec (each i hi)
   refine ⟨(List.range len).map f, .inr ⟨b, off, rfl, fun i hi => ?_⟩, by simp, hl, hm⟩
   simp only [List.length_map, List.length_range] at hi
   have hn : wopn ((List.range len).map f) i = f i := by simp [wopn, hi]
   have := hf i hi
   rw [hn]
   refine ⟨fun j x hx => ?_, this.2⟩
   have h6 := this.1 j x hx
   rw [addr_add, addr_add] at h6
   exact h6
end
end wal
namespace wal
open code (Rc PRec pr rcC rcV RecIn OwnIn I64 i64_wf u32_wf u8_wf ints_cell facts_cell spans_cell ents_cell sndRec mkQ make_any same_mk is_or_not Heavy_any)
open bytes
open disk
def HvOut (n : Nat) (w : World) (e : Ending) (w' : World) : Prop := ∃ t, e = .returned (.bool t) ∧ (t = false → n ≤ 40) ∧ Below w.heap.size w w'
theorem heavy_any (n c : Nat) (a : Option Addr) (os : List Wop) (w : World) (hO : OpsIn w a os) (hn : os.length = n) (hn2 : n ≤ 9223372036854775807) :
  Calls Tryz.prog 5 #[.slice a n c] w fun e w' => HvOut n w e w' := by
 have H : Aside (OpsIn w a os ∧ os.length = n) := ⟨hO, hn⟩
 clear hO hn
 go_enter Tryz.func5, Tryz.ntmps5
 go_wp2_with fail
 go_loopg [3, 4] n (fun g1 vs vi wr => ∃ (k : Nat) (s : Int), vi = .int .i64 k ∧ vs = .int .i64 s ∧ k ≤ n ∧ n - k ≤ g1 ∧ Aside (Below w.heap.size w wr))
 case atStart => exact ⟨0, 0, rfl, rfl, Nat.zero_le _, nrQ _, Below.refl _ _⟩
 case round =>
  obtain ⟨k, s, rfl, rfl, hk, hg1, SK⟩ := hrel
  by_cases hlt : k < n
  ·have hltz : (k : Int) < (n : Int) := by omega
   have hkl : k < os.length := by rw [H.out.2]; exact hlt
   obtain ⟨b, off, ha, hc⟩ := (H.out.1.keep SK.out).get hkl
   subst ha
   obtain ⟨hcs, ho⟩ := hc k hkl
   clear hc
   have r1 := hcs 1 _ rfl
   have r2 := hcs 2 _ rfl
   have r3 := hcs 3 _ rfl
   have r4 := hcs 4 _ rfl
   have r5 := hcs 5 _ rfl
   have r6 := hcs 6 _ rfl
   have r7 := hcs 7 _ rfl
   have r8 := hcs 8 _ rfl
   have r9 := hcs 9 _ rfl
   have r10 := hcs 10 _ rfl
   have hC1 := Heavy_any wr (wopn os k).r ho.row
   obtain ⟨hv, hhv⟩ : ∃ x, wrap64 (code.rw_ (wopn os k).r) = x := ⟨_, rfl⟩
   rw [hhv] at hC1
   clear hcs ho hhv
   have S0 : Aside (Below w.heap.size w wr) := SK.out
   clear SK
   generalize (wopn os k).r = r at *
   go_wp2_with (go_at_call 24; refine hC1.mono ?_; rintro e w1 ⟨rfl, g1⟩)
   have S2 : Aside (Below w.heap.size w w1) := S0.out.trans (g1.mono S0.out.size)
   clear S0 g1 hC1
   go_roundg (n - (k + 1))
   case measure => omega
   case rel => exact ⟨k + 1, _, by go_num, rfl, by omega, by omega, S2⟩
  ·have hltz : ¬ (k : Int) < (n : Int) := by omega
   have hkn : k = n := by omega
   subst hkn
   by_cases h1 : (40 : Int) < (k : Int)
   ·go_wp2
    go_ret
    exact ⟨_, rfl, fun h => by simp at h, SK.out⟩
   ·by_cases h2 : 3000 < s
    ·go_wp2
     go_ret
     exact ⟨_, rfl, fun h => by omega, SK.out⟩
    ·go_wp2
     go_ret
     exact ⟨_, rfl, fun h => by omega, SK.out⟩
theorem no_nums (w : World) : dims.Nums .u16 w none 0 0 [] := ⟨.inl rfl, rfl, nrQ _, Nat.zero_le _, fun i hi => by simp at hi⟩
def frmOf (n : Int) : Int := IntKind.u16.wrap (n.tmod 9)
def sxP (o : Wop) : PRec := mkQ o.wh o.r.id o.r.at_ o.wh (frmOf o.n) 10 o.r.facts o.r.ents
theorem sound_any (w : World) (o : Wop) (h : WopOk w o) :
  Calls Tryz.prog 12 #[.agg #[.int .u8 o.q, .int .u8 o.r.kind, .int .u32 o.r.id, .int .u32 o.r.at_, .slice o.r.na o.r.nodes.length o.r.nc, .slice o.r.fa o.r.facts.length o.r.fc, .int .u32 o.r.epoch, .slice o.r.sa o.r.spans.length o.r.sc, .int .i64 o.r.frm, .int .i64 o.r.til, .slice o.r.ea o.r.ents.length o.r.ec, .int .u8 o.wh, .int .i64 o.n]] w fun e w' => ∃ r, e = .returned (rcV r) ∧ OwnIn w' r ∧ sndRec (pr r) = true ∧ pr r = sxP o ∧ Below w.heap.size w w' := by
 obtain ⟨q, r, wh, n⟩ := o
 have hB : Below w.heap.size w ((w.alloc (.cells #[.int .u8 q, .int .u8 r.kind, .int .u32 r.id, .int .u32 r.at_, .slice r.na r.nodes.length r.nc, .slice r.fa r.facts.length r.fc, .int .u32 r.epoch, .slice r.sa r.spans.length r.sc, .int .i64 r.frm, .int .i64 r.til, .slice r.ea r.ents.length r.ec, .int .u8 wh, .int .i64 n] 48)).alloc (.cells #[.int .u8 0, .int .u32 0, .int .u32 0, .slice none 0 0, .slice none 0 0, .int .u32 0, .slice none 0 0, .int .i64 0, .int .i64 0, .slice none 0 0] 46)) := ((Below.refl _ _).alloc (nrQ _) _).alloc (by simp) _
 have hfr : 0 ≤ frmOf n ∧ frmOf n ≤ 65535 := by
  unfold frmOf
  rw [IntKind.wrap_u16]
  omega
 have hR := h.row.keep hB
 have hC1 := make_any wh r.id r.at_ wh (frmOf n) 10 r.fa none r.ea r.facts.length r.fc 0 0 r.ents.length r.ec r.facts [] r.ents _ h.wh hR.id hR.at_ h.wh hR.facts rfl hR.flen (no_nums _) hfr (by omega) hR.ents rfl hR.elen
 have hx := (bytes.Boxed.new (w.alloc (.cells #[.int .u8 q, .int .u8 r.kind, .int .u32 r.id, .int .u32 r.at_, .slice r.na r.nodes.length r.nc, .slice r.fa r.facts.length r.fc, .int .u32 r.epoch, .slice r.sa r.spans.length r.sc, .int .i64 r.frm, .int .i64 r.til, .slice r.ea r.ents.length r.ec, .int .u8 wh, .int .i64 n] 48)) #[.int .u8 0, .int .u32 0, .int .u32 0, .slice none 0 0, .slice none 0 0, .int .u32 0, .slice none 0 0, .int .i64 0, .int .i64 0, .slice none 0 0] 46)
 have hsz : (w.alloc (.cells #[.int .u8 q, .int .u8 r.kind, .int .u32 r.id, .int .u32 r.at_, .slice r.na r.nodes.length r.nc, .slice r.fa r.facts.length r.fc, .int .u32 r.epoch, .slice r.sa r.spans.length r.sc, .int .i64 r.frm, .int .i64 r.til, .slice r.ea r.ents.length r.ec, .int .u8 wh, .int .i64 n] 48)).heap.size = w.heap.size + 1 := by simp
 rw [hsz] at hx
 unfold frmOf at hC1 hfr
 generalize hW0 : (w.alloc (.cells #[.int .u8 q, .int .u8 r.kind, .int .u32 r.id, .int .u32 r.at_, .slice r.na r.nodes.length r.nc, .slice r.fa r.facts.length r.fc, .int .u32 r.epoch, .slice r.sa r.spans.length r.sc, .int .i64 r.frm, .int .i64 r.til, .slice r.ea r.ents.length r.ec, .int .u8 wh, .int .i64 n] 48)).alloc (.cells #[.int .u8 0, .int .u32 0, .int .u32 0, .slice none 0 0, .slice none 0 0, .int .u32 0, .slice none 0 0, .int .i64 0, .int .i64 0, .slice none 0 0] 46) = W0 at hB hC1 hx
 have HW : Hid (_ = W0) := hW0
 have HB : Aside (Below w.heap.size w W0 ∧ bytes.Boxed W0 (w.heap.size + 1) #[.int .u8 0, .int .u32 0, .int .u32 0, .slice none 0 0, .slice none 0 0, .int .u32 0, .slice none 0 0, .int .i64 0, .int .i64 0, .slice none 0 0] 46) := ⟨hB, hx⟩
 clear hW0 hR hB hx h hsz hfr
 show Calls _ _ #[.agg #[.int .u8 q, .int .u8 r.kind, .int .u32 r.id, .int .u32 r.at_, .slice r.na r.nodes.length r.nc, .slice r.fa r.facts.length r.fc, .int .u32 r.epoch, .slice r.sa r.spans.length r.sc, .int .i64 r.frm, .int .i64 r.til, .slice r.ea r.ents.length r.ec, .int .u8 wh, .int .i64 n]] _ _
 go_enter Tryz.func12, Tryz.ntmps12
 go_wp2_with fail
 rw [HW.out]
 refine hC1.mono ?_
 rintro e w1 ⟨v, rfl, ⟨r2, hv, hO, hs, -, hq⟩, g1⟩
 subst hv
 have y1 := HB.out.2.below g1
 have B1 := HB.out.1.trans (g1.mono HB.out.1.size)
 have hlt1 := y1.lt
 have HF : Aside (∀ W, w1.grownBy W (some (w.heap.size + 1)) → ∃ r3, Ending.returned (rcV r2) = Ending.returned (rcV r3) ∧ OwnIn W r3 ∧ sndRec (pr r3) = true ∧ pr r3 = sxP ⟨q, r, wh, n⟩ ∧ Below w.heap.size w W) := fun W hG =>
  ⟨r2, rfl, rc_far hO hG (boxed_far y1 (by decide)) (boxed_far y1 (by decide)) (boxed_far y1 (by decide)) (boxed_far y1 (by decide)), hs, hq (by simp), B1.grown hG B1.size fun q hq => by injection hq; omega⟩
 have e0 := y1.cell (j := 0) rfl
 have z0 := y1.frz 0
 have e1 := y1.cell (j := 1) rfl
 have z1 := y1.frz 1
 have e2 := y1.cell (j := 2) rfl
 have z2 := y1.frz 2
 have e3 := y1.cell (j := 3) rfl
 have z3 := y1.frz 3
 have e4 := y1.cell (j := 4) rfl
 have z4 := y1.frz 4
 have e5 := y1.cell (j := 5) rfl
 have z5 := y1.frz 5
 have e6 := y1.cell (j := 6) rfl
 have z6 := y1.frz 6
 have e7 := y1.cell (j := 7) rfl
 have z7 := y1.frz 7
 have e8 := y1.cell (j := 8) rfl
 have z8 := y1.frz 8
 have e9 := y1.cell (j := 9) rfl
 have z9 := y1.frz 9
 clear hC1 hO hs hq g1 y1 B1
 unfold rcV rcC
 go_wp2
 refine bodyPost_ret (v := .agg #[.int .u8 r2.kind, .int .u32 r2.id, .int .u32 r2.at_, .slice r2.na r2.nodes.length r2.nc, .slice r2.fa r2.facts.length r2.fc, .int .u32 r2.epoch, .slice r2.sa r2.spans.length r2.sc, .int .i64 r2.frm, .int .i64 r2.til, .slice r2.ea r2.ents.length r2.ec]) (by simp [results, Tryz.results12, go_sem, *]) rfl (HF.out _ ?_)
 iterate 9 (refine code.grown_trans ?_ (code.grown_at _ _ _ _))
 exact code.grown_at _ _ _ _
theorem rcs_at {W : World} {b off k : Nat} {r : Rc} (h : ∀ j x, (rcL r)[j]? = some x → W.cell? ⟨b, off + k * 10 + j, none⟩ = some x) : W.cell? ⟨b, off + k * 10, none⟩ = some (.int .u8 r.kind) ∧ W.cell? ⟨b, off + k * 10 + 1, none⟩ = some (.int .u32 r.id) ∧ W.cell? ⟨b, off + k * 10 + 2, none⟩ = some (.int .u32 r.at_) ∧ W.cell? ⟨b, off + k * 10 + 3, none⟩ = some (.slice r.na r.nodes.length r.nc) ∧ W.cell? ⟨b, off + k * 10 + 4, none⟩ = some (.slice r.fa r.facts.length r.fc) ∧ W.cell? ⟨b, off + k * 10 + 5, none⟩ = some (.int .u32 r.epoch) ∧ W.cell? ⟨b, off + k * 10 + 6, none⟩ = some (.slice r.sa r.spans.length r.sc) ∧ W.cell? ⟨b, off + k * 10 + 7, none⟩ = some (.int .i64 r.frm) ∧ W.cell? ⟨b, off + k * 10 + 8, none⟩ = some (.int .i64 r.til) ∧ W.cell? ⟨b, off + k * 10 + 9, none⟩ = some (.slice r.ea r.ents.length r.ec) :=
 ⟨h 0 _ rfl, h 1 _ rfl, h 2 _ rfl, h 3 _ rfl, h 4 _ rfl, h 5 _ rfl, h 6 _ rfl, h 7 _ rfl, h 8 _ rfl, h 9 _ rfl⟩
theorem take_alike {α : Type} {l k : List α} {n : Nat} (hl : n < l.length) (hk : n < k.length) (h : l.take n = k.take n) (e : l[n] = k[n]) : l.take (n + 1) = k.take (n + 1) := by
 rw [List.take_succ_eq_append_getElem hl, List.take_succ_eq_append_getElem hk, h, e]
theorem recs2_of {W0 W : World} {bx ox by' oy k : Nat} {r s : Rc} (hx : ∀ j x, (rcL r)[j]? = some x → W0.cell? ⟨bx, ox + k * 10 + j, none⟩ = some x) (hy : ∀ j x, (rcL s)[j]? = some x → W0.cell? ⟨by', oy + k * 10 + j, none⟩ = some x) (hb : Below W0.heap.size W0 W) :
  Below W0.heap.size W0 W ∧ W.cell? ⟨bx, ox + k * 10, none⟩ = some (.int .u8 r.kind) ∧ W.cell? ⟨bx, ox + k * 10 + 1, none⟩ = some (.int .u32 r.id) ∧ W.cell? ⟨bx, ox + k * 10 + 2, none⟩ = some (.int .u32 r.at_) ∧ W.cell? ⟨bx, ox + k * 10 + 3, none⟩ = some (.slice r.na r.nodes.length r.nc) ∧ W.cell? ⟨bx, ox + k * 10 + 4, none⟩ = some (.slice r.fa r.facts.length r.fc) ∧ W.cell? ⟨bx, ox + k * 10 + 5, none⟩ = some (.int .u32 r.epoch) ∧ W.cell? ⟨bx, ox + k * 10 + 6, none⟩ = some (.slice r.sa r.spans.length r.sc) ∧ W.cell? ⟨bx, ox + k * 10 + 7, none⟩ = some (.int .i64 r.frm) ∧ W.cell? ⟨bx, ox + k * 10 + 8, none⟩ = some (.int .i64 r.til) ∧ W.cell? ⟨bx, ox + k * 10 + 9, none⟩ = some (.slice r.ea r.ents.length r.ec) ∧ W.cell? ⟨by', oy + k * 10, none⟩ = some (.int .u8 s.kind) ∧ W.cell? ⟨by', oy + k * 10 + 1, none⟩ = some (.int .u32 s.id) ∧ W.cell? ⟨by', oy + k * 10 + 2, none⟩ = some (.int .u32 s.at_) ∧ W.cell? ⟨by', oy + k * 10 + 3, none⟩ = some (.slice s.na s.nodes.length s.nc) ∧ W.cell? ⟨by', oy + k * 10 + 4, none⟩ = some (.slice s.fa s.facts.length s.fc) ∧ W.cell? ⟨by', oy + k * 10 + 5, none⟩ = some (.int .u32 s.epoch) ∧ W.cell? ⟨by', oy + k * 10 + 6, none⟩ = some (.slice s.sa s.spans.length s.sc) ∧ W.cell? ⟨by', oy + k * 10 + 7, none⟩ = some (.int .i64 s.frm) ∧ W.cell? ⟨by', oy + k * 10 + 8, none⟩ = some (.int .i64 s.til) ∧ W.cell? ⟨by', oy + k * 10 + 9, none⟩ = some (.slice s.ea s.ents.length s.ec) := by
 have h1 := rcs_at (W := W) (b := bx) (off := ox) (k := k) (r := r) fun j x h => (hb.cell (p := ⟨bx, ox + k * 10 + j, none⟩) (cell_lt (hx j x h))).trans (hx j x h)
 have h2 := rcs_at (W := W) (b := by') (off := oy) (k := k) (r := s) fun j x h => (hb.cell (p := ⟨by', oy + k * 10 + j, none⟩) (cell_lt (hy j x h))).trans (hy j x h)
 obtain ⟨a0, a1, a2, a3, a4, a5, a6, a7, a8, a9⟩ := h1
 obtain ⟨b0, b1, b2, b3, b4, b5, b6, b7, b8, b9⟩ := h2
 exact ⟨hb, a0, a1, a2, a3, a4, a5, a6, a7, a8, a9, b0, b1, b2, b3, b4, b5, b6, b7, b8, b9⟩
def SmOut (p : Prop) (w : World) (e : Ending) (w' : World) : Prop := ∃ t : Bool, e = .returned (.bool t) ∧ (t = true ↔ p) ∧ Below w.heap.size w w'
theorem lawSame_any (n m c d : Nat) (a b : Option Addr) (rs ss : List Rc) (w : World) (hx : RsIn w a rs) (hy : RsIn w b ss) (hn : rs.length = n) (hm : ss.length = m) (hn2 : n ≤ 9223372036854775807) (hm2 : m ≤ 9223372036854775807) (hrs : ∀ r ∈ rs, sndRec (pr r) = true) (hss : ∀ r ∈ ss, sndRec (pr r) = true) :
  Calls Tryz.prog 20 #[.slice a n c, .slice b m d] w fun e w' => SmOut (rs.map pr = ss.map pr) w e w' := by
 have H : Aside (RsIn w a rs ∧ RsIn w b ss ∧ rs.length = n ∧ ss.length = m) := ⟨hx, hy, hn, hm⟩
 have HH : Aside ((∀ r ∈ rs, sndRec (pr r) = true) ∧ (∀ r ∈ ss, sndRec (pr r) = true)) := ⟨hrs, hss⟩
 clear hx hy hn hm hrs hss
 by_cases hnm : n = m
 ·subst hnm
  go_enter Tryz.func20, Tryz.ntmps20
  go_wp2_with fail
  go_loopg [5] n (fun g1 vi wr => ∃ (k : Nat), vi = .int .i64 k ∧ k ≤ n ∧ n - k ≤ g1 ∧ Aside (Below w.heap.size w wr ∧ (rs.map pr).take k = (ss.map pr).take k))
  case atStart => exact ⟨0, rfl, Nat.zero_le _, nrQ _, Below.refl _ _, rfl⟩
  case round =>
   obtain ⟨k, rfl, hk, hg1, SK⟩ := hrel
   by_cases hlt : k < n
   ·have hltz : (k : Int) < (n : Int) := by omega
    have hkx : k < rs.length := by rw [H.out.2.2.1]; exact hlt
    have hky : k < ss.length := by rw [H.out.2.2.2]; exact hlt
    obtain ⟨bx, ox, ha, hcx⟩ := (H.out.1.keep SK.out.1).get hkx
    obtain ⟨by', oy, hb, hcy⟩ := (H.out.2.1.keep SK.out.1).get hky
    subst ha hb
    obtain ⟨r0, r1⟩ := hcx k hkx
    obtain ⟨s0, s1⟩ := hcy k hky
    clear hcx hcy
    have hr2 : sndRec (pr (rsn rs k)) = true := HH.out.1 _ (rsn_mem hkx)
    have hs2 : sndRec (pr (rsn ss k)) = true := HH.out.2 _ (rsn_mem hky)
    have HD : Aside (pr (rsn rs k) = pr (rsn ss k) → (rs.map pr).take (k + 1) = (ss.map pr).take (k + 1)) := fun e => by
     refine take_alike (by simpa using hkx) (by simpa using hky) SK.out.2 ?_
     rw [rsn_eq hkx, rsn_eq hky] at e
     simpa using e
    have HE : Aside (¬ pr (rsn rs k) = pr (rsn ss k) → ¬ rs.map pr = ss.map pr) := fun h e => h (by
     rw [rsn_eq hkx, rsn_eq hky]
     have := congrArg (fun l => l[k]?) e
     simpa [hkx, hky] using this)
    generalize rsn rs k = r at r0 r1 hr2 HD HE
    generalize rsn ss k = s at s0 s1 hs2 HD HE
    obtain ⟨t, ht⟩ := is_or_not (pr r = pr s)
    have hS : ∀ W, Below wr.heap.size wr W → Calls Tryz.prog 41 #[.agg #[.int .u8 r.kind, .int .u32 r.id, .int .u32 r.at_, .slice r.na r.nodes.length r.nc, .slice r.fa r.facts.length r.fc, .int .u32 r.epoch, .slice r.sa r.spans.length r.sc, .int .i64 r.frm, .int .i64 r.til, .slice r.ea r.ents.length r.ec], .agg #[.int .u8 s.kind, .int .u32 s.id, .int .u32 s.at_, .slice s.na s.nodes.length s.nc, .slice s.fa s.facts.length s.fc, .int .u32 s.epoch, .slice s.sa s.spans.length s.sc, .int .i64 s.frm, .int .i64 s.til, .slice s.ea s.ents.length s.ec]] W fun e w' => e = .returned (.bool t) ∧ Aside (Below wr.heap.size wr w') := fun W hW => by
     have := same_mk W r s ⟨r1.keep hW, hr2⟩ ⟨s1.keep hW, hs2⟩ t ht
     exact this.mono fun e w' ⟨h1, h2⟩ => ⟨h1, hW.trans (h2.mono hW.size)⟩
    have HC : Aside (∀ W, Below wr.heap.size wr W → Below wr.heap.size wr W ∧ W.cell? ⟨bx, ox + k * 10, none⟩ = some (.int .u8 r.kind) ∧ W.cell? ⟨bx, ox + k * 10 + 1, none⟩ = some (.int .u32 r.id) ∧ W.cell? ⟨bx, ox + k * 10 + 2, none⟩ = some (.int .u32 r.at_) ∧ W.cell? ⟨bx, ox + k * 10 + 3, none⟩ = some (.slice r.na r.nodes.length r.nc) ∧ W.cell? ⟨bx, ox + k * 10 + 4, none⟩ = some (.slice r.fa r.facts.length r.fc) ∧ W.cell? ⟨bx, ox + k * 10 + 5, none⟩ = some (.int .u32 r.epoch) ∧ W.cell? ⟨bx, ox + k * 10 + 6, none⟩ = some (.slice r.sa r.spans.length r.sc) ∧ W.cell? ⟨bx, ox + k * 10 + 7, none⟩ = some (.int .i64 r.frm) ∧ W.cell? ⟨bx, ox + k * 10 + 8, none⟩ = some (.int .i64 r.til) ∧ W.cell? ⟨bx, ox + k * 10 + 9, none⟩ = some (.slice r.ea r.ents.length r.ec) ∧ W.cell? ⟨by', oy + k * 10, none⟩ = some (.int .u8 s.kind) ∧ W.cell? ⟨by', oy + k * 10 + 1, none⟩ = some (.int .u32 s.id) ∧ W.cell? ⟨by', oy + k * 10 + 2, none⟩ = some (.int .u32 s.at_) ∧ W.cell? ⟨by', oy + k * 10 + 3, none⟩ = some (.slice s.na s.nodes.length s.nc) ∧ W.cell? ⟨by', oy + k * 10 + 4, none⟩ = some (.slice s.fa s.facts.length s.fc) ∧ W.cell? ⟨by', oy + k * 10 + 5, none⟩ = some (.int .u32 s.epoch) ∧ W.cell? ⟨by', oy + k * 10 + 6, none⟩ = some (.slice s.sa s.spans.length s.sc) ∧ W.cell? ⟨by', oy + k * 10 + 7, none⟩ = some (.int .i64 s.frm) ∧ W.cell? ⟨by', oy + k * 10 + 8, none⟩ = some (.int .i64 s.til) ∧ W.cell? ⟨by', oy + k * 10 + 9, none⟩ = some (.slice s.ea s.ents.length s.ec)) := fun W hW => recs2_of r0 s0 hW
    have HT : Aside ((t = true ↔ pr r = pr s) ∧ Below w.heap.size w wr) := ⟨ht, SK.out.1⟩
    clear SK r0 r1 s0 s1 hr2 hs2 ht
    go_upto_region 6 with fail
    go_region_held3 (fun w' => Below wr.heap.size wr w' ∧ w'.cell? ⟨bx, ox + k * 10, none⟩ = some (.int .u8 r.kind) ∧ w'.cell? ⟨bx, ox + k * 10 + 1, none⟩ = some (.int .u32 r.id) ∧ w'.cell? ⟨bx, ox + k * 10 + 2, none⟩ = some (.int .u32 r.at_) ∧ w'.cell? ⟨bx, ox + k * 10 + 3, none⟩ = some (.slice r.na r.nodes.length r.nc) ∧ w'.cell? ⟨bx, ox + k * 10 + 4, none⟩ = some (.slice r.fa r.facts.length r.fc) ∧ w'.cell? ⟨bx, ox + k * 10 + 5, none⟩ = some (.int .u32 r.epoch) ∧ w'.cell? ⟨bx, ox + k * 10 + 6, none⟩ = some (.slice r.sa r.spans.length r.sc) ∧ w'.cell? ⟨bx, ox + k * 10 + 7, none⟩ = some (.int .i64 r.frm) ∧ w'.cell? ⟨bx, ox + k * 10 + 8, none⟩ = some (.int .i64 r.til) ∧ w'.cell? ⟨bx, ox + k * 10 + 9, none⟩ = some (.slice r.ea r.ents.length r.ec) ∧ w'.cell? ⟨by', oy + k * 10, none⟩ = some (.int .u8 s.kind) ∧ w'.cell? ⟨by', oy + k * 10 + 1, none⟩ = some (.int .u32 s.id) ∧ w'.cell? ⟨by', oy + k * 10 + 2, none⟩ = some (.int .u32 s.at_) ∧ w'.cell? ⟨by', oy + k * 10 + 3, none⟩ = some (.slice s.na s.nodes.length s.nc) ∧ w'.cell? ⟨by', oy + k * 10 + 4, none⟩ = some (.slice s.fa s.facts.length s.fc) ∧ w'.cell? ⟨by', oy + k * 10 + 5, none⟩ = some (.int .u32 s.epoch) ∧ w'.cell? ⟨by', oy + k * 10 + 6, none⟩ = some (.slice s.sa s.spans.length s.sc) ∧ w'.cell? ⟨by', oy + k * 10 + 7, none⟩ = some (.int .i64 s.frm) ∧ w'.cell? ⟨by', oy + k * 10 + 8, none⟩ = some (.int .i64 s.til) ∧ w'.cell? ⟨by', oy + k * 10 + 9, none⟩ = some (.slice s.ea s.ents.length s.ec))
     (first | with_reducible assumption | (refine HC.out _ ?_; repeat (first | with_reducible exact Below.refl _ _ | with_reducible exact hbA.out | (with_reducible refine Below.drew ?_))))
     ((go_at_call 41; refine (hS _ ?_).mono ?_; (focus (apply And.left; assumption)); rintro e wa ⟨rfl, hbA⟩))
    all_goals
     have S2 : Aside ((t = true ↔ pr r = pr s) ∧ Below w.heap.size w wa) := ⟨HT.out.1, HT.out.2.trans (hbA.out.mono HT.out.2.size)⟩
     clear HC HT hbA hS
     cases t with
     | true =>
      have S3 : Aside (Below w.heap.size w wa ∧ (rs.map pr).take (k + 1) = (ss.map pr).take (k + 1)) := ⟨S2.out.2, HD.out (S2.out.1.1 rfl)⟩
      clear HD HE S2
      go_wp2
      go_roundg (n - (k + 1))
      case measure => omega
      case rel => exact ⟨k + 1, by go_num, by omega, by omega, S3⟩
     | false =>
      have S3 : Aside (¬ rs.map pr = ss.map pr ∧ Below w.heap.size w wa) := ⟨HE.out (fun e => by have := S2.out.1.2 e; cases this), S2.out.2⟩
      clear HD HE S2
      go_wp2
      go_ret
      exact ⟨false, rfl, ⟨fun h => (by cases h), fun h => absurd h S3.out.1⟩, S3.out.2⟩
   ·have hltz : ¬ (k : Int) < (n : Int) := by omega
    have hD : Aside (rs.map pr = ss.map pr ∧ Below w.heap.size w wr) := by
     refine ⟨?_, SK.out.1⟩
     have := SK.out.2
     rwa [List.take_of_length_le (by rw [List.length_map, H.out.2.2.1]; omega), List.take_of_length_le (by rw [List.length_map, H.out.2.2.2]; omega)] at this
    clear SK
    go_wp2
    go_ret
    exact ⟨true, rfl, ⟨fun _ => hD.out.1, fun _ => rfl⟩, hD.out.2⟩
 ·have hnz : ¬ (n : Int) = (m : Int) := by omega
  have hD : Aside (¬ rs.map pr = ss.map pr) := fun e => by
   have := congrArg List.length e
   rw [List.length_map, List.length_map, H.out.2.2.1, H.out.2.2.2] at this
   exact hnm this
  clear HH
  go_enter Tryz.func20, Tryz.ntmps20
  go_wp2
  go_ret
  exact ⟨false, rfl, ⟨fun h => (by cases h), fun h => absurd h hD.out⟩, Below.refl _ _⟩
end wal
end Go.Proofs.YtlcjllgfpfldlaaGreat
