/-
 The statements' own Make, of a kind that is 7.
-/
import Derived.Test.YtlcjllgfpfldlaaGreatWalZ31K
import Derived.Test.YtlcjllgfpfldlaaGreatWalZ35K
set_option maxHeartbeats 32000000
open Go.ChangeShapes Go.WideShapes Go.ChangeAt Go.RowKit Go.Deep
set_option linter.unusedVariables false
set_option maxRecDepth 100000
set_option linter.unusedSimpArgs false
namespace Go.Proofs.YtlcjllgfpfldlaaGreat
namespace code
open dims (vals own_below own_mono)
def fwp : List PFact → Int
 | [] => 0
 | f :: l => 1 + (f.1.length : Int) + fwp l
theorem fw_fwp (l : List Ft) : fw l = fwp (l.map pf) := by
 induction l with
 | nil => rfl
 | cons x l ih => simp only [fw, List.map_cons, fwp, ih]; rfl
theorem fwp_mk (l : List Ft) : fwp (l.map mkF) ≤ fw l := by
 induction l with
 | nil => exact Int.le_refl _
 | cons x l ih =>
  have e : (mkF x).1.length ≤ x.k.length := by simp [mkF]; omega
  simp only [fw, List.map_cons, fwp]; omega
theorem fw_mk {os fk : List Ft} (h : os.map pf = (fk.take 60).map mkF) : fw os ≤ fw fk := by
 have h1 := fwp_mk (fk.take 60)
 have h2 : fw fk = fw (fk.take 60) + fw (fk.drop 60) := by rw [← fw_app, List.take_append_drop]
 have h3 := fw_pos (fk.drop 60)
 rw [fw_fwp os, h]
 omega
theorem ew_take_le (es : List Et) (k : Nat) : ew (es.take k) ≤ ew es := by
 have h2 : ew es = ew (es.take k) + ew (es.drop k) := by rw [← ew_app, List.take_append_drop]
 have h3 := ew_pos (es.drop k)
 omega
def MkRes7 (m : Int) (p : Prop) (q : PRec) (v : Value) (W : World) : Prop := ∃ r, v = rcV r ∧ OwnIn W r ∧ sndRec (pr r) = true ∧ r.kind = 7 ∧ ew r.ents ≤ m ∧ (p → pr r = q)

theorem make_7w (kind id at_ nodes frm til : Int) (fa sa ea : Option Addr) (fn fc sn sc en ec : Nat) (fs : List Ft) (ss : List Int) (es : List Et) (w : World) (hk : kind % 7 = 6) (hk0 : 0 ≤ kind ∧ kind ≤ 255) (hid : U32 id) (hat : U32 at_) (hn0 : 0 ≤ nodes ∧ nodes ≤ 255)
  (hF : FactsIn w fa fs) (hf : fs.length = fn) (hfm : fn ≤ 9223372036854775807) (hS : dims.Nums .u16 w sa sn sc ss) (hfr : 0 ≤ frm ∧ frm ≤ 65535) (hti : 0 ≤ til ∧ til ≤ 65535) (hE : EntsIn w ea es) (he : es.length = en) (hem : en ≤ 9223372036854775807) :
  Calls Tryz.prog 33 #[.int .u8 kind, .int .u32 id, .int .u32 at_, .int .u8 nodes, .slice fa fn fc, .slice sa sn sc, .int .u16 frm, .int .u16 til, .slice ea en ec] w fun e w' => ∃ v, e = .returned v ∧ MkRes7 (ew es) (ss = []) (mkQ kind id at_ nodes frm til fs es) v w' ∧ Below w.heap.size w w' := by
 obtain ⟨i0, hi, hz0, hz1, hz2⟩ := info_parts info_int2
 have htm : kind.tmod 7 = 6 := by rw [Int.tmod_eq_emod_of_nonneg hk0.1]; exact hk
 have hb2 : Below w.heap.size w ((w.alloc (.cells #[.int .u8 0, .int .u32 0, .int .u32 0, .slice none 0 0, .slice none 0 0, .int .u32 0, .slice none 0 0, .int .i64 0, .int .i64 0, .slice none 0 0] 46)).alloc (.cells #[.int .u8 7, .int .u32 id, .int .u32 0, .slice none 0 0, .slice none 0 0, .int .u32 0, .slice none 0 0, .int .i64 0, .int .i64 0, .slice none 0 0] 46)) := ((Below.refl _ _).alloc (nrQ _) _).alloc (by simp) _
 have hx0 : Boxed ((w.alloc (.cells #[.int .u8 0, .int .u32 0, .int .u32 0, .slice none 0 0, .slice none 0 0, .int .u32 0, .slice none 0 0, .int .i64 0, .int .i64 0, .slice none 0 0] 46)).alloc (.cells #[.int .u8 7, .int .u32 id, .int .u32 0, .slice none 0 0, .slice none 0 0, .int .u32 0, .slice none 0 0, .int .i64 0, .int .i64 0, .slice none 0 0] 46)) w.heap.size #[.int .u8 0, .int .u32 0, .int .u32 0, .slice none 0 0, .slice none 0 0, .int .u32 0, .slice none 0 0, .int .i64 0, .int .i64 0, .slice none 0 0] 46 := (Boxed.new w #[.int .u8 0, .int .u32 0, .int .u32 0, .slice none 0 0, .slice none 0 0, .int .u32 0, .slice none 0 0, .int .i64 0, .int .i64 0, .slice none 0 0] 46).below ((Below.refl _ _).alloc (nrQ _) _)
 have hx1 : Boxed ((w.alloc (.cells #[.int .u8 0, .int .u32 0, .int .u32 0, .slice none 0 0, .slice none 0 0, .int .u32 0, .slice none 0 0, .int .i64 0, .int .i64 0, .slice none 0 0] 46)).alloc (.cells #[.int .u8 7, .int .u32 id, .int .u32 0, .slice none 0 0, .slice none 0 0, .int .u32 0, .slice none 0 0, .int .i64 0, .int .i64 0, .slice none 0 0] 46)) (w.heap.size + 1) #[.int .u8 7, .int .u32 id, .int .u32 0, .slice none 0 0, .slice none 0 0, .int .u32 0, .slice none 0 0, .int .i64 0, .int .i64 0, .slice none 0 0] 46 := by
  have := Boxed.new (w.alloc (.cells #[.int .u8 0, .int .u32 0, .int .u32 0, .slice none 0 0, .slice none 0 0, .int .u32 0, .slice none 0 0, .int .i64 0, .int .i64 0, .slice none 0 0] 46)) #[.int .u8 7, .int .u32 id, .int .u32 0, .slice none 0 0, .slice none 0 0, .int .u32 0, .slice none 0 0, .int .i64 0, .int .i64 0, .slice none 0 0] 46
  rwa [show (w.alloc (.cells #[.int .u8 0, .int .u32 0, .int .u32 0, .slice none 0 0, .slice none 0 0, .int .u32 0, .slice none 0 0, .int .i64 0, .int .i64 0, .slice none 0 0] 46)).heap.size = w.heap.size + 1 by simp] at this
 have HU : Aside (U32 id ∧ U32 at_) := ⟨hid, hat⟩
 have HA : Aside (FactsIn w fa fs ∧ fs.length = fn ∧ fn ≤ 9223372036854775807 ∧ dims.Nums .u16 w sa sn sc ss ∧ EntsIn w ea es ∧ es.length = en) := ⟨hF, hf, hfm, hS, hE, he⟩
 have hsm : sn ≤ 9223372036854775807 := by have h1 := hS.lec; have h2 := hS.max; rw [maxLen_9] at h2; omega
 have HK : Aside (kind % 7 = 6) := hk
 clear hk hid hat hF hf hS hE he
 go_enter Tryz.func33, Tryz.ntmps33
 go_upto_region 2 with fail
 generalize hW2 : ((w.alloc (.cells #[.int .u8 0, .int .u32 0, .int .u32 0, .slice none 0 0, .slice none 0 0, .int .u32 0, .slice none 0 0, .int .i64 0, .int .i64 0, .slice none 0 0] 46)).alloc (.cells #[.int .u8 7, .int .u32 id, .int .u32 0, .slice none 0 0, .slice none 0 0, .int .u32 0, .slice none 0 0, .int .i64 0, .int .i64 0, .slice none 0 0] 46)) = W2 at hb2 hx0 hx1 ⊢
 have H2 : Aside (Below w.heap.size w W2 ∧ Boxed W2 w.heap.size #[.int .u8 0, .int .u32 0, .int .u32 0, .slice none 0 0, .slice none 0 0, .int .u32 0, .slice none 0 0, .int .i64 0, .int .i64 0, .slice none 0 0] 46 ∧ Boxed W2 (w.heap.size + 1) #[.int .u8 7, .int .u32 id, .int .u32 0, .slice none 0 0, .slice none 0 0, .int .u32 0, .slice none 0 0, .int .i64 0, .int .i64 0, .slice none 0 0] 46) := ⟨hb2, hx0, hx1⟩
 have hlt2 := hx1.lt
 clear hb2 hx0 hx1 hW2
 go_wp2_with fail
 go_loopg [20, 21] 6 (fun g1 vv vi wr => ∃ (k nn : Nat) (av : Option Addr) (cv : Nat), vv = .slice av nn cv ∧ vi = .int .i64 k ∧ k ≤ 6 ∧ 6 - k ≤ g1 ∧ nn ≤ k ∧ Aside (∃ l, l.length = nn ∧ wr.ownsRow W2.heap.size 3 1 (.slice av nn cv) nn (vals l) ∧ NdL nodes l k ∧ Below W2.heap.size W2 wr))
 case atStart => exact ⟨0, 0, none, 0, rfl, rfl, Nat.zero_le _, nrQ _, nrQ _, [], rfl, World.ownsRow_nil _ _ _ _, NdL.nil _, Below.refl _ _⟩
 case round =>
  obtain ⟨k, nn, av, cv, rfl, rfl, hk6, hg1, hnk, SK⟩ := hrel
  by_cases hlt : k < 6
  ·have hltz : (k : Int) < 6 := by omega
   obtain ⟨l, hl1, hown, hl3, hl4⟩ := SK.out
   have HL : Aside (l.length = nn ∧ NdL nodes l k ∧ Below W2.heap.size W2 wr) := ⟨hl1, hl3, hl4⟩
   have hsz := hl4.size
   clear SK hl1 hl3 hl4
   go_wp2_with (at_builtin; refine wpList_append_lies _ rfl _ _ 39 rfl W2.heap.size 3 i0 _ 1 8 Tryz.underlying39 hi hz0 hz1 hz2 rfl (by decide) _ nn _ rfl (hown.alloc _) ⟨wr.heap.size, 0, none⟩ 1 1 [Value.int .i64 k] rfl rfl (cell_one_new _ _ _) (by intro u hu; simp at hu; subst hu; rfl) (by omega) (by unfold maxLen; omega) (by omega) (by simp; omega) (wr.heap.size + 1) (by simp) ?_; intro g c3 w3 hown3 hgrow hat3 hglt)
   ·rename_i hbit
    have S3 : Aside (∃ l, l.length = nn + 1 ∧ w3.ownsRow W2.heap.size 3 1 (.slice (some ⟨g, 0, none⟩) (nn + 1) c3) (nn + 1) (vals l) ∧ NdL nodes l (k + 1) ∧ Below W2.heap.size W2 w3) := by
     refine ⟨l ++ [(k : Int)], by simp [HL.out.1], ?_, HL.out.2.1.push hbit (by omega), ?_⟩
     ·have e1 : vals (l ++ [(k : Int)]) = vals l ++ [Value.int .i64 k] := by simp [vals]
      rw [e1]; exact hown3
     ·exact (HL.out.2.2.alloc hsz _).grown hgrow (by simp; omega) fun q hq => (World.ownsRow.lt hown _ hq).1
    clear hown3 hgrow hat3 hglt hown
    go_wp2
    go_roundg (6 - (k + 1))
    case measure => omega
    case rel => exact ⟨k + 1, nn + 1, _, _, rfl, by go_num, by omega, by omega, by omega, S3⟩
   ·rename_i hbit
    have S3 : Aside (∃ l, l.length = nn ∧ wr.ownsRow W2.heap.size 3 1 (.slice av nn cv) nn (vals l) ∧ NdL nodes l (k + 1) ∧ Below W2.heap.size W2 wr) := ⟨l, HL.out.1, hown, HL.out.2.1.skip hbit, HL.out.2.2⟩
    clear hown
    go_roundg (6 - (k + 1))
    case measure => omega
    case rel => exact ⟨k + 1, nn, _, _, rfl, by go_num, by omega, by omega, by omega, S3⟩
  ·have hltz : ¬ (k : Int) < 6 := by omega
   obtain ⟨l, hl1, hl2, hl3, hl4⟩ := SK.out
   have hke : k = 6 := by omega
   subst hke
   have b0 : Below w.heap.size w wr := H2.out.1.trans (hl4.mono H2.out.1.size)
   have y0 : Boxed wr w.heap.size #[.int .u8 0, .int .u32 0, .int .u32 0, .slice none 0 0, .slice none 0 0, .int .u32 0, .slice none 0 0, .int .i64 0, .int .i64 0, .slice none 0 0] 46 := H2.out.2.1.below hl4
   have x0 : Boxed wr (w.heap.size + 1) #[.int .u8 7, .int .u32 id, .int .u32 0, .slice none 0 0, .slice none 0 0, .int .u32 0, .slice none 0 0, .int .i64 0, .int .i64 0, .slice none 0 0] 46 := H2.out.2.2.below hl4
   have HN : Aside (nodesOk l = true ∧ l.length = nn ∧ l = ndL nodes 6) := ⟨hl3.1, hl1, hl3.2.2⟩
   have n0 : NsOwn w.heap.size wr (.slice av nn cv) l := ⟨by rw [hl1]; exact own_mono hl2 (by omega), hl3.ok (nrQ _)⟩
   clear SK hl1 hl2 hl3 hl4
   generalize wr = w0 at b0 y0 x0 n0 ⊢
   have c0 := x0.cell (j := 0) rfl
   have z0 := x0.frz 0
   have c1 := x0.cell (j := 1) rfl
   have z1 := x0.frz 1
   have c2 := x0.cell (j := 2) rfl
   have z2 := x0.frz 2
   have c3 := x0.cell (j := 3) rfl
   have z3 := x0.frz 3
   have c4 := x0.cell (j := 4) rfl
   have z4 := x0.frz 4
   have c5 := x0.cell (j := 5) rfl
   have z5 := x0.frz 5
   have c6 := x0.cell (j := 6) rfl
   have z6 := x0.frz 6
   have c7 := x0.cell (j := 7) rfl
   have z7 := x0.frz 7
   have c8 := x0.cell (j := 8) rfl
   have z8 := x0.frz 8
   have c9 := x0.cell (j := 9) rfl
   have z9 := x0.frz 9
   have hX := md_ok (m := 10001) hfr (by omega)
   have eX : IntKind.i64.wrap frm = frm := by rw [IntKind.wrap_i64]; omega
   obtain ⟨X, hX1⟩ : ∃ X, (IntKind.i64.wrap frm).tmod 10001 = X := ⟨_, rfl⟩
   rw [hX1] at hX
   have hX2 := hX1
   rw [eX] at hX2
   have hX3 : frm % 10001 = X := by rw [← hX2, Int.tmod_eq_emod_of_nonneg (by omega)]
   have hY := md_ok (m := 10001) hti (by omega)
   have eY : IntKind.i64.wrap til = til := by rw [IntKind.wrap_i64]; omega
   obtain ⟨Y, hY1⟩ : ∃ Y, (IntKind.i64.wrap til).tmod 10001 = Y := ⟨_, rfl⟩
   rw [hY1] at hY
   have hY2 := hY1
   rw [eY] at hY2
   have hY3 : til % 10001 = Y := by rw [← hY2, Int.tmod_eq_emod_of_nonneg (by omega)]
   go_upto_region 24 with fail
   have x1 : Boxed (w0.setCell ⟨w.heap.size + 1, 7, none⟩ (.int .i64 X)) (w.heap.size + 1) #[.int .u8 7, .int .u32 id, .int .u32 0, .slice none 0 0, .slice none 0 0, .int .u32 0, .slice none 0 0, .int .i64 X, .int .i64 0, .slice none 0 0] 46 := x0.set 7 _
   have y1 : Boxed (w0.setCell ⟨w.heap.size + 1, 7, none⟩ (.int .i64 X)) w.heap.size #[.int .u8 0, .int .u32 0, .int .u32 0, .slice none 0 0, .slice none 0 0, .int .u32 0, .slice none 0 0, .int .i64 0, .int .i64 0, .slice none 0 0] 46 := y0.grown (grown_at _ _ _ _) (by simp only [ne_eq, oiQ]; omega)
   have b1 : Below w.heap.size w (w0.setCell ⟨w.heap.size + 1, 7, none⟩ (.int .i64 X)) := b0.setCell (by simp) _
   have n0 := n0.far (grown_at w0 (w.heap.size + 1) 7 (.int .i64 X)) (x0.far (by decide))
   generalize (w0.setCell ⟨w.heap.size + 1, 7, none⟩ (.int .i64 X)) = w1 at x1 y1 b1 n0 ⊢
   clear x0 y0 b0
   clear c0 z0 c1 z1 c2 z2 c3 z3 c4 z4 c5 z5 c6 z6 c7 z7 c8 z8 c9 z9
   have c0 := x1.cell (j := 0) rfl
   have z0 := x1.frz 0
   have c1 := x1.cell (j := 1) rfl
   have z1 := x1.frz 1
   have c2 := x1.cell (j := 2) rfl
   have z2 := x1.frz 2
   have c3 := x1.cell (j := 3) rfl
   have z3 := x1.frz 3
   have c4 := x1.cell (j := 4) rfl
   have z4 := x1.frz 4
   have c5 := x1.cell (j := 5) rfl
   have z5 := x1.frz 5
   have c6 := x1.cell (j := 6) rfl
   have z6 := x1.frz 6
   have c7 := x1.cell (j := 7) rfl
   have z7 := x1.frz 7
   have c8 := x1.cell (j := 8) rfl
   have z8 := x1.frz 8
   have c9 := x1.cell (j := 9) rfl
   have z9 := x1.frz 9
   go_upto_region 25 with fail
   have x2 : Boxed (w1.setCell ⟨w.heap.size + 1, 8, none⟩ (.int .i64 Y)) (w.heap.size + 1) #[.int .u8 7, .int .u32 id, .int .u32 0, .slice none 0 0, .slice none 0 0, .int .u32 0, .slice none 0 0, .int .i64 X, .int .i64 Y, .slice none 0 0] 46 := x1.set 8 _
   have y2 : Boxed (w1.setCell ⟨w.heap.size + 1, 8, none⟩ (.int .i64 Y)) w.heap.size #[.int .u8 0, .int .u32 0, .int .u32 0, .slice none 0 0, .slice none 0 0, .int .u32 0, .slice none 0 0, .int .i64 0, .int .i64 0, .slice none 0 0] 46 := y1.grown (grown_at _ _ _ _) (by simp only [ne_eq, oiQ]; omega)
   have b2 : Below w.heap.size w (w1.setCell ⟨w.heap.size + 1, 8, none⟩ (.int .i64 Y)) := b1.setCell (by simp) _
   have n0 := n0.far (grown_at w1 (w.heap.size + 1) 8 (.int .i64 Y)) (x1.far (by decide))
   generalize (w1.setCell ⟨w.heap.size + 1, 8, none⟩ (.int .i64 Y)) = w2 at x2 y2 b2 n0 ⊢
   clear x1 y1 b1
   clear c0 z0 c1 z1 c2 z2 c3 z3 c4 z4 c5 z5 c6 z6 c7 z7 c8 z8 c9 z9
   have HXY : Aside ((0 ≤ X ∧ X < 10001) ∧ (0 ≤ Y ∧ Y < 10001)) := ⟨hX, hY⟩
   have HXZ : Aside (frm % 10001 = X ∧ til % 10001 = Y) := ⟨hX3, hY3⟩
   have HW4 : Aside (Below w.heap.size w w2) := b2
   have hB1 : w.heap.size + 1 < w2.heap.size := x2.lt
   have S4 : Aside (Boxed w2 (w.heap.size + 1) #[.int .u8 7, .int .u32 id, .int .u32 0, .slice none 0 0, .slice none 0 0, .int .u32 0, .slice none 0 0, .int .i64 X, .int .i64 Y, .slice none 0 0] 46 ∧ Boxed w2 w.heap.size #[.int .u8 0, .int .u32 0, .int .u32 0, .slice none 0 0, .slice none 0 0, .int .u32 0, .slice none 0 0, .int .i64 0, .int .i64 0, .slice none 0 0] 46 ∧ EsOwn w2.heap.size w2 (.slice none 0 0) []) := ⟨x2, y2, es_nil _ _⟩
   obtain ⟨k0, hk0, hkz1, hkz2, hkz3⟩ := info_parts info_ent
   generalize w2 = W4 at S4 HW4 hB1 ⊢
   clear x2 y2 b2 n0 hX hY eX eY hX1 hX2 hX3 hY1 hY2 hY3
   go_wp2_with fail
   go_loopg [23, 24] 50 (fun g1 vl vk wr => ∃ (k la : Nat) (ev : Option Addr) (ecv : Nat), vl = .int .u32 la ∧ vk = .int .i64 k ∧ k ≤ en ∧ k ≤ 50 ∧ 50 - k ≤ g1 ∧ la ≤ 1000 * k ∧ Aside (Boxed wr (w.heap.size + 1) #[.int .u8 7, .int .u32 id, .int .u32 0, .slice none 0 0, .slice none 0 0, .int .u32 0, .slice none 0 0, .int .i64 X, .int .i64 Y, .slice ev k ecv] 46 ∧ Boxed wr w.heap.size #[.int .u8 0, .int .u32 0, .int .u32 0, .slice none 0 0, .slice none 0 0, .int .u32 0, .slice none 0 0, .int .i64 0, .int .i64 0, .slice none 0 0] 46 ∧ W4.grownBy wr (some (w.heap.size + 1)) ∧ ∃ el : List Et, el.length = k ∧ EsOwn W4.heap.size wr (.slice ev k ecv) el ∧ entsUp (el.map pe) = true ∧ (∀ e ∈ el.map pe, e.1 ≤ (la : Int)) ∧ (ew el ≤ ew (es.take k) ∧ (la : Int) = laOf es k ∧ el.map pe = enOf es k)))
   case atStart => exact ⟨0, 0, none, 0, rfl, rfl, Nat.zero_le _, Nat.zero_le _, nrQ _, Nat.zero_le _, S4.out.1, S4.out.2.1, grown_refl _ _, [], rfl, S4.out.2.2, rfl, by simp, by simp [ew], rfl, rfl⟩
   case round =>
    clear S4
    obtain ⟨k, la, ev, ecv, rfl, rfl, hks, hk4, hg1, hla, SK⟩ := hrel
    obtain ⟨hx, hy, hg, el, hsl, hes, hup, hlast, hwt⟩ := SK.out
    clear SK
    by_cases hlt : k < en
    ·have hltz : (k : Int) < (en : Int) := by omega
     by_cases hlt4 : k < 50
     ·have hlt4z : (k : Int) < 50 := by omega
      have hb0 : Below w.heap.size w wr := HW4.out.grown hg HW4.out.size (fun q hq => by injection hq; omega)
      obtain ⟨b, off, ha, hc⟩ := (HA.out.2.2.2.2.1.keep hb0).get (k := k) (by rw [HA.out.2.2.2.2.2]; exact hlt)
      subst ha
      obtain ⟨r0, r1, r2⟩ := hc k (by rw [HA.out.2.2.2.2.2]; exact hlt)
      have ht0 := r2.num
      obtain ⟨m, hm1, hm2⟩ : ∃ m : Nat, (etn es k).t.tmod 1000 = (m : Int) ∧ m < 1000 := by
       unfold U32 at ht0
       rw [Int.tmod_eq_emod_of_nonneg ht0.1]
       exact ⟨((etn es k).t % 1000).toNat, by omega, by omega⟩
      have hm3 : (etn es k).t % 1000 = (m : Int) := by
       unfold U32 at ht0
       rw [← hm1, Int.tmod_eq_emod_of_nonneg ht0.1]
      have hC := facts7_any (etn es k).a (etn es k).fs.length (etn es k).cap (etn es k).fs wr.drew (r2.mem.keep (Below.refl _ _).drew) rfl r2.len
      have HFK : Aside (∀ os : List Ft, os.map pf = ((etn es k).fs.take 60).map mkF → factsOk (os.map pf) = true) := fun os h => by rw [h]; exact mkF_ok _
      have HTW : Aside (ew (es.take (k + 1)) = ew (es.take k) + (1 + fw (etn es k).fs)) := ew_take es k (by rw [HA.out.2.2.2.2.2]; exact hlt)
      have HTK : Aside (laOf es (k + 1) = laOf es k + (1 + (m : Int)) ∧ enOf es (k + 1) = enOf es k ++ [(laOf es (k + 1), ((etn es k).fs.take 60).map mkF)]) := ⟨by rw [laOf, hm3], rfl⟩
      generalize (etn es k).fs = fk at r1 hC HFK HTW HTK
      clear hc r2 ht0 hb0
      generalize (etn es k).t = t4 at r0 hm1 hm3
      obtain ⟨fkl, hfkl⟩ : ∃ fkl, fk.length = fkl := ⟨_, rfl⟩
      rw [hfkl] at r1 hC
      generalize (etn es k).cap = t2 at r1 hC
      generalize (etn es k).a = t3 at r1 hC
      clear hfkl
      have hown := hes.own
      rw [hsl] at hown
      have hlw : ∀ q, (Value.slice ev k ecv).ownBlock = some q → W4.heap.size ≤ q := fun q hq => (World.ownsRow.lt hown _ hq).1
      have hsz := hg.size
      have hlx := hx.lt
      have c9 := hx.cell (j := 9) rfl
      have z9 := hx.frz 9
      have HX3 : ∀ W, Below wr.drew.heap.size wr.drew W → ∀ o w3, (W.alloc o).grownBy w3 (Value.slice ev k ecv).ownBlock → Boxed w3 (w.heap.size + 1) #[.int .u8 7, .int .u32 id, .int .u32 0, .slice none 0 0, .slice none 0 0, .int .u32 0, .slice none 0 0, .int .i64 X, .int .i64 Y, .slice ev k ecv] 46 ∧ Boxed w3 w.heap.size #[.int .u8 0, .int .u32 0, .int .u32 0, .slice none 0 0, .slice none 0 0, .int .u32 0, .slice none 0 0, .int .i64 0, .int .i64 0, .slice none 0 0] 46 := fun W hW o w3 h3 => ⟨(hx.below (((Below.refl _ _).drew.trans hW).alloc hW.size o)).grown h3 (fun e => by have := hlw _ e.symm; omega), (hy.below (((Below.refl _ _).drew.trans hW).alloc hW.size o)).grown h3 (fun e => by have := hlw _ e.symm; omega)⟩
      have HC9 : ∀ W, Below wr.drew.heap.size wr.drew W → W.cell? ⟨w.heap.size + 1, 9, none⟩ = some (.slice ev k ecv) := fun W hW => (hx.below ((Below.refl _ _).drew.trans hW)).cell (j := 9) rfl
      have HH : Aside (el.length = k ∧ EsOwn W4.heap.size wr (.slice ev k ecv) el ∧ entsUp (el.map pe) = true ∧ (∀ e ∈ el.map pe, e.1 ≤ (la : Int)) ∧ W4.grownBy wr (some (w.heap.size + 1)) ∧ (ew el ≤ ew (es.take k) ∧ (la : Int) = laOf es k ∧ el.map pe = enOf es k)) := ⟨hsl, hes, hup, hlast, hg, hwt⟩
      clear hsl hes hup hlast hg hwt
      go_wp2_with fail
      go_region_law (first
       | (go_simp; refine hC.mono ?_; rintro e wf ⟨vf, rfl, hF7, gf⟩; obtain ⟨os, ho1, ho2⟩ := hF7; obtain ⟨af, cf, hvf⟩ := fs_form ho1; subst hvf; have c9f := HC9 _ gf; have hownF := own_below (World.ownsRow.drew hown) gf; have hszF : wr.heap.size ≤ wf.heap.size := gf.size; have hltF : w.heap.size + 1 < wf.heap.size := (by omega); obtain ⟨on, hon⟩ : ∃ on, os.length = on := ⟨_, rfl⟩; rw [hon])
       | (refine step_append_lies _ (by rfl) _ _ _ (by rfl) W4.heap.size 94 k0 _ 2 32 Tryz.underlying44 hk0 hkz1 hkz2 hkz3 rfl (by decide) _ k _ (by rfl) (World.ownsRow.alloc hownF _) ⟨wf.heap.size, 0, none⟩ 1 1 [.int .u32 ((la : Int) + (1 + (m : Int))), .slice af on cf] (by rfl) rfl (cells_two_new wf _ _ _) (by intro u hu; simp at hu; rcases hu with rfl | rfl <;> rfl) (by decide) (by unfold maxLen; omega) (by omega) (by first | omega | (simp; done) | (simp; omega)) _ rfl ?_; intro g3 c3 w3 hown3 hgrow hat3 hglt; obtain ⟨hx3, hy3⟩ := HX3 _ gf _ _ hgrow; have q9 := hx3.cell (j := 9) rfl; have y9 := hx3.frz 9))

      all_goals
       have hb1 : Below wr.heap.size wr wf := (Below.refl _ _).drew.trans gf
       have hfi : Far (wf.alloc (.cells #[.int .u32 ((la : Int) + (1 + (m : Int))), .slice af on cf] 94)) (Value.slice ev k ecv).ownBlock 3 := far_row (World.ownsRow.alloc hownF _) (by decide)
       have hff : Far (wf.alloc (.cells #[.int .u32 ((la : Int) + (1 + (m : Int))), .slice af on cf] 94)) (Value.slice ev k ecv).ownBlock 124 := far_row (World.ownsRow.alloc hownF _) (by decide)
       have hU : U32 ((la : Int) + (1 + (m : Int))) := by unfold U32; omega
       have S2 : Aside (Boxed (w3.setCell ⟨w.heap.size + 1, 9, none⟩ (.slice (some ⟨g3, 0, none⟩) (k + 1) c3)) (w.heap.size + 1) #[.int .u8 7, .int .u32 id, .int .u32 0, .slice none 0 0, .slice none 0 0, .int .u32 0, .slice none 0 0, .int .i64 X, .int .i64 Y, .slice (some ⟨g3, 0, none⟩) (k + 1) c3] 46 ∧ Boxed (w3.setCell ⟨w.heap.size + 1, 9, none⟩ (.slice (some ⟨g3, 0, none⟩) (k + 1) c3)) w.heap.size #[.int .u8 0, .int .u32 0, .int .u32 0, .slice none 0 0, .slice none 0 0, .int .u32 0, .slice none 0 0, .int .i64 0, .int .i64 0, .slice none 0 0] 46 ∧ W4.grownBy (w3.setCell ⟨w.heap.size + 1, 9, none⟩ (.slice (some ⟨g3, 0, none⟩) (k + 1) c3)) (some (w.heap.size + 1)) ∧ ∃ el : List Et, el.length = k + 1 ∧ EsOwn W4.heap.size (w3.setCell ⟨w.heap.size + 1, 9, none⟩ (.slice (some ⟨g3, 0, none⟩) (k + 1) c3)) (.slice (some ⟨g3, 0, none⟩) (k + 1) c3) el ∧ entsUp (el.map pe) = true ∧ (∀ e ∈ el.map pe, e.1 ≤ ((la + (1 + m) : Nat) : Int)) ∧ (ew el ≤ ew (es.take (k + 1)) ∧ ((la + (1 + m) : Nat) : Int) = laOf es (k + 1) ∧ el.map pe = enOf es (k + 1))) := by
        refine ⟨hx3.set 9 _, hy3.grown (grown_at _ _ _ _) (by simp only [ne_eq, oiQ]; omega), grown_trans (grown_row (grown_trans (grown_trans (grown_trans HH.out.2.2.2.2.1 (grown_drew _ _)) (grown_any gf _)) (World.grownBy_alloc _ _ _)) hgrow hlw) (grown_at _ _ _ _), el ++ [⟨(la : Int) + (1 + (m : Int)), af, cf, os⟩], by simp [HH.out.1], ⟨?_, fun e he => ?_⟩, ?_, fun e he => ?_, ?_, by rw [HTK.out.1, ← HH.out.2.2.2.2.2.2.1]; omega, by rw [List.map_append, HH.out.2.2.2.2.2.2.2, HTK.out.2, HTK.out.1, ← HH.out.2.2.2.2.2.2.1]; show _ ++ [((la : Int) + (1 + (m : Int)), os.map pf)] = _; rw [ho2]⟩
        ·have e1 : (el ++ [(⟨(la : Int) + (1 + (m : Int)), af, cf, os⟩ : Et)]).flatMap entC = el.flatMap entC ++ [Value.int .u32 ((la : Int) + (1 + (m : Int))), Value.slice af on cf] := by simp [entC, hon]
         have e2 : (el ++ [(⟨(la : Int) + (1 + (m : Int)), af, cf, os⟩ : Et)]).length = k + 1 := by simp [HH.out.1]
         rw [e1, e2]
         refine hown3.kept (grown_at _ _ _ _) (Or.inr fun e => ?_)
         have := (World.ownsRow.lt hown3 _ e).1
         omega
        ·rcases List.mem_append.1 he with he | he
         ·exact (HH.out.2.1.all e he).step hb1 hgrow hfi hff hx3
         ·simp only [List.mem_singleton] at he
          subst he
          exact EtOwn.step (W := wf) (W1 := wf) ⟨ho1.mono hsz, hU⟩ (Below.refl _ _) hgrow hfi hff hx3
        ·rw [List.map_append]
         exact entsUp_snoc HH.out.2.2.1 HH.out.2.2.2.1 (by show (la : Int) < (la : Int) + (1 + (m : Int)); omega) (HFK.out os ho2)
        ·rw [List.map_append] at he
         rcases List.mem_append.1 he with he | he
         ·have := HH.out.2.2.2.1 e he; omega
         ·simp only [List.map_cons, List.map_nil, List.mem_singleton] at he
          subst he
          show (la : Int) + (1 + (m : Int)) ≤ _
          omega
        ·rw [ew_app, HTW.out]
         have h1 := HH.out.2.2.2.2.2.1
         have h2 := fw_mk ho2
         simp only [ew]
         omega
       clear hown3 hgrow hat3 hglt hx3 hy3 q9 y9 HX3 HC9 hownF hown c9f hszF hltF hx hy c9 z9 hb1 hfi hff hU gf ho1 ho2 hon hC r0 r1
       go_wp2
       go_roundg (50 - (k + 1))
       case measure => omega
       case rel => exact ⟨k + 1, la + (1 + m), _, _, by go_num, by go_num, by omega, by omega, by omega, by omega, S2⟩
     ·have hlt4z : ¬ (k : Int) < 50 := by omega
      have x9 := hx
      have y9 := hy
      have b9 : Below w.heap.size w wr := HW4.out.grown hg HW4.out.size (fun q hq => by injection hq; omega)
      have s0 : EsOwn w.heap.size wr (.slice ev k ecv) el := hes.mono HW4.out.size
      have HSP : Aside (el.length = k ∧ entsOk (el.map pe) = true) := ⟨hsl, by unfold entsOk; rw [hup, List.length_map, decide_eq_true (show el.length ≤ 5000 by omega)]; rfl⟩
      have HEW : Aside (ew el ≤ ew es ∧ el.map pe = enOf es (min es.length 50)) := ⟨Int.le_trans hwt.1 (ew_take_le es k), by rw [hwt.2.2, show min es.length 50 = k by rw [HA.out.2.2.2.2.2]; omega]⟩
      clear hx hy hg hsl hup hlast hes hwt
      generalize wr = w9 at x9 y9 b9 s0 ⊢
      have HF : Aside (∀ W, w9.grownBy W (some w.heap.size) → MkRes7 (ew es) (ss = []) (mkQ kind id at_ nodes frm til fs es) (.agg #[.int .u8 7, .int .u32 id, .int .u32 0, .slice none 0 0, .slice none 0 0, .int .u32 0, .slice none 0 0, .int .i64 X, .int .i64 Y, .slice ev k ecv]) W ∧ Below w.heap.size w W) := fun W hG => by
       have hO : RcOwn w.heap.size w9 ⟨7, id, 0, none, 0, [], none, 0, [], 0, none, 0, [], X, Y, ev, ecv, el⟩ := ⟨by show (0 : Int) ≤ 7 ∧ (7 : Int) ≤ 255; omega, HU.out.1, u32_nought, ns_nil _ _, fs_nil _ _, u32_nought, ss_nil _ _, by have := HXY.out; show I64 X; unfold I64; omega, by have := HXY.out; show I64 Y; unfold I64; omega, by rw [HSP.out.1]; exact s0⟩
       refine ⟨⟨⟨7, id, 0, none, 0, [], none, 0, [], 0, none, 0, [], X, Y, ev, ecv, el⟩, by unfold rcV rcC; simp [HSP.out.1], ⟨_, hO.far hG (y9.far (by decide)) (y9.far (by decide)) (y9.far (by decide)) (y9.far (by decide))⟩, ?_, rfl, HEW.out.1, fun hss => ?_⟩, b9.grown hG b9.size (fun q hq => by injection hq; omega)⟩
       ·show sndRec _ = true
        dsimp only [sndRec, pr, bareA, bareN, bareF, bareI, bareM, bareR]
        rw [HSP.out.2, show decide (0 ≤ X ∧ X ≤ 10000) = true from decide_eq_true (by have := HXY.out; omega), show decide (0 ≤ Y ∧ Y ≤ 10000) = true from decide_eq_true (by have := HXY.out; omega)]
        rfl
       ·unfold mkQ
        rw [if_neg (by have := HK.out; omega), if_neg (by have := HK.out; omega), if_neg (by have := HK.out; omega), if_pos HK.out]
        show (⟨7, id, 0, [], [], 0, [], X, Y, el.map pe⟩ : PRec) = _
        rw [HEW.out.2, HXZ.out.1, HXZ.out.2]
      have c0 := x9.cell (j := 0) rfl
      have e0 := y9.cell (j := 0) rfl
      have z0 := y9.frz 0
      have c1 := x9.cell (j := 1) rfl
      have e1 := y9.cell (j := 1) rfl
      have z1 := y9.frz 1
      have c2 := x9.cell (j := 2) rfl
      have e2 := y9.cell (j := 2) rfl
      have z2 := y9.frz 2
      have c3 := x9.cell (j := 3) rfl
      have e3 := y9.cell (j := 3) rfl
      have z3 := y9.frz 3
      have c4 := x9.cell (j := 4) rfl
      have e4 := y9.cell (j := 4) rfl
      have z4 := y9.frz 4
      have c5 := x9.cell (j := 5) rfl
      have e5 := y9.cell (j := 5) rfl
      have z5 := y9.frz 5
      have c6 := x9.cell (j := 6) rfl
      have e6 := y9.cell (j := 6) rfl
      have z6 := y9.frz 6
      have c7 := x9.cell (j := 7) rfl
      have e7 := y9.cell (j := 7) rfl
      have z7 := y9.frz 7
      have c8 := x9.cell (j := 8) rfl
      have e8 := y9.cell (j := 8) rfl
      have z8 := y9.frz 8
      have c9 := x9.cell (j := 9) rfl
      have e9 := y9.cell (j := 9) rfl
      have z9 := y9.frz 9
      clear x9 y9 b9 s0
      go_wp2
      refine bodyPost_ret (v := .agg #[.int .u8 7, .int .u32 id, .int .u32 0, .slice none 0 0, .slice none 0 0, .int .u32 0, .slice none 0 0, .int .i64 X, .int .i64 Y, .slice ev k ecv]) (by simp [results, Tryz.results33, go_sem, *]) rfl ⟨_, rfl, (HF.out _ ?_).1, (HF.out _ ?_).2⟩
      all_goals
       iterate 9 (refine grown_trans ?_ (grown_at _ _ _ _))
       exact grown_at _ _ _ _
    ·have hltz : ¬ (k : Int) < (en : Int) := by omega
     have x9 := hx
     have y9 := hy
     have b9 : Below w.heap.size w wr := HW4.out.grown hg HW4.out.size (fun q hq => by injection hq; omega)
     have s0 : EsOwn w.heap.size wr (.slice ev k ecv) el := hes.mono HW4.out.size
     have HSP : Aside (el.length = k ∧ entsOk (el.map pe) = true) := ⟨hsl, by unfold entsOk; rw [hup, List.length_map, decide_eq_true (show el.length ≤ 5000 by omega)]; rfl⟩
     have HEW : Aside (ew el ≤ ew es ∧ el.map pe = enOf es (min es.length 50)) := ⟨Int.le_trans hwt.1 (ew_take_le es k), by rw [hwt.2.2, show min es.length 50 = k by rw [HA.out.2.2.2.2.2]; omega]⟩
     clear hx hy hg hsl hup hlast hes hwt
     generalize wr = w9 at x9 y9 b9 s0 ⊢
     have HF : Aside (∀ W, w9.grownBy W (some w.heap.size) → MkRes7 (ew es) (ss = []) (mkQ kind id at_ nodes frm til fs es) (.agg #[.int .u8 7, .int .u32 id, .int .u32 0, .slice none 0 0, .slice none 0 0, .int .u32 0, .slice none 0 0, .int .i64 X, .int .i64 Y, .slice ev k ecv]) W ∧ Below w.heap.size w W) := fun W hG => by
      have hO : RcOwn w.heap.size w9 ⟨7, id, 0, none, 0, [], none, 0, [], 0, none, 0, [], X, Y, ev, ecv, el⟩ := ⟨by show (0 : Int) ≤ 7 ∧ (7 : Int) ≤ 255; omega, HU.out.1, u32_nought, ns_nil _ _, fs_nil _ _, u32_nought, ss_nil _ _, by have := HXY.out; show I64 X; unfold I64; omega, by have := HXY.out; show I64 Y; unfold I64; omega, by rw [HSP.out.1]; exact s0⟩
      refine ⟨⟨⟨7, id, 0, none, 0, [], none, 0, [], 0, none, 0, [], X, Y, ev, ecv, el⟩, by unfold rcV rcC; simp [HSP.out.1], ⟨_, hO.far hG (y9.far (by decide)) (y9.far (by decide)) (y9.far (by decide)) (y9.far (by decide))⟩, ?_, rfl, HEW.out.1, fun hss => ?_⟩, b9.grown hG b9.size (fun q hq => by injection hq; omega)⟩
      ·show sndRec _ = true
       dsimp only [sndRec, pr, bareA, bareN, bareF, bareI, bareM, bareR]
       rw [HSP.out.2, show decide (0 ≤ X ∧ X ≤ 10000) = true from decide_eq_true (by have := HXY.out; omega), show decide (0 ≤ Y ∧ Y ≤ 10000) = true from decide_eq_true (by have := HXY.out; omega)]
       rfl
      ·unfold mkQ
       rw [if_neg (by have := HK.out; omega), if_neg (by have := HK.out; omega), if_neg (by have := HK.out; omega), if_pos HK.out]
       show (⟨7, id, 0, [], [], 0, [], X, Y, el.map pe⟩ : PRec) = _
       rw [HEW.out.2, HXZ.out.1, HXZ.out.2]
     have c0 := x9.cell (j := 0) rfl
     have e0 := y9.cell (j := 0) rfl
     have z0 := y9.frz 0
     have c1 := x9.cell (j := 1) rfl
     have e1 := y9.cell (j := 1) rfl
     have z1 := y9.frz 1
     have c2 := x9.cell (j := 2) rfl
     have e2 := y9.cell (j := 2) rfl
     have z2 := y9.frz 2
     have c3 := x9.cell (j := 3) rfl
     have e3 := y9.cell (j := 3) rfl
     have z3 := y9.frz 3
     have c4 := x9.cell (j := 4) rfl
     have e4 := y9.cell (j := 4) rfl
     have z4 := y9.frz 4
     have c5 := x9.cell (j := 5) rfl
     have e5 := y9.cell (j := 5) rfl
     have z5 := y9.frz 5
     have c6 := x9.cell (j := 6) rfl
     have e6 := y9.cell (j := 6) rfl
     have z6 := y9.frz 6
     have c7 := x9.cell (j := 7) rfl
     have e7 := y9.cell (j := 7) rfl
     have z7 := y9.frz 7
     have c8 := x9.cell (j := 8) rfl
     have e8 := y9.cell (j := 8) rfl
     have z8 := y9.frz 8
     have c9 := x9.cell (j := 9) rfl
     have e9 := y9.cell (j := 9) rfl
     have z9 := y9.frz 9
     clear x9 y9 b9 s0
     go_wp2
     refine bodyPost_ret (v := .agg #[.int .u8 7, .int .u32 id, .int .u32 0, .slice none 0 0, .slice none 0 0, .int .u32 0, .slice none 0 0, .int .i64 X, .int .i64 Y, .slice ev k ecv]) (by simp [results, Tryz.results33, go_sem, *]) rfl ⟨_, rfl, (HF.out _ ?_).1, (HF.out _ ?_).2⟩
     all_goals
      iterate 9 (refine grown_trans ?_ (grown_at _ _ _ _))
      exact grown_at _ _ _ _
theorem make_7 (kind id at_ nodes frm til : Int) (fa sa ea : Option Addr) (fn fc sn sc en ec : Nat) (fs : List Ft) (ss : List Int) (es : List Et) (w : World) (hk : kind % 7 = 6) (hk0 : 0 ≤ kind ∧ kind ≤ 255) (hid : U32 id) (hat : U32 at_) (hn0 : 0 ≤ nodes ∧ nodes ≤ 255)
  (hF : FactsIn w fa fs) (hf : fs.length = fn) (hfm : fn ≤ 9223372036854775807) (hS : dims.Nums .u16 w sa sn sc ss) (hfr : 0 ≤ frm ∧ frm ≤ 65535) (hti : 0 ≤ til ∧ til ≤ 65535) (hE : EntsIn w ea es) (he : es.length = en) (hem : en ≤ 9223372036854775807) :
  Calls Tryz.prog 33 #[.int .u8 kind, .int .u32 id, .int .u32 at_, .int .u8 nodes, .slice fa fn fc, .slice sa sn sc, .int .u16 frm, .int .u16 til, .slice ea en ec] w fun e w' => ∃ v, e = .returned v ∧ MkRes 7 (ss = []) (mkQ kind id at_ nodes frm til fs es) v w' ∧ Below w.heap.size w w' :=
 (make_7w kind id at_ nodes frm til fa sa ea fn fc sn sc en ec fs ss es w hk hk0 hid hat hn0 hF hf hfm hS hfr hti hE he hem).mono fun e w' ⟨v, h1, ⟨r, h2, h3, h4, h5, _, h7⟩, h6⟩ => ⟨v, h1, ⟨r, h2, h3, h4, h5, h7⟩, h6⟩
end code
end Go.Proofs.YtlcjllgfpfldlaaGreat
