/-
 The contract of frame.Scan.
-/
import Derived.Test.YtlcjllgfpfldlaaGreatFrameFrames
import Derived.Test.YtlcjllgfpfldlaaGreatFrameSame
import Derived.Test.YtlcjllgfpfldlaaGreatByteRound
import Derived.RangeFuncWrites
import Derived.RangeFuncFrom
import Derived.RangeFuncBox
set_option maxHeartbeats 4000000
open Go.ChangeShapes Go.WideShapes Go.ChangeAt Go.RowKit Go.Deep Go.Shelf
set_option linter.unusedVariables false
set_option maxRecDepth 100000
set_option linter.unusedSimpArgs false
namespace Go.Proofs.YtlcjllgfpfldlaaGreat
namespace frame
open bytes
attribute [local go_sem] Oper.semAt_some

theorem frames_stops (d : Nat) (n c B n₀ : Nat) (a : Option Addr) (l : List UInt8) (hd : 1 ≤ d) (hn : n ≤ 1000000000000) (w : World) (hS : Sl w a n c l) (hlow : l ≠ [] → ∀ p, a = some p → p.block < n₀) (hB : Go.Boxed w B 54 (.slice a n c)) :
  SeqStopsK Fence.wide d Tryz.prog 86 #[.pointer (some ⟨B, 0, none⟩)] (encs (n := n) a c) (Keeps n₀ B (.slice a n c)) (fun xs => xs.map (heldB l) = scanB l ∧ endOf xs = (rowsB (scanB l)).length) (fun _ => True) (n + 1) w := fun li J Jx W hW hJ hJx hY h0 => by
 refine frames1_in d n c B n₀ li a l J Jx hS.at_.len hn hd W (hS.keep hW) hlow (Go.Boxed.kept (row := none) hB ⟨hW.os, hW.tape, hW.output, hW.size, fun i hi _ => hW.block i hi⟩ (by simp)) hY (fun pre W1 W2 h hb => ?_) h0
 exact hJ pre W1 W2 none h ⟨hb.os, hb.tape, hb.output, hb.size, fun i hi _ => hb.block i hi⟩ (fun r e => by cases e)

theorem info_row8 : (Tryz.prog.info? 54).map (fun i => (i.zero, i.size, i.bytes)) = some (some (.slice none 0 0), 1, 24) := by kernel_rfl
theorem no_row {W : World} {row : Option Nat} {B g : Nat} {cs : Array Value} {t : TypeId} {fr : Nat × Nat} (hrow : ∀ r, row = some r → B ≤ r ∧ ∃ o : Obj, W.heap[r]? = some o ∧ o.isCells = false) (hg : W.heap[g]? = some (.cells cs t fr)) : row ≠ some g := fun e => by
 obtain ⟨_, o, ho, hc⟩ := hrow g e
 rw [hg] at ho; cases ho; cases hc
theorem own_no {W W' : World} {row : Option Nat} {B b : Nat} {e : TypeId} {s n : Nat} {v : Value} {xs : List Value} (hrow : ∀ r, row = some r → B ≤ r ∧ ∃ o : Obj, W.heap[r]? = some o ∧ o.isCells = false) (h : W.ownsRow b e s v n xs) (hg : W.grownBy W' row) : W'.ownsRow b e s v n xs := by
 refine own_grown h hg fun g hv => ?_
 rcases h.2 with ⟨h1, _⟩ | ⟨g', cap, cur, h1, _, hb, _⟩
 ·subst h1; cases hv
 ·subst h1
  simp only [Value.ownBlock, Option.some.injEq] at hv
  subst hv
  exact no_row hrow hb
structure Inv (w : World) (a : Option Addr) (n c : Nat) (l : List UInt8) (pre : List (Fr n)) (W : World) : Prop where
 row : ∃ v ls, Go.Boxed W w.heap.size 71 v ∧ RowOut (w.heap.size + 3) W v ls ∧ ls.map (·.l) = pre.map (heldB l)
 size : Go.Boxed W (w.heap.size + 1) 3 (.int .i64 (endOf pre : Nat))
 box : Go.Boxed W (w.heap.size + 1 + 1) 54 (.slice a n c)
 bel : Below w.heap.size w W
theorem inv_own (w : World) (a : Option Addr) (n c : Nat) (l : List UInt8) (B : Nat) (hB : w.heap.size ≤ B) : OwnFrom B (Inv w a n c l) := by
 rintro pre X Y row ⟨⟨v, ls, hv, hr, he⟩, hs, hb, hbel⟩ hg hrow
 have hk : ∀ {b : Nat} {t : TypeId} {u : Value}, Go.Boxed X b t u → Go.Boxed Y b t u := fun {b t u} h => h.kept hg (fun e => no_row hrow (show X.heap[b]? = _ from h) e.symm)
 exact ⟨⟨v, ls, hk hv, ⟨own_no hrow hr.own hg, fun x hx => own_no hrow (hr.els x hx) hg⟩, he⟩, hk hs, hk hb, hbel.grown hg hbel.size fun q hq => Nat.le_trans hB (hrow q hq).1⟩

theorem box_step {w2 w3 : World} {b : Nat} {t : TypeId} {u v : Value} {tmp : Obj} {B k : Nat} {xs : List Value} (h : Go.Boxed w2 b t u) (ht : t ≠ 54 ∨ some b ≠ v.ownBlock) (hown : (w2.alloc tmp).ownsRow B 54 1 v k xs) (hgr : (w2.alloc tmp).grownBy w3 v.ownBlock) : Go.Boxed w3 b t u := by
 have h2 := h.alloc tmp
 rcases ht with ht | ht
 ·exact h2.kept hgr (h2.not_row ht hown)
 ·exact h2.kept hgr ht
theorem scan_step {w W w2 w3 : World} {a : Option Addr} {n c p B : Nat} {l y : List UInt8} {pre : List (Fr n)} {x : Fr n} {v v3 : Value} {ls : List Lr} {e : Lr} {tmp : Obj}
  (hv : Go.Boxed W w.heap.size 71 v) (hr : RowOut (w.heap.size + 3) W v ls) (he : ls.map (·.l) = pre.map (heldB l)) (hs : Go.Boxed W (w.heap.size + 1) 3 (.int .i64 (endOf pre : Nat))) (hb : Go.Boxed W (w.heap.size + 1 + 1) 54 (.slice a n c)) (hbel : Below w.heap.size w W)
  (hb2 : Below W.heap.size W w2) (hown : (w2.alloc tmp).ownsRow (w.heap.size + 3) 54 1 v ls.length (ls.map lv)) (hgr : (w2.alloc tmp).grownBy w3 v.ownBlock)
  (hpush : RowOut (w.heap.size + 3) w3 v3 (ls ++ [e])) (hey : e.l = y) (hp : endOf (pre ++ [x]) = p) (hm : (pre ++ [x]).map (heldB l) = pre.map (heldB l) ++ [y]) :
  Go.Boxed w3 w.heap.size 71 v ∧ Go.Boxed (w3.setCell ⟨w.heap.size, 0, none⟩ v3) (w.heap.size + 1) 3 (.int .i64 (endOf pre : Nat)) ∧
   (KeepsFrom B W ((w3.setCell ⟨w.heap.size, 0, none⟩ v3).setCell ⟨w.heap.size + 1, 0, none⟩ (.int .i64 (p : Int))) ∧
    Keeps w.heap.size (w.heap.size + 1 + 1) (.slice a n c) W ((w3.setCell ⟨w.heap.size, 0, none⟩ v3).setCell ⟨w.heap.size + 1, 0, none⟩ (.int .i64 (p : Int))) ∧
    Inv w a n c l (pre ++ [x]) ((w3.setCell ⟨w.heap.size, 0, none⟩ v3).setCell ⟨w.heap.size + 1, 0, none⟩ (.int .i64 (p : Int)))) := by
 have hne : some (w.heap.size + 1 + 1) ≠ v.ownBlock := fun e => by have := (hown.lt _ e.symm).1; omega
 have g2 : W.grownBy w2 none := ⟨hb2.os, hb2.tape, hb2.output, hb2.size, fun i hi _ => hb2.block i hi⟩
 have v2 := hv.kept g2 (by simp)
 have s2 := hs.kept g2 (by simp)
 have b2 := hb.kept g2 (by simp)
 have v3' := box_step v2 (.inl (by decide)) hown hgr
 have s3 := box_step s2 (.inl (by decide)) hown hgr
 have b3 := box_step b2 (.inr hne) hown hgr
 have q4 := grownBy_setCell' w3 w.heap.size v3
 have v4 := v3'.set v3
 have s4 := s3.kept q4 (by simp <;> omega)
 have b4 := b3.kept q4 (by simp <;> omega)
 have q5 := grownBy_setCell' (w3.setCell ⟨w.heap.size, 0, none⟩ v3) (w.heap.size + 1) (.int .i64 (p : Int))
 have v5 := v4.kept q5 (by simp <;> omega)
 have s5 := s4.set (.int .i64 (p : Int))
 have b5 := b4.kept q5 (by simp <;> omega)
 have r3 : ∀ g, v3.ownBlock = some g → some w.heap.size ≠ some g := fun g hg => by rw [← hg]; exact v3'.not_row (by decide) hpush.own
 have e3 : ∀ z ∈ ls ++ [e], ∀ g, (lv z).ownBlock = some g → some w.heap.size ≠ some g := fun z hz g hg => by rw [← hg]; exact v3'.not_row (by decide) (hpush.els z hz)
 have r4 : RowOut (w.heap.size + 3) (w3.setCell ⟨w.heap.size, 0, none⟩ v3) v3 (ls ++ [e]) := ⟨own_grown hpush.own q4 r3, fun z hz => own_grown (hpush.els z hz) q4 (e3 z hz)⟩
 have r5' : ∀ g, v3.ownBlock = some g → some (w.heap.size + 1) ≠ some g := fun g hg => by rw [← hg]; exact s4.not_row (by decide) r4.own
 have e5 : ∀ z ∈ ls ++ [e], ∀ g, (lv z).ownBlock = some g → some (w.heap.size + 1) ≠ some g := fun z hz g hg => by rw [← hg]; exact s4.not_row (by decide) (r4.els z hz)
 have r5 : RowOut (w.heap.size + 3) ((w3.setCell ⟨w.heap.size, 0, none⟩ v3).setCell ⟨w.heap.size + 1, 0, none⟩ (.int .i64 (p : Int))) v3 (ls ++ [e]) := ⟨own_grown r4.own q5 r5', fun z hz => own_grown (r4.els z hz) q5 (e5 z hz)⟩
 have hwle := hbel.size
 have hB3 : Below w.heap.size W w3 := by
  refine ((hb2.mono hwle).alloc (Nat.le_trans hwle hb2.size) tmp).grown hgr (by have := hb2.size; simp; omega) fun q hq => ?_
  have := (hown.lt q hq).1
  omega
 have hB5 : Below w.heap.size W ((w3.setCell ⟨w.heap.size, 0, none⟩ v3).setCell ⟨w.heap.size + 1, 0, none⟩ (.int .i64 (p : Int))) := (hB3.setCell (p := ⟨w.heap.size, 0, none⟩) (Nat.le_refl _) _).setCell (p := ⟨w.heap.size + 1, 0, none⟩) (by simp) _
 have hK2 : KeepsOthers W w2 := ⟨hb2.size, fun k o hk _ => (hb2.block k (Array.getElem?_eq_some_iff.1 hk).1).trans hk⟩
 have hK3 : KeepsOthers W w3 := (hK2.trans (KeepsOthers.alloc w2 tmp)).trans (KeepsOthers.of_grownBy hgr fun j o ej hj => by
  rcases hown.2 with ⟨rfl, _⟩ | ⟨g, cap, cur, rfl, _, hgb, _⟩
  ·simp [Value.ownBlock] at ej
  ·obtain rfl : g = j := by simpa [Value.ownBlock] using ej
   rw [hgb] at hj; cases hj; rfl)
 refine ⟨v3', s4, ((hK3.trans (KeepsOthers.setCell _ _ _)).trans (KeepsOthers.setCell _ _ _)).from B, ⟨hB5, fun _ => b5⟩, ⟨⟨v3, ls ++ [e], v5, r5, ?_⟩, by rw [hp]; exact s5, b5, hbel.trans hB5⟩⟩
 rw [hm, List.map_append, he, List.map_cons, List.map_nil, hey]
set_option maxRecDepth 100000 in
theorem scan_any (n c : Nat) (a : Option Addr) (l : List UInt8) (w : World) (h : Sl w a n c l) (hn : n ≤ 1000000000000) :
  Calls Tryz.prog 48 #[.slice a n c] w fun e w' => ∃ v ls, e = .returned (.tuple #[v, .int .i64 ((rowsB (scanB l)).length : Nat)]) ∧ RowOut w.heap.size w' v ls ∧ ls.map (·.l) = scanB l ∧ Below w.heap.size w w' := by
 refine (callsIn_wide (n := 5)).1 ?_
 refine callsIn_of_wp_marks Tryz.func48 rfl trivial ?_ rfl
 simp only [Tryz.ntmps48, List.size_toArray, List.length_cons, List.length_nil, Nat.reduceAdd, Nat.reduceSub, Array.replicate_succ, Array.replicate_zero, List.push_toArray, List.append_toArray, List.nil_append, List.cons_append]
 gi_wp2_with (refine ⟨trivial, ?_⟩; gi_at_call 69; refine (callsIn_wide.2 (frames_in n c a _)).mono ?_; rintro e w1 ⟨rfl, rfl⟩)
 have bO := (((Go.Boxed.new w 71 (.slice none 0 0)).alloc (.cells #[.int .i64 0] 3)).alloc (.cells #[.slice a n c] 54))
 have bS := (Go.Boxed.new (w.alloc (.cells #[.slice none 0 0] 71)) 3 (.int .i64 0)).alloc (.cells #[.slice a n c] 54)
 have bB := Go.Boxed.new ((w.alloc (.cells #[.slice none 0 0] 71)).alloc (.cells #[.int .i64 0] 3)) 54 (.slice a n c)
 simp only [World.size_alloc] at bS bB
 have hb0 : Below w.heap.size w (((w.alloc (.cells #[.slice none 0 0] 71)).alloc (.cells #[.int .i64 0] 3)).alloc (.cells #[.slice a n c] 54)) := (((Below.refl _ w).alloc (Nat.le_refl _) _).alloc (by simp) _).alloc (by simp; omega) _
 have hlow : l ≠ [] → ∀ p, a = some p → p.block < w.heap.size := h.at_.low
 refine wpIn_rangeFunc_ownG rfl (by omega) (gf := 86) (lb := #[.pointer (some ⟨w.heap.size + 1 + 1, 0, none⟩)]) rfl trivial (enters_of Tryz.func86 (by kernel_rfl) rfl)
  (frames_stops (5 - 1) n c (w.heap.size + 1 + 1) w.heap.size a l (by omega) hn _ (h.keep hb0) hlow bB) keeps_t (keeps_b (by simp; omega) (by simp)) (Below.refl _ _) (fun _ => rfl)
  (Inv w a n c l) (fun _ _ _ => False) (inv_own w a n c l _ (by simp; omega)) (fun _ _ _ _ _ hs _ _ => hs)
  ⟨⟨.slice none 0 0, [], bO, RowOut.nil _ _, rfl⟩, bS, bB, hb0⟩
  (fun x => { tmps := #[.slice a n c, undef, .slice none 0 0, .int .i64 0, .pointer (some ⟨w.heap.size, 0, none⟩), .pointer (some ⟨w.heap.size + 1, 0, none⟩), .slice (held a c x) x.1.2 x.1.2, .int .i64 ((x.1.1 + x.1.2 + 7 : Nat) : Int), .slice a n c, .func (.func 86) #[] #[.pointer (some ⟨w.heap.size + 1 + 1, 0, none⟩)], .slice (held a c x) x.1.2 x.1.2, .int .i64 ((x.1.1 + x.1.2 + 7 : Nat) : Int), undef, undef, undef, undef, undef, undef, undef, undef], defers := [] }) ?assign ?body ?done ?stop
 case assign =>
  intro l x W K hK
  unfold encs
  gi_wp2
  exact hK
 case body =>
  rintro li pre x W ⟨⟨v, ls, hv, hr, he⟩, hs, hb, hbel⟩ hlt
  have hsl := held_sl (h.keep hbel) x
  have hc0 : W.drew.cell? ⟨w.heap.size, 0, none⟩ = some v := hv.cell
  have hm0 : x.1.2 ≤ 140737488355328 := by have := x.2; omega
  have hS := same_any x.1.2 x.1.2 (held a c x) (heldB l x) W.drew (hsl.keep ((Below.refl _ _).drew)) hm0
  obtain ⟨i0, hi, hz0, hz1, hz2⟩ := info_parts info_row8
  have hlen : ls.length = pre.length := by have := congrArg List.length he; simpa using this
  have HE : Aside (endOf (pre ++ [x]) = x.1.1 + x.1.2 + 7 ∧ (pre ++ [x]).map (heldB l) = pre.map (heldB l) ++ [heldB l x]) := ⟨endOf_snoc _ _, by simp⟩
  have HI : Aside (Inv w a n c l pre W) := ⟨⟨v, ls, hv, hr, he⟩, hs, hb, hbel⟩
  have hlt2 : ls.length ≤ 1000000000000 := by omega
  obtain ⟨m, hm⟩ : ∃ m, x.1.2 = m := ⟨_, rfl⟩
  obtain ⟨p, hp⟩ : ∃ p, x.1.1 + x.1.2 + 7 = p := ⟨_, rfl⟩
  obtain ⟨q, hq⟩ : ∃ q, held a c x = q := ⟨_, rfl⟩
  obtain ⟨y, hy⟩ : ∃ y, heldB l x = y := ⟨_, rfl⟩
  rw [hp, hy] at HE
  rw [hm, hq, hy] at hS
  rw [hp, hm, hq]
  have hylen := hsl.at_.len
  rw [hy, hm] at hylen
  have HP : Aside (_ ∧ _ ∧ _ ∧ _) := ⟨he, hs, hb, hbel⟩
  clear hp hq hm hy hm0 hsl
  have HI0 : Aside (Go.Boxed W w.heap.size 71 v ∧ RowOut (w.heap.size + 3) W v ls) := ⟨hv, hr⟩
  have HN : Aside (w.heap.size + 3 ≤ W.heap.size) := by show _ ≤ _; have := hb.lt; omega
  clear hv hr he hs hb hlen hlow bO bS bB hb0 h
  gi_wp2_with fail
  refine wpIn_round (by kernel_rfl) (by kernel_rfl) (fun _ _ h => h) ?_
  refine wpAny_take (i := 1) (v := .slice q m m) rfl (by kernel_rfl) (by kernel_rfl) (by kernel_rfl) (fun _ _ _ h => h) (Or.inl ⟨by rfl, fun w => by go_simp⟩) ?_
  refine wpAny_ready (rs := [0, 2]) (by kernel_rfl) (by simp) (AllReady.cons rfl (fun K hK => ?_) (AllReady.cons rfl (fun K hK => ?_) AllReady.nil))
  ·go_simp
   refine hK _ _ ?_
   clear hK K
   refine wpAny_ready (rs := [2]) (by kernel_rfl) (by simp) (AllReady.cons rfl (fun K hK => ?_) AllReady.nil)
   go_simp
   refine hS.mono ?_
   rintro e w2 ⟨g, rfl, hbs, hb2⟩
   refine hK _ _ ?_
   clear hK K
   have bO2 : Go.Boxed w2 w.heap.size 71 v := Go.Boxed.kept (row := none) (show Go.Boxed W.drew _ _ _ from HI0.out.1) ⟨hb2.os, hb2.tape, hb2.output, hb2.size, fun i hi _ => hb2.block i hi⟩ (by simp)
   have bO3 := bO2.alloc (.cells #[.slice (some ⟨g, 0, none⟩) m m] 54)
   have hcc := bO2.cell
   have hcd := bO3.cell
   refine wpAny_ready (rs := [3]) (by kernel_rfl) (by simp) (AllReady.cons rfl (fun K hK => ?_) AllReady.nil)
   go_simp
   refine hK _ _ ?_
   clear hK K
   have hro := (HI0.out.2.keep (show Below W.heap.size W W.drew from (Below.refl _ _).drew)).keep hb2
   have hown : (w2.alloc (.cells #[.slice (some ⟨g, 0, none⟩) m m] 54)).ownsRow (w.heap.size + 3) 54 1 v ls.length (ls.map lv) := hro.own.alloc _
   have hbase : w.heap.size + 3 ≤ (w2.alloc (.cells #[.slice (some ⟨g, 0, none⟩) m m] 54)).heap.size := by have h1 := HN.out; have h2 := hb2.size; simp; simp at h2; omega
   refine wpAny_ready (rs := [4]) (by kernel_rfl) (by simp) (AllReady.cons rfl (fun K hK => ?_) AllReady.nil)
   refine step_append_lies _ rfl (.tmp 12) (.tmp 15) 71 rfl (w.heap.size + 3) 54 i0 (.slice none 0 0) 1 24 Tryz.underlying71 hi hz0 hz1 hz2 rfl (by decide) v ls.length (ls.map lv) rfl hown ⟨w2.heap.size, 0, none⟩ 1 1 [.slice (some ⟨g, 0, none⟩) m m] rfl rfl (cell_one_new _ _ _) (by intro u hu; simp at hu; subst hu; rfl) (by omega) (by unfold maxLen; omega) (by omega) hbase (w2.heap.size + 1) (by simp) ?_
   intro g3 c3 w3 hown3 hgr3 hat3 hlt3
   refine hK _ _ ?_
   clear hK K
   have hpush := RowOut.push (x := ⟨some ⟨g, 0, none⟩, m, y⟩) hro (by rw [show lv (⟨some ⟨g, 0, none⟩, m, y⟩ : Lr) = .slice (some ⟨g, 0, none⟩) m m by unfold lv; rw [hylen]]; exact own_mono hbs (by have := HN.out; simp; omega)) rfl (by rw [show lv (⟨some ⟨g, 0, none⟩, m, y⟩ : Lr) = .slice (some ⟨g, 0, none⟩) m m by unfold lv; rw [hylen]]; exact hown3) hgr3
   have hst := scan_step (B := (((w.alloc (.cells #[.slice none 0 0] 71)).alloc (.cells #[.int .i64 0] 3)).alloc (.cells #[.slice a n c] 54)).heap.size) HI0.out.1 HI0.out.2 HP.out.1 HP.out.2.1 HP.out.2.2.1 HP.out.2.2.2 (((Below.refl W.heap.size W).drew).trans hb2) hown hgr3 hpush rfl HE.out.1 HE.out.2
   obtain ⟨t1, t2, t3⟩ := hst
   have T3 : Aside (_ ∧ _ ∧ _) := t3
   have k1 := t1.cell
   have k2 := t1.frozen
   have k3 := t2.cell
   have k4 := t2.frozen
   clear t1 t2 t3 hpush hgr3 hown hown3 hro hbs hb2 hcc hcd bO2 bO3
   refine wpAny_ready (rs := [5]) (by kernel_rfl) (by simp) (AllReady.cons rfl (fun K hK => ?_) AllReady.nil)
   go_simp
   refine hK _ _ ?_
   clear hK K
   refine wpAny_done (by kernel_rfl) ?_ _
   generalize w3.setCell ⟨w.heap.size, 0, none⟩ (.slice (some ⟨g3, 0, none⟩) (ls.length + 1) c3) = w4 at k3 k4 T3 ⊢
   clear k1 k2
   gi_wp2
   exact T3.out
  ·go_simp
   refine hS.mono ?_
   rintro e w2 ⟨g, rfl, hbs, hb2⟩
   refine hK _ _ ?_
   clear hK K
   have bO2 : Go.Boxed w2 w.heap.size 71 v := Go.Boxed.kept (row := none) (show Go.Boxed W.drew _ _ _ from HI0.out.1) ⟨hb2.os, hb2.tape, hb2.output, hb2.size, fun i hi _ => hb2.block i hi⟩ (by simp)
   have bO3 := bO2.alloc (.cells #[.slice (some ⟨g, 0, none⟩) m m] 54)
   have hcc := bO2.cell
   have hcd := bO3.cell
   refine wpAny_ready (rs := [0, 3]) (by kernel_rfl) (by simp) (AllReady.cons rfl (fun K hK => ?_) (AllReady.cons rfl (fun K hK => ?_) AllReady.nil))
   ·go_simp
    refine hK _ _ ?_
    clear hK K
    refine wpAny_ready (rs := [3]) (by kernel_rfl) (by simp) (AllReady.cons rfl (fun K hK => ?_) AllReady.nil)
    go_simp
    refine hK _ _ ?_
    clear hK K
    have hro := (HI0.out.2.keep (show Below W.heap.size W W.drew from (Below.refl _ _).drew)).keep hb2
    have hown : (w2.alloc (.cells #[.slice (some ⟨g, 0, none⟩) m m] 54)).ownsRow (w.heap.size + 3) 54 1 v ls.length (ls.map lv) := hro.own.alloc _
    have hbase : w.heap.size + 3 ≤ (w2.alloc (.cells #[.slice (some ⟨g, 0, none⟩) m m] 54)).heap.size := by have h1 := HN.out; have h2 := hb2.size; simp; simp at h2; omega
    refine wpAny_ready (rs := [4]) (by kernel_rfl) (by simp) (AllReady.cons rfl (fun K hK => ?_) AllReady.nil)
    refine step_append_lies _ rfl (.tmp 12) (.tmp 15) 71 rfl (w.heap.size + 3) 54 i0 (.slice none 0 0) 1 24 Tryz.underlying71 hi hz0 hz1 hz2 rfl (by decide) v ls.length (ls.map lv) rfl hown ⟨w2.heap.size, 0, none⟩ 1 1 [.slice (some ⟨g, 0, none⟩) m m] rfl rfl (cell_one_new _ _ _) (by intro u hu; simp at hu; subst hu; rfl) (by omega) (by unfold maxLen; omega) (by omega) hbase (w2.heap.size + 1) (by simp) ?_
    intro g3 c3 w3 hown3 hgr3 hat3 hlt3
    refine hK _ _ ?_
    clear hK K
    have hpush := RowOut.push (x := ⟨some ⟨g, 0, none⟩, m, y⟩) hro (by rw [show lv (⟨some ⟨g, 0, none⟩, m, y⟩ : Lr) = .slice (some ⟨g, 0, none⟩) m m by unfold lv; rw [hylen]]; exact own_mono hbs (by have := HN.out; simp; omega)) rfl (by rw [show lv (⟨some ⟨g, 0, none⟩, m, y⟩ : Lr) = .slice (some ⟨g, 0, none⟩) m m by unfold lv; rw [hylen]]; exact hown3) hgr3
    have hst := scan_step (B := (((w.alloc (.cells #[.slice none 0 0] 71)).alloc (.cells #[.int .i64 0] 3)).alloc (.cells #[.slice a n c] 54)).heap.size) HI0.out.1 HI0.out.2 HP.out.1 HP.out.2.1 HP.out.2.2.1 HP.out.2.2.2 (((Below.refl W.heap.size W).drew).trans hb2) hown hgr3 hpush rfl HE.out.1 HE.out.2
    obtain ⟨t1, t2, t3⟩ := hst
    have T3 : Aside (_ ∧ _ ∧ _) := t3
    have k1 := t1.cell
    have k2 := t1.frozen
    have k3 := t2.cell
    have k4 := t2.frozen
    clear t1 t2 t3 hpush hgr3 hown hown3 hro hbs hb2 hcc hcd bO2 bO3
    refine wpAny_ready (rs := [5]) (by kernel_rfl) (by simp) (AllReady.cons rfl (fun K hK => ?_) AllReady.nil)
    go_simp
    refine hK _ _ ?_
    clear hK K
    refine wpAny_done (by kernel_rfl) ?_ _
    generalize w3.setCell ⟨w.heap.size, 0, none⟩ (.slice (some ⟨g3, 0, none⟩) (ls.length + 1) c3) = w4 at k3 k4 T3 ⊢
    clear k1 k2
    gi_wp2
    exact T3.out
   ·go_simp
    refine hK _ _ ?_
    clear hK K
    refine wpAny_ready (rs := [0]) (by kernel_rfl) (by simp) (AllReady.cons rfl (fun K hK => ?_) AllReady.nil)
    go_simp
    refine hK _ _ ?_
    clear hK K
    have hro := (HI0.out.2.keep (show Below W.heap.size W W.drew from (Below.refl _ _).drew)).keep hb2
    have hown : (w2.alloc (.cells #[.slice (some ⟨g, 0, none⟩) m m] 54)).ownsRow (w.heap.size + 3) 54 1 v ls.length (ls.map lv) := hro.own.alloc _
    have hbase : w.heap.size + 3 ≤ (w2.alloc (.cells #[.slice (some ⟨g, 0, none⟩) m m] 54)).heap.size := by have h1 := HN.out; have h2 := hb2.size; simp; simp at h2; omega
    refine wpAny_ready (rs := [4]) (by kernel_rfl) (by simp) (AllReady.cons rfl (fun K hK => ?_) AllReady.nil)
    refine step_append_lies _ rfl (.tmp 12) (.tmp 15) 71 rfl (w.heap.size + 3) 54 i0 (.slice none 0 0) 1 24 Tryz.underlying71 hi hz0 hz1 hz2 rfl (by decide) v ls.length (ls.map lv) rfl hown ⟨w2.heap.size, 0, none⟩ 1 1 [.slice (some ⟨g, 0, none⟩) m m] rfl rfl (cell_one_new _ _ _) (by intro u hu; simp at hu; subst hu; rfl) (by omega) (by unfold maxLen; omega) (by omega) hbase (w2.heap.size + 1) (by simp) ?_
    intro g3 c3 w3 hown3 hgr3 hat3 hlt3
    refine hK _ _ ?_
    clear hK K
    have hpush := RowOut.push (x := ⟨some ⟨g, 0, none⟩, m, y⟩) hro (by rw [show lv (⟨some ⟨g, 0, none⟩, m, y⟩ : Lr) = .slice (some ⟨g, 0, none⟩) m m by unfold lv; rw [hylen]]; exact own_mono hbs (by have := HN.out; simp; omega)) rfl (by rw [show lv (⟨some ⟨g, 0, none⟩, m, y⟩ : Lr) = .slice (some ⟨g, 0, none⟩) m m by unfold lv; rw [hylen]]; exact hown3) hgr3
    have hst := scan_step (B := (((w.alloc (.cells #[.slice none 0 0] 71)).alloc (.cells #[.int .i64 0] 3)).alloc (.cells #[.slice a n c] 54)).heap.size) HI0.out.1 HI0.out.2 HP.out.1 HP.out.2.1 HP.out.2.2.1 HP.out.2.2.2 (((Below.refl W.heap.size W).drew).trans hb2) hown hgr3 hpush rfl HE.out.1 HE.out.2
    obtain ⟨t1, t2, t3⟩ := hst
    have T3 : Aside (_ ∧ _ ∧ _) := t3
    have k1 := t1.cell
    have k2 := t1.frozen
    have k3 := t2.cell
    have k4 := t2.frozen
    clear t1 t2 t3 hpush hgr3 hown hown3 hro hbs hb2 hcc hcd bO2 bO3
    refine wpAny_ready (rs := [5]) (by kernel_rfl) (by simp) (AllReady.cons rfl (fun K hK => ?_) AllReady.nil)
    go_simp
    refine hK _ _ ?_
    clear hK K
    refine wpAny_done (by kernel_rfl) ?_ _
    generalize w3.setCell ⟨w.heap.size, 0, none⟩ (.slice (some ⟨g3, 0, none⟩) (ls.length + 1) c3) = w4 at k3 k4 T3 ⊢
    clear k1 k2
    gi_wp2
    exact T3.out
 case done =>
  rintro D ys W hD ⟨hy1, hy2⟩ ⟨⟨v, ls, hv, hr, he⟩, hs, hb, hbel⟩ hK
  have hc1 := hv.cell
  have hc2 := hs.cell
  gi_wp2
  gi_region
  all_goals gi_wp2
  have hK2 : W.drew.heap[D]? = some (.deferred (some [])) := hK
  refine ⟨by simp, .inl ⟨_, _, rfl, run_takeDeferred hK2, ?_⟩⟩
  exact ⟨_, results_tmp2 rfl _ _ _, v, ls, rfl, ⟨own_mono (ownsRow_putObj (show W.drew.ownsRow _ _ _ _ _ _ from hr.own) _ hK2 rfl) (by omega), fun x hx => own_mono (ownsRow_putObj (show W.drew.ownsRow _ _ _ _ _ _ from hr.els x hx) _ hK2 rfl) (by omega)⟩, he.trans hy1, hbel.drew.trans (belowK_b (w := w) (Nat.le_refl _) W.drew D _ _ (by simp at hD; omega) hK2 rfl rfl)⟩
 case stop =>
  rintro D c pre W _ _ h _
  exact h.elim
end frame
end Go.Proofs.YtlcjllgfpfldlaaGreat
