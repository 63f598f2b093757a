/-
 Records in a row of the call's own; what stays where a call on a disk, or an append, goes by.
-/
import Derived.Test.YtlcjllgfpfldlaaGreatCodeMk
import Derived.Test.YtlcjllgfpfldlaaGreatWalZ14K
open Go.ChangeShapes Go.WideShapes Go.ChangeAt Go.RowKit Go.Deep
set_option linter.unusedVariables false
set_option maxRecDepth 100000
set_option linter.unusedSimpArgs false
namespace Go.Proofs.YtlcjllgfpfldlaaGreat
namespace wal
open code (Rc Ft Et PSpan RecIn OwnIn NsOwn FtOwn FsOwn EsOwn SsOwn Far own_far far_none grown_below far_row)
open bytes
open disk
/-! ### what stays: what lay below, and blocks that are no bytes and no disk -/
def Kt (t : TypeId) : Prop := t ≠ 5 ∧ t ≠ 65
 ∧ t ≠ 57
theorem Kt.disk {t : TypeId} (h : Kt t) : t ≠ 65 := by unfold Kt at h; first | exact h.2 | exact h.2.1
theorem kt_int : Kt 3 := by unfold Kt; decide
theorem kt_fact : Kt 124 := by unfold Kt; decide
theorem kt_ent : Kt 94 := by unfold Kt; decide
theorem kt_span : Kt 109 := by unfold Kt; decide
theorem kt_rec : Kt 46 := by unfold Kt; decide
theorem kt_log : Kt 67 := by unfold Kt; decide
structure Stay (B : Nat) (w w' : World) : Prop where
 below : Below B w w'
 boxes : ∀ b cs t, bytes.Boxed w b cs t → Kt t → bytes.Boxed w' b cs t
theorem Stay.refl (B : Nat) (w : World) : Stay B w w := ⟨Below.refl _ _, fun _ _ _ h _ => h⟩
theorem Stay.trans {B : Nat} {w w1 w2 : World} (h : Stay B w w1) (k : Stay B w1 w2) : Stay B w w2 := ⟨h.below.trans k.below, fun b cs t hb ht => k.boxes b cs t (h.boxes b cs t hb ht) ht⟩
theorem Stay.of_below {B : Nat} {w w' : World} (hb : Below w.heap.size w w') (hB : B ≤ w.heap.size) : Stay B w w' := ⟨hb.mono hB, fun b cs t h _ => h.below hb⟩
theorem box_apart {w : World} {b k : Nat} {cs ds : Array Value} {t u : TypeId} (h : bytes.Boxed w b cs t) (h2 : bytes.Boxed w k ds u) (ht : t ≠ u) : b ≠ k := fun e => by
 subst e
 have h3 : some (Obj.cells cs t (0, 0)) = some (Obj.cells ds u (0, 0)) := (show w.heap[b]? = _ from h).symm.trans (show w.heap[b]? = _ from h2)
 injection h3 with h3
 injection h3 with _ h3 _
 exact ht h3
theorem Stay.of_gd {B k : Nat} {w w' : World} {v v' : Value} {d : Dk} (h : DkIn 65 B w k v d) (g : Gd k w v w' v') : Stay B w w' :=
 ⟨h.below g, fun b cs t hb ht => g.boxed hb (box_apart hb h.box ht.disk) (box_row hb ht.1 h.own)⟩
theorem own_stay {B b s n : Nat} {e : TypeId} {v : Value} {xs : List Value} {w w' : World} (h : w.ownsRow B e s v n xs) (hs : Stay b w w') (he : Kt e) : w'.ownsRow B e s v n xs := by
 refine ⟨h.1, ?_⟩
 rcases h.2 with h0 | ⟨g, cap, cur, hv, a, hg, r⟩
 ·exact .inl h0
 ·exact .inr ⟨g, cap, cur, hv, a, hs.boxes g cur e hg he, r⟩
theorem ns_stay {B b : Nat} {W W' : World} {v : Value} {l : List Int} (h : NsOwn B W v l) (hs : Stay b W W') : NsOwn B W' v l := ⟨own_stay h.own hs kt_int, h.all⟩
theorem ft_stay {B b : Nat} {W W' : World} {f : Ft} (h : FtOwn B W f) (hs : Stay b W W') : FtOwn B W' f := ⟨own_stay h.own hs kt_int, h.key, h.num⟩
theorem fs_stay {B b : Nat} {W W' : World} {v : Value} {fs : List Ft} (h : FsOwn B W v fs) (hs : Stay b W W') : FsOwn B W' v fs := ⟨own_stay h.own hs kt_fact, fun f hf => ft_stay (h.all f hf) hs⟩
theorem es_stay {B b : Nat} {W W' : World} {v : Value} {es : List Et} (h : EsOwn B W v es) (hs : Stay b W W') : EsOwn B W' v es := ⟨own_stay h.own hs kt_ent, fun e he => ⟨fs_stay (h.all e he).own hs, (h.all e he).num⟩⟩
theorem ss_stay {B b : Nat} {W W' : World} {v : Value} {ss : List PSpan} (h : SsOwn B W v ss) (hs : Stay b W W') : SsOwn B W' v ss := ⟨own_stay h.own hs kt_span, h.all⟩
theorem rc_stay {b : Nat} {W W' : World} {r : Rc} (h : OwnIn W r) (hs : Stay b W W') : OwnIn W' r := by
 obtain ⟨B, h⟩ := h
 exact ⟨B, h.kind, h.id, h.at_, ns_stay h.nodes hs, fs_stay h.facts hs, h.epoch, ss_stay h.spans hs, h.frm, h.til, es_stay h.ents hs⟩
theorem rc_far {W W' : World} {r : Rc} {row : Option Nat} (h : OwnIn W r) (hg : W.grownBy W' row) (h1 : Far W row 3) (h2 : Far W row 124) (h3 : Far W row 109) (h4 : Far W row 94) : OwnIn W' r := by
 obtain ⟨B, h⟩ := h
 exact ⟨B, h.far hg h1 h2 h3 h4⟩
theorem rc_keep {W W' : World} {r : Rc} (h : OwnIn W r) (hb : Below W.heap.size W W') : OwnIn W' r := rc_far h (grown_below hb) (far_none _ _) (far_none _ _) (far_none _ _) (far_none _ _)

theorem boxed_far {W : World} {b : Nat} {cs : Array Value} {t e : TypeId} (h : bytes.Boxed W b cs t) (hne : t ≠ e) : Far W (some b) e := by
 intro g cur t' fr hr hg
 injection hr with hr
 subst hr
 have h2 : W.heap[b]? = some (.cells cs t (0, 0)) := h
 rw [h2] at hg
 injection hg with hg
 injection hg with _ hg _
 rw [← hg]; exact hne

/-! ### records in a row -/
def rcL (r : Rc) : List Value := [.int .u8 r.kind, .int .u32 r.id, .int .u32 r.at_, .slice r.na r.nodes.length r.nc, .slice r.fa r.facts.length r.fc, .int .u32 r.epoch, .slice r.sa r.spans.length r.sc, .int .i64 r.frm, .int .i64 r.til, .slice r.ea r.ents.length r.ec]
structure RsOwn (B : Nat) (W : World) (v : Value) (rs : List Rc) : Prop where
 own : W.ownsRow B 46 10 v rs.length (rs.flatMap rcL)
 all : ∀ r ∈ rs, OwnIn W r
theorem RsOwn.nil (B : Nat) (W : World) : RsOwn B W (.slice none 0 0) [] := ⟨World.ownsRow_nil _ _ _ _, fun r hr => by cases hr⟩
theorem RsOwn.keep {B : Nat} {W W' : World} {v : Value} {rs : List Rc} (h : RsOwn B W v rs) (hb : Below W.heap.size W W') : RsOwn B W' v rs := ⟨own_below h.own hb, fun r hr => rc_keep (h.all r hr) hb⟩
theorem RsOwn.stay {B b : Nat} {W W' : World} {v : Value} {rs : List Rc} (h : RsOwn B W v rs) (hs : Stay b W W') : RsOwn B W' v rs := ⟨own_stay h.own hs kt_rec, fun r hr => rc_stay (h.all r hr) hs⟩
theorem RsOwn.far {B : Nat} {W W' : World} {v : Value} {rs : List Rc} {row : Option Nat} (h : RsOwn B W v rs) (hg : W.grownBy W' row) (h1 : Far W row 3) (h2 : Far W row 124) (h3 : Far W row 109) (h4 : Far W row 94) (h5 : Far W row 46) : RsOwn B W' v rs := ⟨own_far h.own hg h5, fun r hr => rc_far (h.all r hr) hg h1 h2 h3 h4⟩
theorem RsOwn.push {B n : Nat} {w w3 : World} {v : Value} {rs : List Rc} {r : Rc} {g c : Nat} {o : Obj} (h : RsOwn B w v rs) (hr : OwnIn w r) (hn : rs.length = n)
  (hown : w3.ownsRow B 46 10 (.slice (some ⟨g, 0, none⟩) (n + 1) c) (n + 1) (rs.flatMap rcL ++ rcL r)) (hg : (w.alloc o).grownBy w3 v.ownBlock) :
  RsOwn B w3 (.slice (some ⟨g, 0, none⟩) (n + 1) c) (rs ++ [r]) := by
 subst hn
 have hf : ∀ e, 46 ≠ e → Far (w.alloc o) v.ownBlock e := fun e he => far_row (World.ownsRow.alloc h.own o) he
 refine ⟨by simpa using hown, fun x hx => ?_⟩
 have hx2 : OwnIn w x := by
  rcases List.mem_append.1 hx with hx | hx
  ·exact h.all x hx
  ·simp at hx; subst hx; exact hr
 exact rc_far (rc_keep hx2 ((Below.refl _ _).alloc (nrQ _) o)) hg (hf _ (by decide)) (hf _ (by decide)) (hf _ (by decide)) (hf _ (by decide))
theorem info_rec : (Tryz.prog.info? 46).map (fun i => (i.zero, i.size, i.bytes)) = some (some (.agg #[.int .u8 0, .int .u32 0, .int .u32 0, .slice none 0 0, .slice none 0 0, .int .u32 0, .slice none 0 0, .int .i64 0, .int .i64 0, .slice none 0 0]), 10, 136) := by kernel_rfl
theorem cells_rec_new (w : World) (r : Rc) (t : TypeId) : ∀ j u, (rcL r)[j]? = some u → (w.alloc (.cells #[.int .u8 r.kind, .int .u32 r.id, .int .u32 r.at_, .slice r.na r.nodes.length r.nc, .slice r.fa r.facts.length r.fc, .int .u32 r.epoch, .slice r.sa r.spans.length r.sc, .int .i64 r.frm, .int .i64 r.til, .slice r.ea r.ents.length r.ec] t)).cell? ((⟨w.heap.size, 0, none⟩ : Addr).add j) = some u := by
 intro j u hj
 rw [addr_add, Nat.zero_add]
 refine cell_marked w _ _ (0, 0) ?_
 simpa [rcL] using hj
theorem rcL_cell (r : Rc) : ∀ u ∈ rcL r, u.oneCell' = true := fun u hu => by
 simp only [rcL, List.mem_cons, List.not_mem_nil, or_false] at hu
 rcases hu with rfl | rfl | rfl | rfl | rfl | rfl | rfl | rfl | rfl | rfl <;> rfl

/-! ### reading them -/
def rc0 : Rc := ⟨0, 0, 0, none, 0, [], none, 0, [], 0, none, 0, [], 0, 0, none, 0, []⟩
def rsn (rs : List Rc) (i : Nat) : Rc := rs.getD i rc0
theorem rsn_eq {rs : List Rc} {i : Nat} (h : i < rs.length) : rsn rs i = rs[i] := by simp [rsn, h]
theorem rsn_mem {rs : List Rc} {i : Nat} (h : i < rs.length) : rsn rs i ∈ rs := by rw [rsn_eq h]; exact List.getElem_mem _
def RsIn (W : World) (a : Option Addr) (rs : List Rc) : Prop :=
 rs = [] ∨ ∃ b off, a = some ⟨b, off, none⟩ ∧ ∀ i, i < rs.length → (∀ j x, (rcL (rsn rs i))[j]? = some x → W.cell? ⟨b, off + i * 10 + j, none⟩ = some x) ∧ RecIn W (rsn rs i)
theorem RsIn.keep {W W' : World} {a : Option Addr} {rs : List Rc} (h : RsIn W a rs) (hb : Below W.heap.size W W') : RsIn W' a rs := by
 rcases h with h | ⟨b, off, ha, hc⟩
 ·exact .inl h
 ·exact .inr ⟨b, off, ha, fun i hi => ⟨fun j x hx => (hb.cell (p := ⟨b, off + i * 10 + j, none⟩) (cell_lt ((hc i hi).1 j x hx))).trans ((hc i hi).1 j x hx), (hc i hi).2.keep hb⟩⟩
theorem RsIn.get {W : World} {a : Option Addr} {rs : List Rc} (h : RsIn W a rs) {k : Nat} (hk : k < rs.length) : ∃ b off, a = some ⟨b, off, none⟩ ∧ ∀ i, i < rs.length → (∀ j x, (rcL (rsn rs i))[j]? = some x → W.cell? ⟨b, off + i * 10 + j, none⟩ = some x) ∧ RecIn W (rsn rs i) := by
 rcases h with rfl | h
 ·simp at hk
 ·exact h
theorem RsIn.take {W : World} {a : Option Addr} {rs : List Rc} (h : RsIn W a rs) (m : Nat) : RsIn W a (rs.take m) := by
 rcases h with h | ⟨b, off, ha, hc⟩
 ·subst h; exact .inl (by simp)
 ·refine .inr ⟨b, off, ha, fun i hi => ?_⟩
  rw [List.length_take] at hi
  have e : rsn (rs.take m) i = rsn rs i := by
   unfold rsn
   rw [List.getD_eq_getElem?_getD, List.getD_eq_getElem?_getD, List.getElem?_take_of_lt (by omega)]
  rw [e]; exact hc i (by omega)
theorem flat_ten : ∀ (l : List Rc) (i j : Nat) (hi : i < l.length), j < 10 → (l.flatMap rcL)[i * 10 + j]? = (rcL (l[i]))[j]?
 | [], i, j, hi, _ => by simp at hi
 | x :: l, 0, j, hi, hj => by
  rw [List.flatMap_cons, List.getElem?_append_left (by show _ < 10; omega)]
  simp
 | x :: l, i + 1, j, hi, hj => by
  rw [List.flatMap_cons, List.getElem?_append_right (by show 10 ≤ _; omega), show (rcL x).length = 10 from rfl]
  rw [show (i + 1) * 10 + j - 10 = i * 10 + j by omega, flat_ten l i j (by simpa using hi) hj]
  simp
theorem RsOwn.rsIn {B : Nat} {W : World} {v : Value} {rs : List Rc} (h : RsOwn B W v rs) : ∃ a c, v = .slice a rs.length c ∧ rs.length ≤ c ∧ c ≤ 9223372036854775807 ∧ RsIn W a rs := by
 rcases h.own.2 with ⟨h1, h0⟩ | ⟨g, cap, cur, hv, hB, hg, hc, hm, r⟩
 ·have : rs = [] := List.eq_nil_of_length_eq_zero h0
  subst this
  exact ⟨none, 0, h1, nrQ _, by omega, .inl rfl⟩
 ·have hm2 : cap ≤ 9223372036854775807 := by unfold maxLen at hm; omega
  refine ⟨some ⟨g, 0, none⟩, cap, hv, hc, hm2, .inr ⟨g, 0, rfl, fun i hi => ⟨fun j x hx => ?_, (h.all _ (rsn_mem hi)).recIn⟩⟩⟩
  have hj : j < 10 := by
   have := (List.getElem?_eq_some_iff.1 hx).1
   exact this
  have h2 := h.own
  rw [hv] at h2
  have := World.ownsRow.cellAt h2 (i * 10 + j) (by omega)
  rw [Nat.zero_add, this, flat_ten rs i j hi hj, ← rsn_eq hi]
  exact hx
theorem RsOwn.len {B : Nat} {W : World} {v : Value} {rs : List Rc} (h : RsOwn B W v rs) : ∃ a c, v = .slice a rs.length c := by
 obtain ⟨a, c, e, -⟩ := h.rsIn
 exact ⟨a, c, e⟩
end wal
end Go.Proofs.YtlcjllgfpfldlaaGreat
