/-
  The contract of table.rise: each cell of the map at its key, once, by rising keys.
-/
import Derived.Test.YtfchpcmiipnbjaaDoorTableTextF
import Derived.Test.YtfchpcmiipnbjaaDoorTableSort
import Derived.Test.YtfchpcmiipnbjaaDoorTableFold
namespace Go.Proofs.YtfchpcmiipnbjaaDoor.table
open Go.ChangeShapes Go.WideShapes Go.ChangeAt Go.RowKit Go.Deep
open Go.Proofs.YtfchpcmiipnbjaaDoor.dims (nth Ints cell_lt cmpL own_below)
open Go.Proofs.YtfchpcmiipnbjaaDoor.cell (C4 mrg all one zero In64)
set_option linter.unusedVariables false
set_option maxRecDepth 100000

/-- whatever could be read can be read still -/
def Kept (w w1 : World) : Prop := ∀ b o v, w.cell? ⟨b, o, none⟩ = some v → w1.cell? ⟨b, o, none⟩ = some v
theorem Kept.refl (w : World) : Kept w w := fun _ _ _ h => h
theorem Kept.trans {w w1 w2 : World} (h : Kept w w1) (h2 : Kept w1 w2) : Kept w w2 := fun b o v hv => h2 b o v (h b o v hv)
theorem Kept.of {w w1 : World} (hb : Below w.heap.size w w1) : Kept w w1 := fun b o v hv => (hb.cell (p := ⟨b, o, none⟩) (cell_lt hv)).trans hv
theorem Kept.grown {w w1 : World} {row : Option Nat} (hg : w.grownBy w1 row) (hr : ∀ b o v, w.cell? ⟨b, o, none⟩ = some v → some b ≠ row) : Kept w w1 := fun b o v hv => hg.cell hv (hr b o v hv)
theorem map_cell {W : World} {b n : Nat} {f : List Int → Option C4} (h : MapIs W b n f) {b' o : Nat} {v : Value} (hv : W.cell? ⟨b', o, none⟩ = some v) : some b' ≠ some b := by
  intro e
  injection e with e
  subst e
  obtain ⟨D, ⟨es, clock, hb, _⟩, _⟩ := h
  simp [World.cell?, hb] at hv
theorem KeyOk.kept {w w1 : World} {a : Option Addr} {n cap : Nat} {l : List Int} (h : KeyOk w a n cap l) (hb : Kept w w1) : KeyOk w1 a n cap l := by
  refine ⟨?_, h.len, h.lec, h.max, h.wf⟩
  rcases h.mem with e | ⟨b, off, ha, hc⟩
  · exact .inl e
  · exact .inr ⟨b, off, ha, fun i hi => hb _ _ _ (hc i hi)⟩

/-- keys that can be read at an address -/
def KeysIn (w : World) (a : Option Addr) (ks : List Rw) : Prop :=
  ks = [] ∨ ∃ b off, a = some ⟨b, off, none⟩ ∧ ∀ i, i < ks.length → w.cell? ⟨b, off + i, none⟩ = some (.slice (rwn ks i).a (rwn ks i).k.length (rwn ks i).cap) ∧ KeyOk w (rwn ks i).a (rwn ks i).k.length (rwn ks i).cap (rwn ks i).k
theorem KeysIn.kept {w w1 : World} {a : Option Addr} {ks : List Rw} (h : KeysIn w a ks) (hb : Kept w w1) : KeysIn w1 a ks := by
  rcases h with h | ⟨b, off, ha, hc⟩
  · exact .inl h
  · exact .inr ⟨b, off, ha, fun i hi => ⟨hb _ _ _ (hc i hi).1, (hc i hi).2.kept hb⟩⟩
theorem KeysIn.get {w : World} {a : Option Addr} {ks : List Rw} (h : KeysIn w a ks) {k : Nat} (hk : k < ks.length) : ∃ b off, a = some ⟨b, off, none⟩ ∧ ∀ i, i < ks.length → w.cell? ⟨b, off + i, none⟩ = some (.slice (rwn ks i).a (rwn ks i).k.length (rwn ks i).cap) ∧ KeyOk w (rwn ks i).a (rwn ks i).k.length (rwn ks i).cap (rwn ks i).k := by
  rcases h with rfl | h
  · simp at hk
  · exact h

def seen (ks : List Rw) (k : Nat) : List (List Int) := (ks.take k).map (·.k)
theorem seen_succ {ks : List Rw} {k : Nat} (h : k < ks.length) (q : List Int) : q ∈ seen ks (k + 1) ↔ q ∈ seen ks k ∨ q = (rwn ks k).k := by
  unfold seen
  rw [List.take_succ_eq_append_getElem h, List.map_append, rwn_eq h]
  simp
/-- what is left in the map behind k keys -/
def left (f : List Int → Option C4) (ks : List Rw) (k : Nat) (q : List Int) : Option C4 := if q ∈ seen ks k then none else f q

structure RS (w0 w : World) (bm N : Nat) (f : List Int → Option C4) (ks : List Rw) (k : Nat) (os : List Rw) (g cap : Nat) (W : World) : Prop where
  own : W.ownsRow w.heap.size 57 5 (.slice (some ⟨g, 0, none⟩) os.length cap) os.length (flatR os)
  map : MapIs W bm N (left f ks k)
  nd : Nd (os.map plain)
  lk : ∀ q, look (os.map plain) q = if q ∈ seen ks k then f q else none
  key : ∀ r ∈ os, KeyOk w r.a r.k.length r.cap r.k
  kept : Kept w W
  bel : Below w0.heap.size w0 W
  siz : w.heap.size ≤ W.heap.size
  cnt : os.length ≤ k

theorem RS.keep {w0 w W W1 : World} {bm N : Nat} {f : List Int → Option C4} {ks : List Rw} {k : Nat} {os : List Rw} {g cap : Nat} (h : RS w0 w bm N f ks k os g cap W) (hb : Below W.heap.size W W1) : RS w0 w bm N f ks k os g cap W1 :=
  ⟨own_below h.own hb, h.map.keep hb, h.nd, h.lk, h.key, h.kept.trans (Kept.of hb), h.bel.trans (hb.mono h.bel.size), Nat.le_trans h.siz hb.size, h.cnt⟩

theorem RS.skip {w0 w W : World} {bm N : Nat} {f : List Int → Option C4} {ks : List Rw} {k : Nat} {os : List Rw} {g cap : Nat} (h : RS w0 w bm N f ks k os g cap W) (hk : k < ks.length) (hn : left f ks k (rwn ks k).k = none) : RS w0 w bm N f ks (k + 1) os g cap W := by
  refine ⟨h.own, ?_, h.nd, ?_, h.key, h.kept, h.bel, h.siz, by have := h.cnt; omega⟩
  · have e : left f ks (k + 1) = left f ks k := by
      funext q
      unfold left
      by_cases h1 : q ∈ seen ks k
      · rw [if_pos h1, if_pos ((seen_succ hk q).2 (.inl h1))]
      · rw [if_neg h1]
        by_cases h2 : q = (rwn ks k).k
        · rw [if_pos ((seen_succ hk q).2 (.inr h2))]
          unfold left at hn
          rw [← h2, if_neg h1] at hn
          exact hn.symm
        · rw [if_neg fun h3 => ((seen_succ hk q).1 h3).elim h1 h2]
    rw [e]; exact h.map
  · intro q
    rw [h.lk q]
    by_cases h1 : q ∈ seen ks k
    · rw [if_pos h1, if_pos ((seen_succ hk q).2 (.inl h1))]
    · rw [if_neg h1]
      by_cases h2 : q = (rwn ks k).k
      · rw [if_pos ((seen_succ hk q).2 (.inr h2))]
        unfold left at hn
        rw [← h2, if_neg h1] at hn
        exact hn.symm
      · rw [if_neg fun h3 => ((seen_succ hk q).1 h3).elim h1 h2]

theorem RS.push {w0 w W W2 : World} {bm N : Nat} {f : List Int → Option C4} {ks : List Rw} {k : Nat} {os : List Rw} {g cap g2 cap2 : Nat} {c : C4} (h : RS w0 w bm N f ks k os g cap W) (hk : k < ks.length) (hc : left f ks k (rwn ks k).k = some c)
    (hkey : KeyOk w (rwn ks k).a (rwn ks k).k.length (rwn ks k).cap (rwn ks k).k)
    (hown : W2.ownsRow w.heap.size 57 5 (.slice (some ⟨g2, 0, none⟩) (os.length + 1) cap2) (os.length + 1) (flatR os ++ rowCells ⟨(rwn ks k).a, (rwn ks k).cap, (rwn ks k).k, c⟩))
    (hmap : MapIs W2 bm N fun q => if q = (rwn ks k).k then none else left f ks k q) (hkept : Kept w W2) (hbel : Below w0.heap.size w0 W2) (hsiz : w.heap.size ≤ W2.heap.size) :
    RS w0 w bm N f ks (k + 1) (os ++ [⟨(rwn ks k).a, (rwn ks k).cap, (rwn ks k).k, c⟩]) g2 cap2 W2 := by
  have hns : (rwn ks k).k ∉ seen ks k := fun h1 => by unfold left at hc; rw [if_pos h1] at hc; cases hc
  have hfc : f (rwn ks k).k = some c := by unfold left at hc; rwa [if_neg hns] at hc
  have hlo : look (os.map plain) (rwn ks k).k = none := by rw [h.lk, if_neg hns]
  refine ⟨by rw [flatR_snoc]; simpa using hown, ?_, ?_, ?_, ?_, hkept, hbel, hsiz, by have := h.cnt; simp; omega⟩
  · have e : left f ks (k + 1) = fun q => if q = (rwn ks k).k then none else left f ks k q := by
      funext q
      by_cases h2 : q = (rwn ks k).k
      · rw [if_pos h2]; unfold left; rw [if_pos ((seen_succ hk q).2 (.inr h2))]
      · rw [if_neg h2]; unfold left
        by_cases h1 : q ∈ seen ks k
        · rw [if_pos h1, if_pos ((seen_succ hk q).2 (.inl h1))]
        · rw [if_neg h1, if_neg fun h3 => ((seen_succ hk q).1 h3).elim h1 h2]
    rw [e]; exact hmap
  · unfold Nd
    rw [List.map_append, List.map_append, List.nodup_append]
    refine ⟨h.nd, by simp, fun x hx y hy => ?_⟩
    simp only [List.map_cons, List.map_nil, List.mem_singleton] at hy
    intro e
    subst e
    rw [hy] at hx
    exact look_out hlo hx
  · intro q
    rw [List.map_append, List.map_cons, List.map_nil, look_snoc, h.lk]
    by_cases h1 : q ∈ seen ks k
    · rw [if_pos h1, if_pos ((seen_succ hk q).2 (.inl h1))]
      have hne : ¬ (rwn ks k).k = q := fun e => hns (by rw [e]; exact h1)
      cases f q with
      | some x => rfl
      | none => show (if (rwn ks k).k = q then some c else none) = none; rw [if_neg hne]
    · rw [if_neg h1]
      show (if (rwn ks k).k = q then some c else none) = _
      by_cases h2 : (rwn ks k).k = q
      · rw [if_pos h2, if_pos ((seen_succ hk q).2 (.inr h2.symm)), ← h2, hfc]
      · rw [if_neg h2, if_neg fun h3 => ((seen_succ hk q).1 h3).elim h1 (fun e => h2 e.symm)]
  · intro r hr
    rcases List.mem_append.1 hr with hr | hr
    · exact h.key r hr
    · simp only [List.mem_singleton] at hr
      subst hr; exact hkey

theorem cells_five_at (w : World) (B : Nat) (hB : w.heap.size = B) (v0 v1 v2 v3 v4 : Value) (t : TypeId) : ∀ j u, [v0, v1, v2, v3, v4][j]? = some u → (w.alloc (.cells #[v0, v1, v2, v3, v4] t)).cell? ((⟨B, 0, none⟩ : Addr).add j) = some u := by
  subst hB
  intro j u hj
  have h5 : j < 5 := by
    have := (List.getElem?_eq_some_iff.1 hj).1
    simpa using this
  have : j = 0 ∨ j = 1 ∨ j = 2 ∨ j = 3 ∨ j = 4 := by omega
  rcases this with rfl | rfl | rfl | rfl | rfl <;> (simp at hj; subst hj; simp [Addr.add, go_sem])
theorem five_one (a : Option Addr) (n cap : Nat) (x0 x1 x2 x3 : Int) : ∀ u ∈ [Value.slice a n cap, .int .i64 x0, .int .i64 x1, .int .i64 x2, .int .i64 x3], u.oneCell' = true := by
  intro u hu
  simp only [List.mem_cons, List.not_mem_nil, or_false] at hu
  rcases hu with rfl | rfl | rfl | rfl | rfl <;> rfl

/-- what rise hands out -/
def RiseOut (w' : World) (v : Value) (f : List Int → Option C4) : Prop := ∃ t, TabOut w' v t ∧ Rises t ∧ ∀ q, look t q = f q

theorem RS.done {w0 w W W' : World} {bm N : Nat} {f : List Int → Option C4} {ks : List Rw} {k : Nat} {os : List Rw} {g cap : Nat} (h : RS w0 w bm N f ks k os g cap W) (hk : ks.length ≤ k) (hf : ∀ q, f q ≠ none → q ∈ ks.map (·.k))
    {rs' : List Rw} (hp : rs'.Perm os) (hs : rs'.Pairwise fun x y => ¬ cmpL y.k x.k < 0) (hR : RowsIn W' (some ⟨g, 0, none⟩) rs') (hc : os.length ≤ cap) (hm : cap ≤ 9223372036854775807) : RiseOut W' (.slice (some ⟨g, 0, none⟩) os.length cap) f := by
  have hnd : Nd (rs'.map plain) := ((hp.map plain).map _).nodup_iff.2 h.nd
  refine ⟨rs'.map plain, ⟨_, cap, rs', by rw [hp.length_eq], hR, rfl, by rw [hp.length_eq]; exact hc, hm⟩, rises_of hnd (List.pairwise_map.2 hs), fun q => ?_⟩
  rw [look_perm hnd (hp.map plain), h.lk]
  have e : seen ks k = ks.map (·.k) := by unfold seen; rw [List.take_of_length_le hk]
  rw [e]
  split
  · rfl
  · rename_i hn
    cases hq : f q with
    | none => rfl
    | some c => exact absurd (hf q (by rw [hq]; simp)) hn

set_option maxHeartbeats 1000000 in
theorem rise_any (w0 : World) (a : Option Addr) (n ck bm N : Nat) (ks : List Rw) (f : List Int → Option C4) (w : World) (hp : Pow w0) (hw0 : Below w0.heap.size w0 w) (hK : KeysIn w a ks) (hn : ks.length = n) (hn2 : n ≤ 100000) (hks : ∀ r ∈ ks, r.k.length ≤ 1000000)
    (hM : MapIs w bm N f) (hN : N ≤ 1000000) (hbm : w0.heap.size ≤ bm) (hf : ∀ q, f q ≠ none → q ∈ ks.map (·.k)) :
    Calls Tryd.prog 47 #[.slice a n ck, .map (some bm)] w fun e w' => ∃ v, e = .returned v ∧ RiseOut w' v f ∧ Below w0.heap.size w0 w' := by
  obtain ⟨i0, hi, hz0, hz1, hz2⟩ := info_parts info_row
  have hbml := hM.lt
  have HH : Aside (Pow w0 ∧ Below w0.heap.size w0 w ∧ KeysIn w a ks ∧ ks.length = n ∧ (∀ q, f q ≠ none → q ∈ ks.map (·.k)) ∧ ∀ r ∈ ks, r.k.length ≤ 1000000) := ⟨hp, hw0, hK, hn, hf, hks⟩
  have hsz0 := hw0.size
  clear hp hw0 hK hn hf hks
  go_enter Tryd.func47, Tryd.ntmps47
  go_wp2_with (first
    | (at_len; refine wpList_mlen _ rfl _ rfl bm N f rfl hM ?_; intro s hs)
    | (at_make; refine wpList_make_own _ rfl _ _ 22 rfl w.heap.size 57 i0 _ 5 Tryd.underlying22 hi hz0 hz1 .i64 .i64 _ s rfl rfl rfl (by rw [hz2]; omega) (by unfold maxLen; omega) (Nat.le_refl _) ?_; intro w1 hown1 hg1; refine Hid.out ?_))
  refine Lib.hid ?_
  have S1 : Aside (RS w0 w bm N f ks 0 [] w.heap.size s w1) := by
    have hb1 : Below w.heap.size w w1 := (Below.refl _ _).grown hg1 (Nat.le_refl _) (fun q hq => by cases hq)
    refine ⟨hown1, ?_, by simp [Nd], fun q => ?_, by simp, Kept.of hb1, HH.out.2.1.trans (hb1.mono HH.out.2.1.size), hb1.size, Nat.le_refl _⟩
    · have e : left f ks 0 = f := by funext q; simp [left, seen]
      rw [e]; exact hM.keep hb1
    · simp [look, seen]
  clear hown1 hg1 hM
  go_wp2_with fail
  go_loopg [5, 16] n (fun g1 v vi wr => ∃ (k : Nat) (os : List Rw) (g cap : Nat), v = .slice (some ⟨g, 0, none⟩) os.length cap ∧ vi = .int .i64 k ∧ k ≤ n ∧ n - k ≤ g1 ∧ Aside (RS w0 w bm N f ks k os g cap wr))
  case atStart => exact ⟨0, [], w.heap.size, s, rfl, rfl, Nat.zero_le _, Nat.le_refl _, S1⟩
  case round =>
    clear S1
    obtain ⟨k, os, g, cap, rfl, rfl, hk, hg1, SK⟩ := hrel
    by_cases hlt : k < n
    · have hltz : (k : Int) < (n : Int) := by omega
      have hkl : k < ks.length := by rw [HH.out.2.2.2.1]; exact hlt
      obtain ⟨b, off, ha, hc⟩ := (HH.out.2.2.1.kept SK.out.kept).get hkl
      obtain ⟨b', off', ha', hc'⟩ := HH.out.2.2.1.get hkl
      have KW : Aside (KeyOk w (rwn ks k).a (rwn ks k).k.length (rwn ks k).cap (rwn ks k).k) := (hc' k hkl).2
      clear hc' ha' b' off'
      subst ha
      obtain ⟨r0, rk⟩ := hc k hkl
      clear hc
      have hkn : (rwn ks k).k.length ≤ 1000000 := HH.out.2.2.2.2.2 _ (rwn_mem hkl)
      have hkt : (ktext (rwn ks k).k).length ≤ maxLen := by
        have := ktext_len (rwn ks k).k rk.wf
        unfold maxLen; omega
      have hT := text_any _ _ _ _ wr rk (HH.out.1.keep SK.out.bel) hkn
      obtain ⟨r, hr⟩ : ∃ r, rwn ks k = r := ⟨_, rfl⟩
      have HR : Hid (rwn ks k = r) := hr
      rw [hr] at r0 hT hkt hkn
      clear rk hr
      obtain ⟨nk, hnk⟩ : ∃ nk, r.k.length = nk := ⟨_, rfl⟩
      have HNK : Hid (r.k.length = nk) := hnk
      rw [hnk] at r0 hT hkn
      clear hnk
      go_wp2_with fail
      refine hT.mono ?_
      rintro e w2 ⟨rfl, hb2⟩
      have S2 : Aside (RS w0 w bm N f ks k os g cap w2) := SK.out.keep hb2
      clear SK hT r0 hb2
      have hM2 : MapIs w2 bm N (left f ks k) := S2.out.map
      have hsz2 := S2.out.siz
      cases hfk : left f ks k r.k with
      | none =>
        as_aux_lemma =>
          have HF : Hid (left f ks k r.k = none) := hfk
          have hl1 : (left f ks k r.k).getD zero = zero := by rw [hfk]; rfl
          have hl2 : (left f ks k r.k).isSome = false := by rw [hfk]; rfl
          have HL : Hid _ := hl1
          have HL2 : Hid _ := hl2
          clear hfk hl1 hl2
          have hbx : ∀ o, Below w2.heap.size w2 (w2.alloc o) := fun o => (Below.refl _ _).alloc (Nat.le_refl _) _
          have S3 : ∀ o, Aside (RS w0 w bm N f ks (k + 1) os g cap (w2.alloc o)) := fun o => (S2.out.keep (hbx o)).skip hkl (by rw [HR.out]; exact HF.out)
          clear S2 hbx
          go_wp2_with (at_lookup; refine wpList_look_ok _ rfl _ _ rfl bm N _ rfl hM2 r.k zero false rfl hkt HL.out HL2.out ?_)
          clear hM2
          go_roundg (n - (k + 1))
          case measure => omega
          case rel => exact ⟨k + 1, os, g, cap, rfl, by go_num, by omega, by omega, S3 _⟩
      | some c =>
        have HF : Hid (left f ks k r.k = some c) := hfk
        have hl1 : (left f ks k r.k).getD zero = c := by rw [hfk]; rfl
        have hl2 : (left f ks k r.k).isSome = true := by rw [hfk]; rfl
        have HL : Hid _ := hl1
        have HL2 : Hid _ := hl2
        clear hfk hl1 hl2
        have hown2 := S2.out.own
        have hcnt := S2.out.cnt
        obtain ⟨no, hno⟩ : ∃ no, os.length = no := ⟨_, rfl⟩
        have HNO : Hid (os.length = no) := hno
        rw [hno] at hown2 hcnt ⊢
        clear hno
        have hC5 := cells_five_at (w2.alloc (.cells #[.int .i64 c.n, .int .i64 c.s, .int .i64 c.lo, .int .i64 c.hi] 55)) (w2.heap.size + 1) (by simp) (.slice r.a nk r.cap) (.int .i64 c.n) (.int .i64 c.s) (.int .i64 c.lo) (.int .i64 c.hi) 57
        go_wp2_with (first
          | (at_lookup; refine wpList_look_ok _ rfl _ _ rfl bm N _ rfl hM2 r.k c true rfl hkt HL.out HL2.out ?_)
          | (at_builtin; (refine wpList_append_lies _ rfl (.tmp 29) (.tmp 33) 22 rfl w.heap.size 57 i0 _ 5 56 Tryd.underlying22 hi hz0 hz1 hz2 rfl (by decide) _ _ _ rfl ((hown2.alloc _).alloc _) ⟨w2.heap.size + 1, 0, none⟩ 1 1 [.slice r.a nk r.cap, .int .i64 c.n, .int .i64 c.s, .int .i64 c.lo, .int .i64 c.hi] rfl rfl hC5 (five_one _ _ _ _ _ _ _) (by decide) (by unfold maxLen; omega) (by omega) (by simp; omega) _ rfl ?_; intro g3 cap3 w3 hown3 hg3 _ _; refine Hid.out ?_)))
        refine Lib.hid ?_
        have hgB : w.heap.size ≤ g := (hown2.lt g rfl).1
        have hbA : Below w2.heap.size w2 ((w2.alloc (.cells #[.int .i64 c.n, .int .i64 c.s, .int .i64 c.lo, .int .i64 c.hi] 55)).alloc (.cells #[.slice r.a nk r.cap, .int .i64 c.n, .int .i64 c.s, .int .i64 c.lo, .int .i64 c.hi] 57)) := box_keep _ _
        have hgg : World.grownBy ((w2.alloc (.cells #[.int .i64 c.n, .int .i64 c.s, .int .i64 c.lo, .int .i64 c.hi] 55)).alloc (.cells #[.slice r.a nk r.cap, .int .i64 c.n, .int .i64 c.s, .int .i64 c.lo, .int .i64 c.hi] 57)) w3 (some g) := hg3
        have hM3 : MapIs w3 bm N (left f ks k) := (hM2.keep hbA).kept hgg (fun e => by injection e with e; omega)
        have hb3 : Below w.heap.size w2 w3 := (hbA.mono hsz2).grown hgg (by simp; omega) (fun q hq => by injection hq with hq; omega)
        have S4 : Aside (∀ w4, MapIs w4 bm N (fun q => if q = r.k then none else left f ks k q) → w3.grownBy w4 (some bm) → RS w0 w bm N f ks (k + 1) (os ++ [⟨r.a, r.cap, r.k, c⟩]) g3 cap3 w4) := by
          intro w4 hM4 hg4
          have e1 := HR.out
          have e2 := HNK.out
          have e3 := HNO.out
          subst e1 e2 e3
          have hk3 : Kept w w3 := by
            intro bb o v hv
            rw [hb3.cell (p := ⟨bb, o, none⟩) (cell_lt hv)]
            exact S2.out.kept bb o v hv
          have hk4 : Kept w w4 := hk3.trans (Kept.grown hg4 fun bb o v hv => map_cell hM3 hv)
          have hz3 : w.heap.size ≤ w4.heap.size := Nat.le_trans hsz2 (Nat.le_trans hb3.size hg4.size)
          have hbl : Below w0.heap.size w0 w3 := S2.out.bel.trans (hb3.mono hsz0)
          refine S2.out.push hkl HF.out KW.out ?_ hM4 hk4 (hbl.grown hg4 hbl.size (fun q hq => by injection hq with hq; omega)) hz3
          refine hown3.kept hg4 (.inr ?_)
          have := (hown3.lt g3 rfl).1
          simp [Value.ownBlock]; omega
        have HNO2 : Hid ((os ++ [(⟨r.a, r.cap, r.k, c⟩ : Rw)]).length = no + 1) := by show _ = _; simp [HNO.out]
        clear S2 hown3 hg3 hgg hbA hb3 hM2 hown2 hC5
        go_wp2_with (at_delete; refine wpList_del _ rfl _ _ rfl bm N _ rfl hM3 r.k rfl hkt ?_; intro w4 hM4 hg4)
        have S5 : Aside (RS w0 w bm N f ks (k + 1) (os ++ [⟨r.a, r.cap, r.k, c⟩]) g3 cap3 w4) := S4.out w4 hM4 hg4
        clear hM3 hM4 hg4 S4
        go_roundg (n - (k + 1))
        case measure => omega
        case rel => exact ⟨k + 1, os ++ [⟨r.a, r.cap, r.k, c⟩], g3, cap3, by rw [HNO2.out], by go_num, by omega, by omega, S5⟩
    · have hltz : ¬ (k : Int) < (n : Int) := by omega
      have hkl : ks.length ≤ k := by rw [HH.out.2.2.2.1]; omega
      have hcnt := SK.out.cnt
      have hcap : os.length ≤ cap ∧ cap ≤ maxLen := by
        rcases SK.out.own.2 with ⟨h0, _⟩ | ⟨g', cap', cur, hv, _, _, h1, h2, _⟩
        · cases h0
        · cases hv; exact ⟨h1, h2⟩
      have hC := sort_any wr w.heap.size SK.out.siz g cap (SK.out.own.lt g rfl).1 os (fun r hr => ⟨(SK.out.key r hr).kept SK.out.kept, (SK.out.key r hr).low⟩) SK.out.own (by omega)
      have HC : Aside (os.length ≤ cap ∧ cap ≤ maxLen) := hcap
      clear hcap
      obtain ⟨no, hno⟩ : ∃ no, os.length = no := ⟨_, rfl⟩
      have HNO : Hid (os.length = no) := hno
      rw [hno] at hC ⊢
      clear hno
      go_wp2_with (go_at_call 64; refine hC.mono ?_; rintro e w5 ⟨rfl, rs', hp, hs, hR, hb5⟩)
      go_ret
      refine ⟨_, rfl, ?_, SK.out.bel.trans (hb5.mono hsz0)⟩
      have e := HNO.out
      subst e
      exact SK.out.done hkl HH.out.2.2.2.2.1 hp (hs.imp fun h => Int.not_lt.2 h) hR HC.out.1 (Nat.le_trans HC.out.2 maxLen_le2)
end Go.Proofs.YtfchpcmiipnbjaaDoor.table
