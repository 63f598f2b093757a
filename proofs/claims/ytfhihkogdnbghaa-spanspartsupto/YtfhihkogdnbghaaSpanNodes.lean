/-
  The contract of spans.Nodes.
-/
import Derived.Test.YtfhihkogdnbghaaSpanDel
import Derived.Test.YtfhihkogdnbghaaSpanApp
import Derived.Shelf.SlIterI.Nil
import Derived.Shelf.SortM.SortNone
import Derived.Shelf.SortM.Plain
import Derived.Ground.GgzProg
import Derived.Ground.SlgmProg
import Derived.Test.YtfhihkogdnbghaaSpanLayKeys
import Derived.Test.YtfhihkogdnbghaaSpanLaySorted
import Derived.Test.YtfhihkogdnbghaaSpanLaySort
namespace Go.Proofs.Ytfhihkogdnbghaa.spans
open Go.ChangeShapes Go.WideShapes Go.ChangeAt Go.RowKit Go.Deep Go.Maps Go.Shelf
open Go.Proofs.Ytfhihkogdnbghaa.bytes (ret_bool hid nth addr_add cell_lt own_below own_mono)
set_option linter.unusedVariables false
set_option maxRecDepth 100000
set_option linter.unusedSimpArgs false

theorem mem_setD {o : List Int} (ho : ∀ m ∈ o, I64 m) (x : Int) : has (setD o) (keyI x) = true ↔ x ∈ o := by
  unfold setD
  rw [has_setOf _ _ _ fun y hy => by
    obtain ⟨z, hz, rfl⟩ := List.mem_map.1 hy
    exact lawI.key (v := .int .i64 z) (keyOf_int_mk Try.underlying3 (wf_i64 (ho z hz)))]
  rw [List.any_eq_true]
  constructor
  · rintro ⟨y, hy, h⟩
    obtain ⟨z, hz, rfl⟩ := List.mem_map.1 hy
    have : z = x := by simpa [keyI, Lit.sameKey] using h
    rw [← this]; exact hz
  · intro h
    exact ⟨keyI x, List.mem_map.2 ⟨x, h, rfl⟩, by simp [keyI, Lit.sameKey]⟩
/-- the nodes that are left: each once -/
theorem del_keys {W : World} {b n : Nat} {o : List Int} (ho : ∀ m ∈ o, I64 m) (h : SetAt W b n o) : (intKeys (Lib.deleteFuncD pdN (setD o))).Nodup ∧ ∀ x, x ∈ intKeys (Lib.deleteFuncD pdN (setD o)) ↔ x ∈ o ∧ isN x 6 = true := by
  have hm := mem_setD ho
  obtain ⟨es, hD, hpw, _⟩ := World.ownsMap.entries h lawI
  obtain ⟨es', hD', hko⟩ := World.ownsMap.keysOf h
  obtain rfl : es = es' := by rw [hD] at hD'; simpa using hD'
  have hk : ∀ p ∈ es, ∃ x, p.1 = .int .i64 x := fun p hp => by
    obtain ⟨v, hv⟩ := hko p hp
    obtain ⟨x, _, hx, _⟩ := Maps.keyOf_i64 Try.underlying3 hv
    exact ⟨x, hx⟩
  rw [hD] at hm ⊢
  show ((es.filter fun p => !pdN p.1 p.2).map fun p => Go.intOf p.1).Nodup ∧ ∀ x, x ∈ ((es.filter fun p => !pdN p.1 p.2).map fun p => Go.intOf p.1) ↔ _
  refine ⟨?_, fun x => ?_⟩
  · refine List.pairwise_map.2 ((hpw.filter _).imp_of_mem fun {p q} hp hq hne e => hne ?_)
    obtain ⟨a, ha⟩ := hk p (List.mem_filter.1 hp).1
    obtain ⟨c, hc⟩ := hk q (List.mem_filter.1 hq).1
    rw [ha, hc] at e ⊢
    exact congrArg _ e
  · rw [← hm x, has_eq, List.any_eq_true, List.mem_map]
    constructor
    · rintro ⟨p, hp, rfl⟩
      obtain ⟨h1, h2⟩ := List.mem_filter.1 hp
      obtain ⟨a, ha⟩ := hk p h1
      refine ⟨⟨p, h1, by rw [ha]; simp [keyI, Lit.sameKey, Go.intOf]⟩, ?_⟩
      rw [ha] at h2 ⊢
      simpa [pdN, Go.intOf] using h2
    · rintro ⟨⟨p, hp, h1⟩, h2⟩
      obtain ⟨a, ha⟩ := hk p hp
      have e : a = x := by rw [ha] at h1; simpa [keyI, Lit.sameKey] using h1
      subst e
      exact ⟨p, List.mem_filter.2 ⟨hp, by rw [ha]; simpa [pdN] using h2⟩, by rw [ha]; rfl⟩
theorem isN_iff {x : Int} : isN x 6 = true ↔ 0 ≤ x ∧ x < 6 := by simp [isN]
/-- sorted, they are the nodes of the range -/
theorem sorted_nodes {l : List Sp} {frm till : Int} {o ss : List Int} {D : DataW Unit} (ho : ∀ m, m ∈ o ↔ ∃ v, max frm 0 ≤ v ∧ v < min till 10000 ∧ (∃ s ∈ l, s.1 ≤ v) ∧ find l v = m)
    (hn : (intKeys D).Nodup) (hk : ∀ x, x ∈ intKeys D ↔ x ∈ o ∧ isN x 6 = true) (hs : ss.Perm (intKeys D)) : ss.mergeSort leI = nodesOf l frm till := by
  have hp := List.mergeSort_perm ss leI
  have hle : (ss.mergeSort leI).Pairwise (fun x y => x ≤ y) := (List.pairwise_mergeSort (le := leI) (fun a b c h1 h2 => by simp [leI] at h1 h2 ⊢; omega) (fun a b => by simp [leI]; omega) ss).imp fun {a b} h => by simpa [leI] using h
  have hnd : (ss.mergeSort leI).Nodup := (hp.trans hs).nodup_iff.2 hn
  refine rise_ext ((hle.and hnd).imp fun {a b} ⟨h1, h2⟩ => by omega) (nodes_rise l frm till) fun x => ?_
  rw [(hp.trans hs).mem_iff, hk, ho, isN_iff, nodes_mem]
  constructor
  · rintro ⟨⟨v, h1, h2, _, h4⟩, h5⟩
    exact ⟨h5, v, h1, h2, h4⟩
  · rintro ⟨h5, v, h1, h2, h4⟩
    refine ⟨⟨v, h1, h2, ?_, h4⟩, h5⟩
    rcases find_mem l v with h | ⟨s, hs, h6, _⟩
    · omega
    · exact ⟨s, hs, h6⟩

theorem sortsI (m : Nat) : AnyZI.SortsIn Try.prog Try.laysSorted_ren Fence.wide m :=
  ⟨fun blk off cap ss W hH hblk hsz => callsIn_wide.2 (AnyM.slices_Sort_int Try.laysSort blk off cap ss W hH hblk hsz),
   fun p cap W => callsIn_wide.2 (AnyM.slices_Sort_int_none Try.laysSort p cap W)⟩



def NodesOut (w : World) (l : List Sp) (frm till : Int) (e : Ending) (w' : World) : Prop := ∃ v, e = .returned v ∧ IntsOwn w.heap.size w' v (nodesOf l frm till) ∧ Below w.heap.size w w'

theorem nodes_len (l : List Sp) (frm till : Int) : (nodesOf l frm till).length ≤ 6 := List.length_filter_le _ _
set_option maxHeartbeats 1000000 in
/-- the keys of a set, sorted -/
theorem sortedKeys_in (b n : Nat) (D : DataW Unit) (w : World) (hown : w.ownsMap Try.prog 3 (unitElem (H := Unit)) b n D) (hsz : Maps.size D ≤ 6) :
    CallsIn Fence.wide 5 Try.prog 34 #[.func (.func 46) #[] #[.pointer (some ⟨w.heap.size, 0, none⟩)]] (w.alloc (.cells #[.map (some b)] 60)) fun e w' =>
      ∃ (v : Value) (ss : List Int), e = .returned v ∧ ss.Perm (intKeys D) ∧ w'.ownsRow w.heap.size 3 1 v ss.length ((ss.mergeSort leI).map encZ) ∧ Below w.heap.size w w' := by
  have hbl := World.ownsMap.lt hown
  have hseq : SeqGives Fence.wide 2 Try.prog 46 #[.pointer (some ⟨w.heap.size, 0, none⟩)] encZ (fun ss => ss.Perm (intKeys D)) (Maps.size D) (w.alloc (.cells #[.map (some b)] 60)) :=
    AnyZI.keys_gives (ρ := Try.laysKeys_ren) { Try.laysKeys with } Fence.wide _ trivial rfl (by omega) w.heap.size b n D _ (by simp) (by simp) (by
      obtain ⟨es, clock, hb, Ft, hs, hD⟩ := hown
      exact ⟨es, clock, (Below.heap_alloc _ _ b hbl).trans hb, Ft, hs, hD⟩)
  have cS := AnyZI.sorted_in Try.laysSorted Fence.wide 5 trivial trivial trivial trivial rfl (by omega) (sortsI _) (enters_of Try.func45 (by kernel_rfl) rfl) 46 #[.pointer (some ⟨w.heap.size, 0, none⟩)] trivial (enters_of Try.func46 (by kernel_rfl) rfl) _ _ (by unfold maxLen; omega) (by omega) _ hseq
  change CallsIn _ _ Try.prog 34 _ _ _ at cS
  refine cS.mono ?_
  rintro e w' ⟨v, ss, rfl, hS, hrow, hnil, hb⟩
  exact ⟨v, ss, rfl, hS, ownsRow_base_a hrow (by simp), ((Below.refl _ w).alloc (Nat.le_refl _) _).trans (hb.mono (by simp))⟩

theorem keys_small {W : World} {b n : Nat} {o : List Int} {l : List Sp} {frm till f1 t1 : Int} (hf : max frm 0 = f1 ∧ min till 10000 = t1) (ho : ∀ m ∈ o, I64 m) (h : SetAt W b n o) (hom : ∀ m, m ∈ o ↔ ∃ v, f1 ≤ v ∧ v < t1 ∧ (∃ s ∈ l, s.1 ≤ v) ∧ find l v = m) : Maps.size (Lib.deleteFuncD pdN (setD o)) ≤ 6 := by
  obtain ⟨rfl, rfl⟩ := hf
  obtain ⟨h1, h2⟩ := del_keys ho h
  have e := sorted_nodes hom h1 h2 (List.Perm.refl _)
  have h3 : (intKeys (Lib.deleteFuncD pdN (setD o))).length ≤ 6 := by
    rw [← (List.mergeSort_perm _ leI).length_eq, e]; exact nodes_len _ _ _
  obtain ⟨es, hD, _⟩ := World.ownsMap.entries h lawI
  rw [hD] at h3 ⊢
  simpa [intKeys, Lib.deleteFuncD, Maps.size] using h3
theorem nodes_done {w W0 w1 w2 w4 : World} {b n : Nat} {o ss : List Int} {l : List Sp} {frm till f1 t1 : Int} {v : Value} (hf : max frm 0 = f1 ∧ min till 10000 = t1) (hb0 : Below w.heap.size w W0) (hs0 : W0.heap.size = w.heap.size + 1) (ho : ∀ m ∈ o, I64 m) (h : SetAt w1 b n o) (hom : ∀ m, m ∈ o ↔ ∃ v, f1 ≤ v ∧ v < t1 ∧ (∃ s ∈ l, s.1 ≤ v) ∧ find l v = m)
    (hbl : W0.heap.size ≤ b) (hbw : Below W0.heap.size W0 w1) (hg2 : w1.grownBy w2 (some b)) (hS : ss.Perm (intKeys (Lib.deleteFuncD pdN (setD o)))) (hrow : w4.ownsRow w2.heap.size 3 1 v ss.length ((ss.mergeSort leI).map encZ)) (hb4 : Below w2.heap.size w2 w4) : NodesOut w l frm till (.returned v) w4 := by
  obtain ⟨rfl, rfl⟩ := hf
  obtain ⟨h1, h2⟩ := del_keys ho h
  have e := sorted_nodes hom h1 h2 hS
  have hl : ss.length = (nodesOf l frm till).length := by rw [← e, (List.mergeSort_perm _ leI).length_eq]
  rw [e, hl] at hrow
  have b1 : Below w.heap.size w w1 := hb0.trans (hbw.mono (by omega))
  have b2 : Below w.heap.size w1 w2 := (Below.refl _ w1).grown hg2 b1.size (fun j e => by cases e; omega)
  have b3 := b1.trans b2
  exact ⟨v, rfl, own_mono hrow b3.size, b3.trans (hb4.mono b3.size)⟩

set_option maxRecDepth 100000 in
set_option maxHeartbeats 4000000 in
theorem nodes_any (ep : Int) (a : Option Addr) (n c : Nat) (l : List Sp) (frm till : Int) (w : World) (h : Sps w a n c l) (hnM : n ≤ maxLen) :
    Calls Try.prog 12 #[mapV ep a n c, .int .i64 frm, .int .i64 till] w (NodesOut w l frm till) := by
  obtain ⟨W0, hW0⟩ : ∃ W0, w.alloc (.cells (mapC ep a n c) 29) = W0 := ⟨_, rfl⟩
  have hb0 : Below w.heap.size w W0 := by rw [← hW0]; exact (Below.refl _ w).alloc (Nat.le_refl _) _
  have hM : Bx W0 w.heap.size (mapC ep a n c) 29 := by rw [← hW0]; exact Bx.new _ _ _
  have r1 := hM.cell (j := 1) (x := .slice a n c) rfl
  have s0 : W0.heap.size = w.heap.size + 1 := by rw [← hW0]; simp
  have hH := holders_any a n c l (max frm 0) (min till 10000) W0 (h.keep hb0) hnM
  have HB : Aside (Below w.heap.size w W0 ∧ W0.heap.size = w.heap.size + 1) := ⟨hb0, s0⟩
  have HW : Hid (w.alloc (.cells #[.int .u32 ep, .slice a n c] 29) = W0) := hW0
  have HH : Aside (_) := hH
  clear h hb0 hM hW0 hH s0
  refine (callsIn_wide (n := 6)).1 ?_
  refine callsIn_of_wp Try.func12 rfl trivial ?_ rfl
  simp only [Try.ntmps12, List.size_toArray, List.length_cons, List.length_nil, Nat.reduceAdd, Nat.reduceSub, Array.replicate_succ, Array.replicate_zero, List.push_toArray, List.append_toArray, List.nil_append, List.cons_append]
  unfold mapV
  obtain ⟨t1, ht1⟩ : ∃ t1, min till 10000 = t1 := ⟨_, rfl⟩
  obtain ⟨f1, hf1⟩ : ∃ f1, max frm 0 = f1 := ⟨_, rfl⟩
  have HF : Hid (max frm 0 = f1 ∧ min till 10000 = t1) := ⟨hf1, ht1⟩
  rw [hf1, ht1] at HH
  have cK : ∀ mb W, CallsIn Fence.wide 5 Try.prog 35 #[.map mb] W fun e w' => e = .returned (.func (.func 46) #[] #[.pointer (some ⟨W.heap.size, 0, none⟩)]) ∧ w' = W.alloc (.cells #[.map mb] 60) := fun mb W => AnyZI.keys_in Try.laysKeys Fence.wide 5 trivial rfl mb W
  have hfK : Fence.wide.fn 35 := trivial
  have hfS : Fence.wide.fn 34 := trivial
  have hfH : Fence.wide.fn 30 := trivial
  have hfD : Fence.wide.fn 31 := trivial
  gi_wp2_with (first
      | (gi_at_call 30; rw [HW.out]; refine (callsIn_wide.2 HH.out).mono ?_; rintro e w1 ⟨b, o, rfl, hset, hoI, hom, hbl, hbw⟩)
      | (gi_at_call 31; refine (callsIn_wide.2 (del_any b n (setD o) w1 hset)).mono ?_; rintro e w2 ⟨rfl, hown2, hg2⟩)
      | (gi_at_call 35; refine (cK _ _).mono ?_; rintro e w3 ⟨rfl, rfl⟩)
      | (gi_at_call 34; refine (sortedKeys_in b n _ w2 hown2 (keys_small HF.out hoI hset hom)).mono ?_; rintro e w4 ⟨v, ss, rfl, hS, hrow, hb4⟩))
  go_ret
  exact nodes_done HF.out HB.out.1 HB.out.2 hoI hset hom hbl hbw hg2 hS hrow hb4
end Go.Proofs.Ytfhihkogdnbghaa.spans
