/-
  The statements' own rows: frames one behind the other.
-/
import Derived.Test.YtimijfibfjlkjaaFrameRefWrap
import Derived.Test.YtimijfibfjlkjaaFrameLaw
namespace Go.Proofs.Ytimijfibfjlkjaa.frame
open Go.ChangeShapes Go.WideShapes Go.ChangeAt Go.RowKit Go.Deep
open Go.Proofs.Ytimijfibfjlkjaa.bytes
set_option linter.unusedVariables false
set_option maxRecDepth 100000
set_option linter.unusedSimpArgs false

theorem wt_rows (ls : List Lr) : (rowsB (ls.map (·.l))).length = wt ls := by
  unfold rowsB wt
  induction ls with
  | nil => rfl
  | cons x ls ih => rw [List.map_cons, List.flatMap_cons, List.length_append, wrapB_len, ih, List.map_cons, List.sum_cons]
theorem rows_take {ls : List Lr} {k : Nat} (h : k < ls.length) : rowsB ((ls.take (k + 1)).map (·.l)) = rowsB ((ls.take k).map (·.l)) ++ wrapB (ln ls k).l := by
  unfold rowsB
  rw [List.take_succ_eq_append_getElem h, List.map_append, List.flatMap_append, ln_eq h]
  simp
set_option maxHeartbeats 8000000 in
theorem rows_any (n c : Nat) (a : Option Addr) (ls : List Lr) (w : World) (hL : ListsIn w a ls) (hn : ls.length = n) (hn2 : n ≤ 9223372036854775807) (hw : wt ls ≤ 60000) (hcp : ∀ k, k < ls.length → (ln ls k).l.length ≤ (ln ls k).cap) :
    Calls Try.prog 16 #[.slice a n c] w fun e w' => ∃ v, e = .returned v ∧ Bs w.heap.size w' v (rowsB (ls.map (·.l))) ∧ Below w.heap.size w w' := by
  obtain ⟨i0, hi, hz0, hz1, hz2⟩ := info_parts info_u8
  have H : Aside (ListsIn w a ls ∧ ls.length = n ∧ wt ls ≤ 60000) := ⟨hL, hn, hw⟩
  have HC : Aside (∀ k, k < ls.length → (ln ls k).l.length ≤ (ln ls k).cap) := hcp
  clear hL hn hw hcp
  go_enter Try.func16, Try.ntmps16
  go_wp2_with fail
  go_loopg [3, 4, 5, 6] n (fun g1 v vi u5 u6 wr => ∃ (k : Nat), vi = .int .i64 k ∧ k ≤ n ∧ n - k ≤ g1 ∧ Aside (Bs w.heap.size wr v (rowsB ((ls.take k).map (·.l))) ∧ Below w.heap.size w wr))
  case atStart => exact ⟨0, rfl, Nat.zero_le _, Nat.le_refl _, Bs.none _ _, Below.refl _ _⟩
  case round =>
    obtain ⟨k, rfl, hk, hg1, SK⟩ := hrel
    by_cases hlt : k < n
    · have hltz : (k : Int) < (n : Int) := by omega
      have hkl : k < ls.length := by rw [H.out.2.1]; exact hlt
      obtain ⟨b, off, ha, hc⟩ := (H.out.1.keep SK.out.2).get hkl
      subst ha
      obtain ⟨r0, r1⟩ := hc k hkl
      clear hc
      have HT : Aside (rowsB ((ls.take (k + 1)).map (·.l)) = rowsB ((ls.take k).map (·.l)) ++ wrapB (ln ls k).l ∧ (rowsB ((ls.take k).map (·.l))).length + (wrapB (ln ls k).l).length ≤ 60000) := by
        refine ⟨rows_take hkl, ?_⟩
        rw [← List.length_append, ← rows_take hkl, wt_rows]
        exact Nat.le_trans (wt_le ls _) H.out.2.2
      have hle : (ln ls k).l.length ≤ 60000 := by have := HT.out.2; rw [wrapB_len] at this; omega
      have hW := refWrap_any (ln ls k).l.length (ln ls k).cap (ln ls k).a (ln ls k).l wr ⟨⟨r1, fun h0 p hp => by
          obtain ⟨b2, o2, e2, hc2⟩ := r1.get (List.length_pos_iff.2 h0)
          rw [e2] at hp; injection hp with hp; subst hp
          exact cell_lt (hc2 0 (List.length_pos_iff.2 h0)), rfl, HC.out k hkl⟩, by omega⟩ hle
      have hwl := wrapB_len (ln ls k).l
      generalize (ln ls k).l = q at r0 HT hW hle hwl
      generalize (ln ls k).cap = lc at r0 hW
      generalize (ln ls k).a = la at r0 hW
      clear r1
      generalize hdone : rowsB ((ls.take k).map (·.l)) = done at SK HT
      have hown : wr.ownsRow w.heap.size 5 1 u3 done.length (Lib.byteCells done) := SK.out.1
      have hsz := SK.out.2.size
      have hsum := HT.out.2
      obtain ⟨dn, hdn⟩ : ∃ dn, done.length = dn := ⟨_, rfl⟩
      obtain ⟨pn, hpn⟩ : ∃ pn, (wrapB q).length = pn := ⟨_, rfl⟩
      have HD : Hid (done.length = dn) := hdn
      have HP : Hid ((wrapB q).length = pn) := hpn
      rw [hdn] at hown hsum
      rw [hpn] at hsum hwl
      have hpos : 0 < pn := by omega
      clear hdn hpn hdone hwl
      go_upto_region 6 with (go_at_call 12; refine hW.mono ?_; rintro e w2 ⟨v2, rfl, hown2, hb2⟩; refine Hid.out ?_)
      refine hid ?_
      obtain ⟨g2, c2, e2, h82⟩ := hown2.form1 (by rw [HP.out]; omega)
      rw [HP.out] at e2 h82
      subst e2
      have hnews2 := (h82.sl (by omega)).news (by omega)
      obtain ⟨b2, o2, ea, hnews⟩ := hnews2
      simp only [Option.some.injEq, Addr.mk.injEq, and_true] at ea
      obtain ⟨rfl, rfl⟩ := ea
      have hcl : (Lib.byteCells (wrapB q)).length = pn * 1 := by rw [byteCells_len, HP.out]; omega
      have hone := byteCells_one (wrapB q)
      have hownk : w2.ownsRow w.heap.size 5 1 u3 dn (Lib.byteCells done) := own_below hown hb2
      have hbase : w.heap.size ≤ w2.heap.size := Nat.le_trans hsz hb2.size
      have S2 : Aside (∀ g cap w3, w3.ownsRow w.heap.size 5 1 (.slice (some ⟨g, 0, none⟩) (dn + pn) cap) (dn + pn) (Lib.byteCells done ++ Lib.byteCells (wrapB q)) → w2.grownBy w3 u3.ownBlock → (u3.ownBlock = some g ∨ g = w2.heap.size) → Bs w.heap.size w3 (.slice (some ⟨g, 0, none⟩) (dn + pn) cap) (rowsB ((ls.take (k + 1)).map (·.l))) ∧ Below w.heap.size w w3) := fun g cap w3 ho hg hat => by
        obtain ⟨p1, p2⟩ := Bs.pushes HD.out HP.out ho hg hat
        rw [HT.out.1]
        exact ⟨p1, (SK.out.2.trans (hb2.mono hsz)).trans (p2.below (SK.out.1.keep hb2) hbase)⟩
      clear SK HT hown2 hown h82 hb2 hW
      go_wp2_with (at_builtin; refine wpList_append_lies _ rfl (.tmp 21) (.tmp 22) 22 rfl w.heap.size 5 i0 _ 1 1 Try.underlying22 hi hz0 hz1 hz2 rfl (by decide) _ _ _ rfl hownk ⟨g2, 0, none⟩ pn c2 (Lib.byteCells (wrapB q)) rfl hcl hnews hone (by omega) (by unfold maxLen; omega) (by omega) hbase _ rfl ?_; intro g cap3 w3 hown3 hg3 hat3 _; refine Hid.out ?_)
      refine hid ?_
      have S3 : Aside (_ ∧ _) := S2.out g cap3 w3 hown3 hg3 hat3
      clear S2 hown3 hg3 hat3 hownk hnews hone hcl
      go_wp2
      go_roundg (n - (k + 1))
      case measure => omega
      case rel => exact ⟨k + 1, by go_num, by omega, by omega, S3.out⟩
    · have hltz : ¬ (k : Int) < (n : Int) := by omega
      have S2 : Aside (Bs w.heap.size wr u3 (rowsB (ls.map (·.l))) ∧ Below w.heap.size w wr) := by
        have h := SK.out
        rwa [List.take_of_length_le (by rw [H.out.2.1]; omega)] at h
      clear SK
      go_wp2
      go_ret
      exact ⟨_, rfl, S2.out⟩
end Go.Proofs.Ytimijfibfjlkjaa.frame
