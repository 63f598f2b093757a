/-
  The chapter's own Scan.
-/
import Derived.Test.YtimijfibfjlkjaaFrameRefFirst
namespace Go.Proofs.Ytimijfibfjlkjaa.frame
open Go.ChangeShapes Go.WideShapes Go.ChangeAt Go.RowKit Go.Deep
open Go.Proofs.Ytimijfibfjlkjaa.bytes
set_option linter.unusedVariables false
set_option maxRecDepth 100000
set_option linter.unusedSimpArgs false

theorem info_lists : (Try.prog.info? 22).map (fun i => (i.zero, i.size, i.bytes)) = some (some (.slice none 0 0), 1, 24) := by kernel_rfl
/-- what has been read so far -/
structure ReadTo (l : List UInt8) (n : Nat) (done : List (List UInt8)) (k : Nat) : Prop where
  le : k ≤ n
  len : (rowsB done).length = k
  all : done ++ scanB (l.drop k) = scanB l
theorem ReadTo.start (l : List UInt8) (n : Nat) : ReadTo l n [] 0 := ⟨Nat.zero_le _, rfl, by simp⟩
theorem rows_count (done : List (List UInt8)) : done.length ≤ (rowsB done).length := by
  induction done with
  | nil => simp
  | cons x done ih =>
    have : rowsB (x :: done) = wrapB x ++ rowsB done := by simp [rowsB]
    rw [this, List.length_append, wrapB_len, List.length_cons]
    omega
theorem ReadTo.step {l : List UInt8} {n : Nat} (hl : l.length = n) {done : List (List UInt8)} {k : Nat} (h : ReadTo l n done k) {x : List UInt8} (hx : firstB (l.drop k) = some x) : ReadTo l n (done ++ [x]) (k + x.length + 7) := by
  obtain ⟨h1, h2, h3⟩ := first_some hx
  rw [List.length_drop, hl] at h3
  have hle := h.le
  refine ⟨by omega, ?_, ?_⟩
  · have : rowsB (done ++ [x]) = rowsB done ++ wrapB x := by simp [rowsB]
    rw [this, List.length_append, h.len, wrapB_len]; omega
  · rw [← h.all, scan_some hx, List.drop_drop, List.append_assoc]
    rfl
theorem ReadTo.done {l : List UInt8} {n : Nat} {done : List (List UInt8)} {k : Nat} (h : ReadTo l n done k) (hx : firstB (l.drop k) = none) : done = scanB l ∧ k = (rowsB (scanB l)).length := by
  have h1 := h.all
  rw [scan_none hx, List.append_nil] at h1
  exact ⟨h1, by rw [← h1, h.len]⟩

set_option maxHeartbeats 8000000 in
theorem refScan_any (n c : Nat) (a : Option Addr) (l : List UInt8) (w : World) (h : Sl w a n c l) (hn : n ≤ 1000000000000) :
    Calls Try.prog 13 #[.slice a n c] w fun e w' => ∃ v ls, e = .returned (.tuple #[v, .int .i64 ((rowsB (scanB l)).length : Nat)]) ∧ RowOut w.heap.size w' v ls ∧ ls.map (·.l) = scanB l ∧ Below w.heap.size w w' := by
  obtain ⟨i0, hi, hz0, hz1, hz2⟩ := info_parts info_lists
  have H : Aside (Sl w a n c l) := h
  have hcap := h.at_.cap
  clear h
  go_enter Try.func13, Try.ntmps13
  go_wp2_with fail
  go_loopg [4, 5, 6, 7] n (fun g1 v vi u6 u7 wr => ∃ (k : Nat) (ls : List Lr), vi = .int .i64 k ∧ n - k ≤ g1 ∧ Aside (ReadTo l n (ls.map (·.l)) k ∧ RowOut w.heap.size wr v ls ∧ Below w.heap.size w wr))
  case atStart => exact ⟨0, [], rfl, Nat.le_refl _, ReadTo.start _ _, RowOut.nil _ _, Below.refl _ _⟩
  case round =>
    obtain ⟨k, ls, rfl, hg1, SK⟩ := hrel
    have hkn := SK.out.1.le
    have hkz : (k : Int) ≤ (n : Int) := by omega
    have hkc : k ≤ c := by omega
    have hkcz : (k : Int) ≤ (c : Int) := by omega
    have hF := refFirst_any (n - k) (c - k) (shift a c k) (l.drop k) wr ((H.out.keep SK.out.2.2).back k hkn)
    cases hx : firstB (l.drop k) with
    | none =>
      rw [hx] at hF
      simp only [Option.isSome_none] at hF
      have HD : Aside (_ ∧ _) := SK.out.1.done hx
      clear hx
      by_cases hck : c = k
      · unfold shift at hF
        rw [if_pos hck] at hF
        subst hck
        rw [show n - c = 0 by omega, Nat.sub_self] at hF
        go_wp2_with (go_at_call 24; refine hF.mono ?_; rintro e w2 ⟨v2, rfl, -, hb2⟩)
        go_ret2
        exact ⟨_, ls, ret_v' (by rw [← HD.out.2]; rfl), SK.out.2.1.keep hb2, HD.out.1, SK.out.2.2.trans (hb2.mono SK.out.2.2.size)⟩
      · unfold shift at hF
        rw [if_neg hck] at hF
        go_wp2_with (go_at_call 24; refine hF.mono ?_; rintro e w2 ⟨v2, rfl, -, hb2⟩)
        go_ret2
        exact ⟨_, ls, ret_v' (by rw [← HD.out.2]; rfl), SK.out.2.1.keep hb2, HD.out.1, SK.out.2.2.trans (hb2.mono SK.out.2.2.size)⟩
    | some x =>
      rw [hx] at hF
      simp only [Option.isSome_some] at hF
      have hfs := first_some hx
      have h3 := hfs.2.2
      rw [List.length_drop, H.out.at_.len] at h3
      have hck : ¬ c = k := by omega
      unfold shift at hF
      rw [if_neg hck] at hF
      have HT : Aside (ReadTo l n (ls.map (·.l) ++ [x]) (k + x.length + 7) ∧ ls.length ≤ n) := by
        refine ⟨SK.out.1.step H.out.at_.len hx, ?_⟩
        have h1 := rows_count (ls.map (·.l))
        rw [SK.out.1.len, List.length_map] at h1
        omega
      have hlsn := HT.out.2
      have hx60 := hfs.1
      clear hx hfs
      go_upto_region 4 with (go_at_call 24; refine hF.mono ?_; rintro e w2 ⟨v2, rfl, hbs, hb2⟩; refine Hid.out ?_)
      refine hid ?_
      have hbx := hbs x rfl
      obtain ⟨a2, c2, e2⟩ := hbx.form
      subst e2
      have hro := SK.out.2.1.keep hb2
      have hsz := SK.out.2.2.size
      have hbase : w.heap.size ≤ w2.heap.size := Nat.le_trans hsz hb2.size
      have hown := hro.own
      obtain ⟨m, hm⟩ : ∃ m, x.length = m := ⟨_, rfl⟩
      obtain ⟨q, hq⟩ : ∃ q, ls.length = q := ⟨_, rfl⟩
      have HQ : Hid (ls.length = q) := hq
      rw [hq] at hown hlsn
      have S2 : Aside (∀ g cap w3, w3.ownsRow w.heap.size 22 1 (.slice (some ⟨g, 0, none⟩) (q + 1) cap) (q + 1) (ls.map lv ++ [.slice a2 m c2]) → (w2.alloc (.cells #[.slice a2 m c2] 22)).grownBy w3 u4.ownBlock → RowOut w.heap.size w3 (.slice (some ⟨g, 0, none⟩) (q + 1) cap) (ls ++ [Lr.mk a2 c2 x]) ∧ Below w.heap.size w w3 ∧ ReadTo l n ((ls ++ [Lr.mk a2 c2 x]).map fun y => y.l) (k + m + 7)) := fun g cap w3 ho hg => by
        refine ⟨RowOut.push (x := ⟨a2, c2, x⟩) hro ?_ HQ.out ?_ hg, ?_, ?_⟩
        · show Bs w.heap.size w2 (.slice a2 x.length c2) x
          exact own_mono hbx hsz
        · show w3.ownsRow _ _ _ _ _ (ls.map lv ++ [.slice a2 x.length c2])
          rw [hm]; exact ho
        · refine ((SK.out.2.2.trans (hb2.mono hsz)).alloc hbase _).grown hg (by simp; omega) fun j hj => (hro.own.lt j hj).1
        · rw [List.map_append, ← hm]; exact HT.out.1
      rw [hm] at h3 hx60 ⊢
      clear SK HT hF hbs hbx hro hb2 hm hq
      go_wp2_with (at_builtin; refine wpList_append_lies _ rfl (.tmp 19) (.tmp 21) 28 rfl w.heap.size 22 i0 _ 1 24 Try.underlying28 hi hz0 hz1 hz2 rfl (by decide) _ q _ rfl (hown.alloc _) ⟨w2.heap.size, 0, none⟩ 1 1 [_] rfl rfl (cell_one_new _ _ _) (by intro u hu; simp at hu; subst hu; rfl) (by omega) (by unfold maxLen; omega) (by omega) (by simp; omega) (w2.heap.size + 1) (by simp) ?_; intro g c3 w3 hown3 hgrow hat hglt)
      have S3 : Aside (_ ∧ _ ∧ _) := S2.out g c3 w3 hown3 hgrow
      clear S2 hown3 hgrow hat hglt hown
      go_wp2
      go_roundg (n - (k + m + 7))
      case measure => omega
      case rel => exact ⟨k + m + 7, ls ++ [Lr.mk a2 c2 x], by go_num, by omega, S3.out.2.2, S3.out.1, S3.out.2.1⟩
end Go.Proofs.Ytimijfibfjlkjaa.frame
