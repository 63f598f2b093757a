/-
  The contract of the statements' own 'rows': cells become rows without keys, in new memory.
-/
import Derived.Test.YtpaelakaolggmaaRankKnown
import Derived.Laws.AppendOwnNone
import Derived.OwnWalk
namespace Go.Proofs.Ytpaelakaolggmaa.rank
open Go.ChangeShapes Go.WideShapes Go.ChangeAt Go.RowKit Go.Deep
set_option linter.unusedVariables false

/-- a row without a key, cell by cell in memory -/
def rowOf (c : C4) : List Value := [.slice none 0 0, .int .i64 c.n, .int .i64 c.s, .int .i64 c.lo, .int .i64 c.hi]
def flat (cs : List C4) : List Value := cs.flatMap rowOf

theorem flat_len (cs : List C4) : (flat cs).length = cs.length * 5 := by
  induction cs with
  | nil => rfl
  | cons c l ih => unfold flat at *; simp only [List.flatMap_cons, List.length_append, List.length_cons, ih]; simp [rowOf]; omega
theorem flat_snoc (l : List C4) (c : C4) : flat (l ++ [c]) = flat l ++ rowOf c := by simp [flat]
theorem flat_get (cs : List C4) : ∀ i j, i < cs.length → j < 5 → (flat cs)[i * 5 + j]? = (rowOf (nth cs i))[j]? := by
  induction cs with
  | nil => intro i j h; simp at h
  | cons c l ih =>
    intro i j hi hj
    have e : flat (c :: l) = rowOf c ++ flat l := by simp [flat]
    rw [e]
    cases i with
    | zero => rw [List.getElem?_append_left (by simp [rowOf]; omega)]; simp [nth]
    | succ k =>
      rw [List.getElem?_append_right (by simp [rowOf]; omega)]
      have e2 : (k + 1) * 5 + j - (rowOf c).length = k * 5 + j := by simp [rowOf]; omega
      rw [e2, ih k j (by simpa using hi) hj]
      simp [nth]

/-- cells at a place in memory -/
def CellsAt (w : World) (b off : Nat) (cs : List C4) : Prop :=
  ∀ i, i < cs.length → w.cell? ⟨b, off + i * 4, none⟩ = some (.int .i64 (nth cs i).n) ∧ w.cell? ⟨b, off + i * 4 + 1, none⟩ = some (.int .i64 (nth cs i).s) ∧ w.cell? ⟨b, off + i * 4 + 2, none⟩ = some (.int .i64 (nth cs i).lo) ∧ w.cell? ⟨b, off + i * 4 + 3, none⟩ = some (.int .i64 (nth cs i).hi)

theorem take_nth (cs : List C4) (k : Nat) (h : k < cs.length) : cs.take (k + 1) = cs.take k ++ [nth cs k] := by
  rw [List.take_succ_eq_append_getElem h]
  simp [nth, h]

theorem info_row : (Try.prog.info? 49).map (fun i => (i.zero, i.size, i.bytes)) = some (some (.agg #[.slice none 0 0, .int .i64 0, .int .i64 0, .int .i64 0, .int .i64 0]), 5, 56) := by kernel_rfl

set_option maxHeartbeats 4000000 in
theorem rows_any (cs : List C4) (b off cap : Nat) (w : World) (hb : b < w.heap.size) (hn : cs.length ≤ 200) (hR : CellsAt w b off cs) :
    Calls Try.prog 22 #[.slice (some ⟨b, off, none⟩) cs.length cap] w fun e w' => ∃ v, e = .returned v ∧ w'.ownsRow w.heap.size 49 5 v cs.length (flat cs) ∧ Below w.heap.size w w' := by
  obtain ⟨i0, hi, hz0, hz1, hz2⟩ := info_parts info_row
  obtain ⟨n, hnn⟩ : ∃ n, n = cs.length := ⟨_, rfl⟩
  rw [← hnn] at hn ⊢
  have HN : Hid (n = cs.length) := hnn
  clear hnn
  go_enter Try.func22, Try.ntmps22
  go_wp2_with fail
  go_loopg [3, 4] n (fun g1 v vi wr => ∃ (k : Nat), vi = .int .i64 k ∧ k ≤ n ∧ n - k ≤ g1 ∧ Aside (wr.ownsRow w.heap.size 49 5 v k (flat (cs.take k)) ∧ Below w.heap.size w wr))
  case atStart => exact ⟨0, rfl, Nat.zero_le _, Nat.le_refl _, ⟨World.ownsRow_nil _ _ _ _, Below.refl _ _⟩⟩
  case round =>
    obtain ⟨k, rfl, hk, hg1, SK⟩ := hrel
    by_cases hlt : k < n
    · have hltz : (k : Int) < (n : Int) := by omega
      have hlc : k < cs.length := by rw [← HN.out]; exact hlt
      obtain ⟨r0, r1, r2, r3⟩ := hR k hlc
      have hbl := SK.out.2
      rw [← hbl.cell (p := ⟨b, off + k * 4, none⟩) hb] at r0
      rw [← hbl.cell (p := ⟨b, off + k * 4 + 1, none⟩) hb] at r1
      rw [← hbl.cell (p := ⟨b, off + k * 4 + 2, none⟩) hb] at r2
      rw [← hbl.cell (p := ⟨b, off + k * 4 + 3, none⟩) hb] at r3
      have hown := SK.out.1
      have HT : Hid (flat (cs.take (k + 1)) = flat (cs.take k) ++ rowOf (nth cs k)) := by show _ = _; rw [take_nth cs k hlc, flat_snoc]
      have hsz := hbl.size
      clear hbl
      go_wp2_with (first | (at_builtin; refine wpList_append_own _ rfl _ _ 43 rfl w.heap.size 49 i0 _ 5 56 Try.underlying43 hi hz0 hz1 hz2 rfl (by decide) _ _ _ rfl (hown.alloc _) ⟨wr.heap.size, 0, none⟩ 1 1 (rowOf (nth cs k)) rfl rfl ?c1 ?c2 ?c3 ?c4 ?c5 ?_) | go_in)
      case c1 =>
        intro j u hj
        match j, hj with
        | 0, hj => simp [rowOf] at hj; subst hj; simp [Addr.add, go_sem]
        | 1, hj => simp [rowOf] at hj; subst hj; simp [Addr.add, go_sem]
        | 2, hj => simp [rowOf] at hj; subst hj; simp [Addr.add, go_sem]
        | 3, hj => simp [rowOf] at hj; subst hj; simp [Addr.add, go_sem]
        | 4, hj => simp [rowOf] at hj; subst hj; simp [Addr.add, go_sem]
        | j + 5, hj => simp [rowOf] at hj
      case c2 => intro u hu; simp [rowOf] at hu; rcases hu with rfl | rfl | rfl | rfl | rfl <;> rfl
      case c3 => unfold maxLen; omega
      case c4 => omega
      case c5 => simp; omega
      · intro v' w1 hown' hgrow _
        have S2 : Aside (w1.ownsRow w.heap.size 49 5 v' (k + 1) (flat (cs.take (k + 1))) ∧ Below w.heap.size w w1) := by
          refine ⟨by rw [HT.out]; exact hown', ?_⟩
          exact (SK.out.2.alloc hsz _).grown hgrow (by simp; omega) fun q hq => (hown.lt q hq).1
        clear hown' hgrow hown SK r0 r1 r2 r3 HT
        go_wp2
        go_roundg (n - (k + 1))
        case measure => omega
        case rel => exact ⟨k + 1, by go_num, by omega, by omega, S2⟩
    · have hltz : ¬ (k : Int) < (n : Int) := by omega
      have e : k = n := by omega
      have hown := SK.out.1
      rw [List.take_of_length_le (by rw [← HN.out]; omega), e] at hown
      have HO : Aside _ := hown
      clear hown e
      go_wp2
      go_ret
      exact ⟨_, rfl, HO.out, SK.out.2⟩
end Go.Proofs.Ytpaelakaolggmaa.rank
