/-
  The contracts of the statements' own 'Key' and 'Levels': members and levels, as choices say.
-/
import Derived.Test.YthbjfbkjbggkbaaDimsOfWalk
namespace Go.Proofs.Ythbjfbkjbggkbaa.dims
open Go.ChangeShapes Go.WideShapes Go.ChangeAt Go.RowKit Go.Deep
set_option linter.unusedVariables false
set_option maxRecDepth 100000

def keyV (ds : List Dm) (ch : List Int) (i : Nat) : Int := nth ch i % (dn ds i).sz
def keyL (ds : List Dm) (ch : List Int) : List Int := (List.range ds.length).map (keyV ds ch)
def levV (ds : List Dm) (ch lo : List Int) (i : Nat) : Int := nth lo i + nth ch i % (((dn ds i).l.length : Int) + 2 - nth lo i)
def levL (ds : List Dm) (ch lo : List Int) : List Int := (List.range ds.length).map (levV ds ch lo)

theorem range_take (f : Nat → Int) (n k : Nat) (h : k < n) : ((List.range n).map f).take (k + 1) = ((List.range n).map f).take k ++ [f k] := by
  rw [List.take_succ_eq_append_getElem (by simpa using h)]
  simp
theorem nth_out {l : List Int} {i : Nat} (h : ¬ i < l.length) : nth l i = 0 := by simp [nth, List.getElem?_eq_none (by omega : l.length ≤ i)]
theorem keyL_len (ds : List Dm) (ch : List Int) : (keyL ds ch).length = ds.length := by simp [keyL]
theorem levL_len (ds : List Dm) (ch lo : List Int) : (levL ds ch lo).length = ds.length := by simp [levL]
theorem keyL_nth (ds : List Dm) (ch : List Int) {i : Nat} (hi : i < ds.length) : nth (keyL ds ch) i = keyV ds ch i := by simp [keyL, nth, hi]
theorem levL_nth (ds : List Dm) (ch lo : List Int) {i : Nat} (hi : i < ds.length) : nth (levL ds ch lo) i = levV ds ch lo i := by simp [levL, nth, hi]

/-- what is handed out: a row of numbers of the call's own -/
def KeyRes (w : World) (L : List Int) (v : Value) (W : World) : Prop := W.ownsRow w.heap.size 3 1 v L.length (vals L) ∧ Below w.heap.size w W

set_option maxHeartbeats 8000000 in
theorem key_any (a ac : Option Addr) (n cap nc cc : Nat) (ds : List Dm) (ch : List Int) (w : World) (hI : DimsIn w a ds) (hn : ds.length = n) (hn4 : n ≤ 4) (hC : Nums .u16 w ac nc cc ch) (hs : ∀ i, i < n → 1 ≤ (dn ds i).sz) :
    Calls Try.prog 10 #[.slice a n cap, .slice ac nc cc] w fun e w' => ∃ v, e = .returned v ∧ KeyRes w (keyL ds ch) v w' := by
  obtain ⟨i0, hi, hz0, hz1, hz2⟩ := info_parts info_int
  obtain ⟨L, hLL⟩ : ∃ L, keyL ds ch = L := ⟨_, rfl⟩
  have HL : Aside (keyL ds ch = L ∧ L.length = n ∧ ∀ j, j < n → L.take (j + 1) = L.take j ++ [keyV ds ch j]) := ⟨hLL, by rw [← hLL, keyL_len, hn], fun j hj => by rw [← hLL]; exact range_take _ _ _ (by omega)⟩
  rw [hLL]
  have HI : Aside (DimsIn w a ds ∧ ds.length = n) := ⟨hI, hn⟩
  have HC : Aside (Nums .u16 w ac nc cc ch) := hC
  have HS : Aside (∀ i, i < n → 1 ≤ (dn ds i).sz) := hs
  clear hI hn hC hs hLL
  go_enter Try.func10, Try.ntmps10
  go_wp2_with fail
  go_loopg [5, 6] n (fun g1 v vi wr => ∃ (j : Nat), vi = .int .i64 j ∧ j ≤ n ∧ n - j ≤ g1 ∧ Aside (wr.ownsRow w.heap.size 3 1 v j (vals (L.take j)) ∧ Below w.heap.size w wr))
  case atStart => exact ⟨0, rfl, Nat.zero_le _, Nat.le_refl _, World.ownsRow_nil _ _ _ _, Below.refl _ _⟩
  case round =>
    obtain ⟨j, rfl, hj, hg1, SK⟩ := hrel
    by_cases hlt : j < n
    · have hltz : (j : Int) < (n : Int) := by omega
      have hbl := SK.out.2
      obtain ⟨b, off, ha, hc⟩ := (HI.out.1.keep hbl).get (k := j) (by rw [HI.out.2]; exact hlt)
      subst ha
      obtain ⟨r0, _, _, _⟩ := hc j (by rw [HI.out.2]; exact hlt)
      have hs1 := HS.out j hlt
      have HT : Hid (vals (L.take (j + 1)) = vals (L.take j) ++ [.int .i64 (nth ch j % (dn ds j).sz)]) := by
        show _ = _
        rw [HL.out.2.2 j hlt, vals_app]; rfl
      clear hc
      generalize (dn ds j).sz = s at r0 hs1 HT
      have hown := SK.out.1
      have hsz := hbl.size
      by_cases hjc : j < nc
      · have hjcz : (j : Int) < (nc : Int) := by omega
        have hjl : j < ch.length := by rw [HC.out.eln]; exact hjc
        obtain ⟨b2, o2, ha2, hc2⟩ := (HC.out.mem.keep hbl).get hjl
        subst ha2
        have r2 := hc2 j hjl
        have hw := u16_of_wf (HC.out.wf j hjl)
        clear hc2 hbl
        generalize nth ch j = x at r2 hw HT
        obtain ⟨y, hy⟩ : ∃ y, x % s = y := ⟨_, rfl⟩
        rw [hy] at HT
        have hy0 : 0 ≤ y := by rw [← hy]; exact Int.emod_nonneg _ (by omega)
        have s0 : ¬ s = 0 := by omega
        go_wp2_with (first | (at_builtin; refine wpList_append_lies _ rfl (.tmp 23) (.tmp 31) 26 rfl w.heap.size 3 i0 _ 1 8 Try.underlying26 hi hz0 hz1 hz2 rfl (by decide) _ _ _ rfl (hown.alloc _) ⟨wr.heap.size, 0, none⟩ 1 1 [.int .i64 y] rfl rfl (cell_one_new _ _ _) (by intro u hu; simp at hu; subst hu; rfl) (by decide) (by unfold maxLen; omega) (by omega) (by simp; omega) _ rfl ?_) | go_in)
        intro g cap3 w3 hown3 hgrow hat hglt
        have S3 : Aside (w3.ownsRow w.heap.size 3 1 (.slice (some ⟨g, 0, none⟩) (j + 1) cap3) (j + 1) (vals (L.take (j + 1))) ∧ Below w.heap.size w w3) :=
          ⟨by rw [HT.out]; exact hown3, (SK.out.2.alloc hsz _).grown hgrow (by simp; omega) fun q hq => (SK.out.1.lt q hq).1⟩
        clear hown3 hgrow hat hglt hown SK
        go_wp2
        go_roundg (n - (j + 1))
        case measure => omega
        case rel => exact ⟨j + 1, by go_num, by omega, by omega, S3⟩
      · have hjcz : ¬ (j : Int) < (nc : Int) := by omega
        have e0 : nth ch j = 0 := nth_out (by rw [HC.out.eln]; exact hjc)
        rw [e0, Int.zero_emod] at HT
        have s0 : ¬ s = 0 := by omega
        clear hbl e0
        go_wp2_with (first | (at_builtin; refine wpList_append_lies _ rfl (.tmp 23) (.tmp 31) 26 rfl w.heap.size 3 i0 _ 1 8 Try.underlying26 hi hz0 hz1 hz2 rfl (by decide) _ _ _ rfl (hown.alloc _) ⟨wr.heap.size, 0, none⟩ 1 1 [.int .i64 0] rfl rfl (cell_one_new _ _ _) (by intro u hu; simp at hu; subst hu; rfl) (by decide) (by unfold maxLen; omega) (by omega) (by simp; omega) _ rfl ?_) | go_in)
        intro g cap3 w3 hown3 hgrow hat hglt
        have S3 : Aside (w3.ownsRow w.heap.size 3 1 (.slice (some ⟨g, 0, none⟩) (j + 1) cap3) (j + 1) (vals (L.take (j + 1))) ∧ Below w.heap.size w w3) :=
          ⟨by rw [HT.out]; exact hown3, (SK.out.2.alloc hsz _).grown hgrow (by simp; omega) fun q hq => (SK.out.1.lt q hq).1⟩
        clear hown3 hgrow hat hglt hown SK
        go_wp2
        go_roundg (n - (j + 1))
        case measure => omega
        case rel => exact ⟨j + 1, by go_num, by omega, by omega, S3⟩
    · have hltz : ¬ (j : Int) < (n : Int) := by omega
      have hown := SK.out.1
      rw [List.take_of_length_le (by rw [HL.out.2.1]; omega), show j = L.length by rw [HL.out.2.1]; omega] at hown
      have HO : Aside _ := hown
      clear hown
      go_wp2
      go_ret
      exact ⟨_, rfl, HO.out, SK.out.2⟩

end Go.Proofs.Ythbjfbkjbggkbaa.dims
