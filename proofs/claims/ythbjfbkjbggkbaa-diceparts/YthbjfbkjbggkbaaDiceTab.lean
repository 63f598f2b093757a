/-
  Tables that the statements' walks carry; rows that a list of keys makes.
-/
import Derived.Test.YthbjfbkjbggkbaaDiceCut
import Derived.Test.YthbjfbkjbggkbaaDiceKeys
import Derived.Test.YthbjfbkjbggkbaaDiceOf
import Derived.Test.YthbjfbkjbggkbaaTableOpenR
namespace Go.Proofs.Ythbjfbkjbggkbaa.dice
open Go.ChangeShapes Go.WideShapes Go.ChangeAt Go.RowKit Go.Deep
open Go.Proofs.Ythbjfbkjbggkbaa.dims
open Go.Proofs.Ythbjfbkjbggkbaa.table (Rw rwn plain PRow rowCells KeyOk TabOut flatR flatR_len flatR_snoc flatR_one rowCells_one info_row own_rows rwn_mem rwn_eq wpList_append_zero refSame_any)
open Go.Proofs.Ythbjfbkjbggkbaa.cell (C4 In64)
set_option linter.unusedVariables false
set_option maxRecDepth 100000

theorem heavy2 (bb : Nat) (a1 a2 : Option Addr) (n1 n2 c1 c2 : Nat) (w : World) (h0 : w.cell? ⟨bb, 0, none⟩ = some (.slice a1 n1 c1)) (h1 : w.cell? ⟨bb, 1, none⟩ = some (.slice a2 n2 c2)) :
    Calls Try.prog 16 #[.slice (some ⟨bb, 0, none⟩) 2 2] w fun e w' => (e = .returned (.bool true) ∨ (e = .returned (.bool false) ∧ n1 ≤ 100 ∧ n2 ≤ 100)) ∧ w' = w := by
  refine (heavy_any bb 2 (fun i => if i = 0 then a1 else a2) (fun i => if i = 0 then n1 else n2) (fun i => if i = 0 then c1 else c2) w (by omega) ?_).mono ?_
  · intro i hi
    match i, hi with
    | 0, _ => simpa using h0
    | 1, _ => simpa using h1
  · rintro e w1 ⟨h | ⟨h, hL⟩, rfl⟩
    · exact ⟨.inl h, rfl⟩
    · exact ⟨.inr ⟨h, by simpa using hL 0 (by omega), by simpa using hL 1 (by omega)⟩, rfl⟩

theorem ints_out8 (a : Option Addr) (n c : Nat) (l : List Int) (w : World) (hC : Nums .u8 w a n c l) (hm : n ≤ 100000) :
    Calls Try.prog 20 #[.slice a n c] w fun e w' => ∃ v, e = .returned v ∧ ListOut w n l v w' := by
  refine (ints_any a n c l w hC hm).mono ?_
  rintro e w1 ⟨v, rfl, h⟩
  exact ⟨v, rfl, row_len (own_out h.1).1 hC.eln, h.2⟩

/-- a table that came out of a call, with its rows -/
def TabRes (w : World) (n : Nat) (v : Value) (t : List PRow) (W : World) : Prop := (∃ a cap rs, v = .slice a n cap ∧ table.RowsIn W a rs ∧ rs.map plain = t ∧ rs.length = n) ∧ Below w.heap.size w W
theorem tab_res {w W : World} {v : Value} {t : List PRow} {n : Nat} (h : TabOut W v t) (hn : t.length = n) (hb : Below w.heap.size w W) : TabRes w n v t W := by
  obtain ⟨a, cap, rs, e, hR, hp, -, -⟩ := h
  have hl : rs.length = n := by rw [← hn, ← hp]; simp
  exact ⟨⟨a, cap, rs, by rw [e, hl], hR, hp, hl⟩, hb⟩
theorem cut_len (p : List Int → Bool) (rs : List Rw) : (cutR p rs).length ≤ rs.length := by simp [cutR]; exact List.length_filter_le _ _

theorem cut_out (a a1 a2 : Option Addr) (n cap n1 n2 c1 c2 m : Nat) (rs : List Rw) (lo up : List Int) (w : World) (hR : table.RowsIn w a rs) (hn : rs.length = n) (hn2 : n ≤ 100000) (hk : ∀ r ∈ rs, r.k.length ≤ 100000) (h1 : Ints w a1 lo) (e1 : lo.length = n1) (h2 : Ints w a2 up) (e2 : up.length = n2) (hm : (cutR (wtn lo up) rs).length = m) :
    Calls Try.prog 22 #[.slice a n cap, .slice a1 n1 c1, .slice a2 n2 c2] w fun e w' => ∃ v, e = .returned v ∧ TabRes w m v (cutR (wtn lo up) rs) w' := by
  refine (cut_any a a1 a2 n cap n1 n2 c1 c2 rs lo up w hR hn hn2 hk h1 e1 h2 e2).mono ?_
  rintro e w1 ⟨v, rfl, h, hb⟩
  exact ⟨v, rfl, tab_res h hm hb⟩
theorem refCut_out (a a1 a2 : Option Addr) (n cap n1 n2 c1 c2 m : Nat) (rs : List Rw) (lo up : List Int) (w : World) (hR : table.RowsIn w a rs) (hn : rs.length = n) (hn2 : n ≤ 100000) (hk : ∀ r ∈ rs, r.k.length ≤ 100000) (h1 : Ints w a1 lo) (e1 : lo.length = n1) (h2 : Ints w a2 up) (e2 : up.length = n2) (h9 : n1 ≤ 9223372036854775807) (hm : (cutR (wtn lo up) rs).length = m) :
    Calls Try.prog 23 #[.slice a n cap, .slice a1 n1 c1, .slice a2 n2 c2] w fun e w' => ∃ v, e = .returned v ∧ TabRes w m v (cutR (wtn lo up) rs) w' := by
  refine (refCut_any a a1 a2 n cap n1 n2 c1 c2 rs lo up w hR hn hn2 hk h1 e1 h2 e2 h9).mono ?_
  rintro e w1 ⟨v, rfl, h, hb⟩
  exact ⟨v, rfl, tab_res h hm hb⟩

/-- rows that a list of keys makes -/
def mkRow (ck : Nat → List Int) (cc : Nat → C4) (n : Nat) : List Rw := (List.range n).map fun i => ⟨none, 0, ck i, cc i⟩
theorem mkRow_len (ck : Nat → List Int) (cc : Nat → C4) (n : Nat) : (mkRow ck cc n).length = n := by simp [mkRow]
theorem mkRow_nth (ck : Nat → List Int) (cc : Nat → C4) {n i : Nat} (hi : i < n) : rwn (mkRow ck cc n) i = ⟨none, 0, ck i, cc i⟩ := by simp [mkRow, rwn, hi]
theorem cutR_all (rs : List Rw) : cutR (fun _ => true) rs = rs.map plain := by
  unfold cutR
  rw [List.filter_eq_self.2 (by simp)]
theorem In64_u8 {x : Int} (h : 0 ≤ x ∧ x ≤ 255) : In64 x := by unfold In64; omega

theorem rows_light {rs qs : List Rw} {m : Nat} (h : rs.map plain = qs.map plain) (hq : ∀ i, i < qs.length → (rwn qs i).k.length ≤ m) : ∀ r ∈ rs, r.k.length ≤ m := by
  intro r hr
  have h1 : plain r ∈ qs.map plain := by rw [← h]; exact List.mem_map_of_mem hr
  obtain ⟨q, hq2, he⟩ := List.mem_map.1 h1
  obtain ⟨i, hi, rfl⟩ := List.mem_iff_getElem.1 hq2
  have := hq i hi
  rw [rwn_eq hi] at this
  have e : qs[i].k = r.k := congrArg Prod.fst he
  rw [← e]; exact this
end Go.Proofs.Ythbjfbkjbggkbaa.dice
