/-
  The walk of TableRolls: of whatever dimensions, rows and levels the call answers true.
-/
import Derived.Test.YtfchpcmiipnbjaaDoorTableWork
import Derived.Test.YtfchpcmiipnbjaaDoorTableOpenR
namespace Go.Proofs.YtfchpcmiipnbjaaDoor.table
open Go.ChangeShapes Go.WideShapes Go.ChangeAt Go.RowKit Go.Deep
open Go.Proofs.YtfchpcmiipnbjaaDoor.dims
open Go.Proofs.YtfchpcmiipnbjaaDoor.dice (Kr kn)
open Go.Proofs.YtfchpcmiipnbjaaDoor.cell (C4 mrg all one zero In64)
set_option linter.unusedVariables false
set_option maxRecDepth 100000

theorem rollE_in (ds : List Dm) (rs : List Rw) (f t : List Int) : rollE ds rs f t = 0 ∨ rollE ds rs f t = 1 ∨ rollE ds rs f t = 30 ∨ rollE ds rs f t = 40 := by
  unfold rollE
  split
  · split
    · split <;> simp
    · simp
  · simp

set_option maxHeartbeats 8000000 in
theorem rolls_walk (a0 a1 a2 a3 : Option Addr) (n0 c0 n1 c1 n2 c2 n3 c3 : Nat) (ds : List Dm) (rs : List Rw) (f t : List Int) (w : World) (hp : Pow w) (pD : Pairs .i64 .i64 w a0 ds) (pd : ds.length = n0 ∧ n0 ≤ c0 ∧ c0 ≤ maxLen) (h1 : RowsIn w a1 rs) (e1 : rs.length = n1 ∧ n1 ≤ c1 ∧ c1 ≤ maxLen) (b1 : ∀ f ∈ rs, f.k.length ≤ 17592186044416) (pF : Nums .i64 w a2 n2 c2 f) (pT : Nums .i64 w a3 n3 c3 t) :
    Calls Tryd.prog 6 #[.slice a0 n0 c0, .slice a1 n1 c1, .slice a2 n2 c2, .slice a3 n3 c3] w fun e w' => e = .returned (.bool true) ∧ Below w.heap.size w w' := by
  have hn1 : n1 ≤ 9223372036854775807 := Nat.le_trans e1.2.1 (Nat.le_trans e1.2.2 maxLen_le2)
  have hn0 : n0 ≤ 9223372036854775807 := Nat.le_trans pd.2.1 (Nat.le_trans pd.2.2 maxLen_le2)
  have hH1 := heavy_any a1 none n1 0 c1 0 rs [] w h1 e1.1 hn1 (.inl rfl) rfl (by omega) b1 (fun r hr => by simp at hr)
  have HE : Aside (ds.length = n0 ∧ rs.length = n1 ∧ f.length = n2 ∧ t.length = n3) := ⟨pd.1, e1.1, pF.eln, pT.eln⟩
  have P0 : Aside (Pow w) := hp
  have D0 : Aside (DimsIn w a0 ds) := pD.dims
  have R0 : Aside (RowsIn w a1 rs) := h1
  have I0 : Aside (Ints w a2 f) := pF.mem
  have J0 : Aside (Ints w a3 t) := pT.mem
  clear hp pD pd h1 e1 b1 pF pT
  go_enter Tryd.func6, Tryd.ntmps6
  go_wp2_with fail
  refine hH1.mono ?_
  rintro e wx ⟨hh, hw⟩
  obtain rfl : w = wx := hw.symm
  clear hH1 hw
  rcases hh with rfl | ⟨rfl, HL⟩
  · have CK := known_any w P0.out
    go_wp2_with (go_at_call 12; refine CK.mono ?_; rintro e wx ⟨rfl, hbx⟩)
    go_ret
    exact ⟨rfl, hbx⟩
  have hr3 : n1 ≤ 300 := by have := HL.1; have := HE.out.2.1; omega
  clear HL
  by_cases x0 : (20 : Int) < (n0 : Int)
  · have CK := known_any w P0.out
    go_wp2_with (go_at_call 12; refine CK.mono ?_; rintro e wx ⟨rfl, hbx⟩)
    go_ret
    exact ⟨rfl, hbx⟩
  by_cases x2 : (20 : Int) < (n2 : Int)
  · have CK := known_any w P0.out
    go_wp2_with (go_at_call 12; refine CK.mono ?_; rintro e wx ⟨rfl, hbx⟩)
    go_ret
    exact ⟨rfl, hbx⟩
  by_cases x3 : (20 : Int) < (n3 : Int)
  · have CK := known_any w P0.out
    go_wp2_with (go_at_call 12; refine CK.mono ?_; rintro e wx ⟨rfl, hbx⟩)
    go_ret
    exact ⟨rfl, hbx⟩
  have CK := known_any w P0.out
  go_wp2_with (go_at_call 12; refine CK.mono ?_; rintro e w1 ⟨rfl, hbx⟩; refine Hid.out ?_)
  refine Lib.hid ?_
  have hb1 : Below w.heap.size w w1 := hbx
  have B1 : Aside (Below w.heap.size w w1) := hb1
  have P1 : Aside (Pow w1) := P0.out.keep hb1
  have D1 : Aside (DimsIn w1 a0 ds) := D0.out.keep hb1
  have R1 : Aside (RowsIn w1 a1 rs) := R0.out.keep hb1
  have I1 : Aside (Ints w1 a2 f) := I0.out.keep hb1
  have J1 : Aside (Ints w1 a3 t) := J0.out.keep hb1
  clear hb1  P0 D0 R0 I0 J0
  clear CK hbx
  go_wp2_with fail
  go_loopg [9] n0 (fun g1 vi wr => ∃ (k : Nat), vi = .int .i64 k ∧ w1 = wr ∧ k ≤ n0 ∧ n0 - k ≤ g1)
  case atStart => exact ⟨0, rfl, rfl, Nat.zero_le _, Nat.le_refl _⟩
  case round =>
    obtain ⟨k, rfl, rfl, hk, hg1⟩ := hrel
    by_cases hlt : k < n0
    · have hltz : (k : Int) < (n0 : Int) := by omega
      obtain ⟨b, off, ha, hc⟩ := D1.out.get (k := k) (by rw [HE.out.1]; exact hlt)
      subst ha
      obtain ⟨-, r1, -, rm⟩ := hc k (by rw [HE.out.1]; exact hlt)
      clear hc
      generalize (dn ds k).l.length = nl at r1 rm
      by_cases hl : (20 : Int) < (nl : Int)
      · go_wp2
        go_ret
        exact ⟨rfl, B1.out⟩
      · go_wp2
        go_roundg (n0 - (k + 1))
        case measure => omega
        case rel => exact ⟨k + 1, by go_num, rfl, by omega, by omega⟩
    · have hltz : ¬ (k : Int) < (n0 : Int) := by omega
      have HR : Aside (rollE ds rs f t = 0 ∨ rollE ds rs f t = 1 ∨ rollE ds rs f t = 30 ∨ rollE ds rs f t = 40) := rollE_in ds rs f t
      go_wp2_with fail
      refine (roll_any a0 a1 a2 a3 n0 n1 n2 n3 c0 c1 c2 c3 ds rs f t w1 P1.out D1.out HE.out.1 hn0 R1.out HE.out.2.1 (by omega) I1.out HE.out.2.2.1 J1.out HE.out.2.2.2).mono ?_
      rintro e w2 ⟨v1, rfl, hT1, hbx⟩
      have hb2 : Below w1.heap.size w1 w2 := hbx
      have B2 : Aside (Below w.heap.size w w2) := B1.out.trans (hb2.mono B1.out.size)
      have P2 : Aside (Pow w2) := P1.out.keep hb2
      have D2 : Aside (DimsIn w2 a0 ds) := D1.out.keep hb2
      have R2 : Aside (RowsIn w2 a1 rs) := R1.out.keep hb2
      have I2 : Aside (Ints w2 a2 f) := I1.out.keep hb2
      have J2 : Aside (Ints w2 a3 t) := J1.out.keep hb2
      clear hb2 B1 P1 D1 R1 I1 J1
      have T2 : Aside (TabOut w2 v1 (rollT ds rs f t)) := hT1
      clear hT1 hbx
      go_wp2_with fail
      refine (refRoll_any a0 a1 a2 a3 n0 n1 n2 n3 c0 c1 c2 c3 ds rs f t w2 D2.out HE.out.1 hn0 R2.out HE.out.2.1 (by omega) I2.out HE.out.2.2.1 J2.out HE.out.2.2.2).mono ?_
      rintro e w3 ⟨v2, rfl, hT2, hbx⟩
      have hb3 : Below w2.heap.size w2 w3 := hbx
      have B3 : Aside (Below w.heap.size w w3) := B2.out.trans (hb3.mono B2.out.size)
      have P3 : Aside (Pow w3) := P2.out.keep hb3
      have D3 : Aside (DimsIn w3 a0 ds) := D2.out.keep hb3
      have R3 : Aside (RowsIn w3 a1 rs) := R2.out.keep hb3
      have I3 : Aside (Ints w3 a2 f) := I2.out.keep hb3
      have J3 : Aside (Ints w3 a3 t) := J2.out.keep hb3
      have T3 : Aside (TabOut w3 v1 (rollT ds rs f t)) := T2.out.keep hb3
      clear hb3 B2 P2 D2 R2 I2 J2 T2
      have C1 := same_tabs T3.out hT2
      clear hT2 hbx
      go_wp2_with fail
      refine (C1).mono ?_
      rintro e w4 ⟨rfl, hbx⟩
      have hb4 : Below w3.heap.size w3 w4 := hbx
      have B4 : Aside (Below w.heap.size w w4) := B3.out.trans (hb4.mono B3.out.size)
      have P4 : Aside (Pow w4) := P3.out.keep hb4
      have D4 : Aside (DimsIn w4 a0 ds) := D3.out.keep hb4
      have R4 : Aside (RowsIn w4 a1 rs) := R3.out.keep hb4
      have I4 : Aside (Ints w4 a2 f) := I3.out.keep hb4
      have J4 : Aside (Ints w4 a3 t) := J3.out.keep hb4
      have T4 : Aside (TabOut w4 v1 (rollT ds rs f t)) := T3.out.keep hb4
      clear hb4 B3 P3 D3 R3 I3 J3 T3
      clear C1 hbx
      have HR2 := HR.out
      clear HR
      generalize rollE ds rs f t = E at HR2 ⊢
      rcases HR2 with rfl | rfl | rfl | rfl
      all_goals
        go_wp2
        go_ret
        exact ⟨rfl, B4.out⟩
end Go.Proofs.YtfchpcmiipnbjaaDoor.table
