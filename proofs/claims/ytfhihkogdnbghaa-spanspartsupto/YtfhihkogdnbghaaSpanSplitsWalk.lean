/-
  The walk of SpansSplits: Split of any map, of any range, is what the chapter says.
-/
import Derived.Test.YtfhihkogdnbghaaSpanKnown
import Derived.Test.YtfhihkogdnbghaaSpanOf
import Derived.Test.YtfhihkogdnbghaaSpanSame
namespace Go.Proofs.Ytfhihkogdnbghaa.spans
open Go.ChangeShapes Go.WideShapes Go.ChangeAt Go.RowKit Go.Deep
open Go.Proofs.Ytfhihkogdnbghaa.bytes (ret_bool hid nth addr_add cell_lt own_below own_mono)
set_option linter.unusedVariables false
set_option maxRecDepth 100000
set_option linter.unusedSimpArgs false

theorem err_of (ep : Int) (l : List Sp) (s n frm till node : Int) : (splitE ep l s n frm till node).2.2 = 0 ∨ (splitE ep l s n frm till node).2.2 = 3 ∨ (splitE ep l s n frm till node).2.2 = 120 := by
  rcases splitE_cases ep l s n frm till node with ⟨e, _⟩ | ⟨_, e, _⟩ | ⟨_, e, _⟩ <;> rw [e] <;> simp
theorem err_u32 {ep : Int} (h : U32 ep) (l : List Sp) (s n frm till node : Int) : U32 (splitE ep l s n frm till node).1 := by
  rcases splitE_cases ep l s n frm till node with ⟨e, _⟩ | ⟨_, e, _⟩ | ⟨_, e, _⟩ <;> rw [e] <;> unfold U32 <;> simp <;> omega
/-- a box of a map, and its spans -/
structure MB (W : World) (b : Nat) (ep : Int) (a : Option Addr) (n c : Nat) (l : List Sp) : Prop where
  box : Bx W b (mapC ep a n c) 29
  sp : Sps W a n c l
theorem MB.keep {W W' : World} {b : Nat} {ep : Int} {a : Option Addr} {n c : Nat} {l : List Sp} (h : MB W b ep a n c l) (hb : Below W.heap.size W W') : MB W' b ep a n c l := ⟨h.box.below hb, h.sp.keep hb⟩
theorem MB.new {w : World} {ep : Int} {a : Option Addr} {n c : Nat} {l : List Sp} (h : Sps w a n c l) : MB (w.alloc (.cells (mapC ep a n c) 29)) w.heap.size ep a n c l := ⟨Bx.new _ _ _, h.keep ((Below.refl _ _).alloc (Nat.le_refl _) _)⟩
theorem MB.c0 {W : World} {b : Nat} {ep : Int} {a : Option Addr} {n c : Nat} {l : List Sp} (h : MB W b ep a n c l) : W.cell? ⟨b, 0, none⟩ = some (.int .u32 ep) := h.box.cell (j := 0) rfl
theorem MB.c1 {W : World} {b : Nat} {ep : Int} {a : Option Addr} {n c : Nat} {l : List Sp} (h : MB W b ep a n c l) : W.cell? ⟨b, 1, none⟩ = some (.slice a n c) := h.box.cell (j := 1) rfl

set_option maxRecDepth 100000 in
set_option maxHeartbeats 4000000 in
theorem splitsLaw_walk (ep : Int) (a : Option Addr) (n c : Nat) (l : List Sp) (ca : Option Addr) (cn cc : Nat) (cs : List Ct) (size nodes frm till node : Int) (w : World) (h : Sps w a n c l) (hep : U32 ep) (hnM : n ≤ maxLen) (hC : CutsIn w ca cs) (hcn : cs.length = cn) (hcn9 : cn ≤ 9223372036854775807) :
    Calls Try.prog 7 #[mapV ep a n c, .slice ca cn cc, .int .i64 size, .int .i64 nodes, .int .i64 frm, .int .i64 till, .int .i64 node] w fun e w' => e = .returned (.bool true) ∧ Below w.heap.size w w' := by
  obtain ⟨W0, hW0⟩ : ∃ W0, w.alloc (.cells (mapC ep a n c) 29) = W0 := ⟨_, rfl⟩
  have hb0 : Below w.heap.size w W0 := by rw [← hW0]; exact (Below.refl _ w).alloc (Nat.le_refl _) _
  have M0 : MB W0 w.heap.size ep a n c l := by rw [← hW0]; exact MB.new h
  have p0 := M0.c0
  have p1 := M0.c1
  have H0 := asd (And.intro M0 hb0)
  have HW : Hid (w.alloc (.cells #[.int .u32 ep, .slice a n c] 29) = W0) := hW0
  have hK := fun W => known_any W
  have HC := asd (show ∀ W, Below w.heap.size w W → Calls Try.prog 11 #[.int .i64 100, .int .i64 3, .slice ca cn cc] W (OfOut W (ofM 100 3 (cs.take 30))) from fun W hb => of_any ca cn cc cs 100 3 W (hC.keep hb) hcn hcn9 (by omega) (by omega))
  have HOk := asd (ofM_ok (s := 100) (n := 3) (by omega) (by omega) (cs.take 30))
  generalize ofM 100 3 (cs.take 30) = M at HC HOk
  have HU := asd (And.intro hep hnM)
  clear h hb0 M0 hW0 hC hcn hep hnM
  unfold mapV
  by_cases hn : 60 < n
  · have hnz : (60 : Int) < (n : Int) := by omega
    go_enter Try.func7, Try.ntmps7
    go_wp2_with fail
    rw [HW.out]
    go_wp2_with (go_at_call 13; refine (hK _).mono ?_; rintro e w1 ⟨rfl, hb1⟩)
    go_ret
    exact ⟨rfl, H0.out.2.trans (hb1.mono H0.out.2.size)⟩
  have hnz : ¬ (60 : Int) < (n : Int) := by omega
  by_cases hs3 : 300 < size
  · go_enter Try.func7, Try.ntmps7
    go_wp2_with fail
    rw [HW.out]
    go_wp2_with (go_at_call 13; refine (hK _).mono ?_; rintro e w1 ⟨rfl, hb1⟩)
    go_ret
    exact ⟨rfl, H0.out.2.trans (hb1.mono H0.out.2.size)⟩
  have hx1 := err_of ep l size nodes frm till node
  obtain ⟨⟨e1, L1, x1⟩, hE1⟩ : ∃ E, splitE ep l size nodes frm till node = E := ⟨_, rfl⟩
  rw [hE1] at hx1
  have w1 : IntKind.i64.wrap x1 = x1 := by rw [IntKind.wrap_i64]; dsimp only at hx1; omega
  obtain ⟨f1, hf1⟩ : ∃ f1, frm.tmod 120 = f1 := ⟨_, rfl⟩
  obtain ⟨t1, ht1⟩ : ∃ t1, till.tmod 120 = t1 := ⟨_, rfl⟩
  obtain ⟨d1, hd1⟩ : ∃ d1, node.tmod 4 = d1 := ⟨_, rfl⟩
  have bf := Int.tmod_lt_of_pos frm (show (0 : Int) < 120 by omega)
  have bf2 := Int.lt_tmod_of_pos frm (show (0 : Int) < 120 by omega)
  have bt := Int.tmod_lt_of_pos till (show (0 : Int) < 120 by omega)
  have bt2 := Int.lt_tmod_of_pos till (show (0 : Int) < 120 by omega)
  have bd := Int.tmod_lt_of_pos node (show (0 : Int) < 4 by omega)
  have bd2 := Int.lt_tmod_of_pos node (show (0 : Int) < 4 by omega)
  rw [hf1] at bf bf2
  rw [ht1] at bt bt2
  rw [hd1] at bd bd2
  obtain ⟨mp, mL⟩ := M
  have hx2 := err_of mp mL 100 3 f1 t1 d1
  obtain ⟨⟨e2, L2, x2⟩, hE2⟩ : ∃ E, splitE mp mL 100 3 f1 t1 d1 = E := ⟨_, rfl⟩
  rw [hE2] at hx2
  have w2 : IntKind.i64.wrap x2 = x2 := by rw [IntKind.wrap_i64]; dsimp only at hx2; omega
  have CS1 := asd (show ∀ W b, MB W b ep a n c l → Calls Try.prog 14 #[.agg #[.int .u32 ep, .slice a n c], .int .i64 size, .int .i64 nodes, .int .i64 frm, .int .i64 till, .int .i64 node] W (SpOut .u16 (e1, L1, x1) W) from fun W b hm => by have := split_any ep a n c l size nodes frm till node W hm.sp HU.out.1 HU.out.2; rwa [hE1] at this)
  have CR1 := asd (show ∀ W b, MB W b ep a n c l → Calls Try.prog 27 #[.agg #[.int .u32 ep, .slice a n c], .int .i64 size, .int .i64 nodes, .int .i64 frm, .int .i64 till, .int .i64 node] W (SpOut .i64 (e1, L1, x1) W) from fun W b hm => by have := refSplit_any ep a n c l size nodes frm till node W hm.sp HU.out.1; rwa [hE1] at this)
  have CS2 := asd (show ∀ W b am nm cm, MB W b mp am nm cm mL → nm ≤ 40 → Calls Try.prog 14 #[.agg #[.int .u32 mp, .slice am nm cm], .int .i64 100, .int .i64 3, .int .i64 f1, .int .i64 t1, .int .i64 d1] W (SpOut .u16 (e2, L2, x2) W) from fun W b am nm cm hm h40 => by have := split_any mp am nm cm mL 100 3 f1 t1 d1 W hm.sp HOk.out.ep (by unfold maxLen; omega); rwa [hE2] at this)
  have CR2 := asd (show ∀ W b am nm cm, MB W b mp am nm cm mL → Calls Try.prog 27 #[.agg #[.int .u32 mp, .slice am nm cm], .int .i64 100, .int .i64 3, .int .i64 f1, .int .i64 t1, .int .i64 d1] W (SpOut .i64 (e2, L2, x2) W) from fun W b am nm cm hm => by have := refSplit_any mp am nm cm mL 100 3 f1 t1 d1 W hm.sp HOk.out.ep; rwa [hE2] at this)
  have CM := asd (show ∀ W b b2 (e1 : Int) (a1 a2 : Option Addr) (n1 n2 c1 c2 : Nat) (L : List Sp), MB W b e1 a1 n1 c1 L → MB W b2 e1 a2 n2 c2 L → Calls Try.prog 21 #[.agg #[.int .u32 e1, .slice a1 n1 c1], .agg #[.int .u32 e1, .slice a2 n2 c2]] W fun e w' => e = .returned (.bool true) ∧ Below W.heap.size W w' from fun W b b2 e1 a1 a2 n1 n2 c1 c2 L h1 h2 => (sameMap_any W e1 e1 a1 a2 L L n1 n2 c1 c2 h1.sp.mem h1.sp.len h2.sp.mem h2.sp.len (Nat.le_trans h1.sp.cap h1.sp.big) (Nat.le_trans h2.sp.cap h2.sp.big)).mono fun e w' ⟨g1, g2⟩ => ⟨by rw [g1]; simp, g2⟩)
  clear hE1 hE2 hx1 hx2 hn HOk HU
  go_enter Try.func7, Try.ntmps7
  go_wp2_with fail
  rw [HW.out]
  go_upto_region 3 with (go_at_call 13; refine (hK _).mono ?_; rintro e v0 ⟨rfl, hb1⟩)
  have S0 := asd (And.intro (H0.out.1.keep hb1) (H0.out.2.trans (hb1.mono H0.out.2.size)))
  clear hb1 H0 hK p0 p1 HW
  have pS00 := S0.out.1.c0
  have pS01 := S0.out.1.c1
  go_upto_region 4 with (go_at_call 14; (with_reducible refine Calls.mono (CS1.out _ _ S0.out.1) ?_); rintro e v1 ⟨a1, n1, c1, rfl, hs1, -, hb1⟩; unfold mapV)
  obtain ⟨V1, hV1⟩ : ∃ V1, v1.alloc (.cells (mapC e1 a1 n1 c1) 29) = V1 := ⟨_, rfl⟩
  have ka1 : Below v1.heap.size v1 V1 := by rw [← hV1]; exact (Below.refl _ _).alloc (Nat.le_refl _) _
  have m1 : MB V1 v1.heap.size e1 a1 n1 c1 L1 := by rw [← hV1]; exact MB.new hs1
  have kb1 := hb1.trans (ka1.mono hb1.size)
  have S0n := asd (And.intro (S0.out.1.keep kb1) (S0.out.2.trans (kb1.mono S0.out.2.size)))
  have S1 := asd (And.intro m1 (S0n.out.2))
  have HV1 : Hid (v1.alloc (.cells #[.int .u32 e1, .slice a1 n1 c1] 29) = V1) := hV1
  rw [HV1.out]
  obtain ⟨b1, hbb1⟩ : ∃ b1, v1.heap.size = b1 := ⟨_, rfl⟩
  rw [hbb1] at S1
  try rw [hbb1]
  clear hs1 hb1 ka1 m1 kb1 hV1 HV1 hbb1 pS00 pS01
  clear S0
  have S0 := S0n
  clear S0n
  have pS00 := S0.out.1.c0
  have pS01 := S0.out.1.c1
  go_upto_region 5 with (go_at_call 27; (with_reducible refine Calls.mono (CR1.out _ _ S0.out.1) ?_); rintro e v2 ⟨a2, n2, c2, rfl, hs2, -, hb2⟩; unfold mapV)
  obtain ⟨V2, hV2⟩ : ∃ V2, v2.alloc (.cells (mapC e1 a2 n2 c2) 29) = V2 := ⟨_, rfl⟩
  have ka2 : Below v2.heap.size v2 V2 := by rw [← hV2]; exact (Below.refl _ _).alloc (Nat.le_refl _) _
  have m2 : MB V2 v2.heap.size e1 a2 n2 c2 L1 := by rw [← hV2]; exact MB.new hs2
  have kb2 := hb2.trans (ka2.mono hb2.size)
  have S0n := asd (And.intro (S0.out.1.keep kb2) (S0.out.2.trans (kb2.mono S0.out.2.size)))
  have S1n := asd (And.intro (S1.out.1.keep kb2) (S1.out.2.trans (kb2.mono S1.out.2.size)))
  have S2 := asd (And.intro m2 (S0n.out.2))
  have HV2 : Hid (v2.alloc (.cells #[.int .u32 e1, .slice a2 n2 c2] 29) = V2) := hV2
  rw [HV2.out]
  obtain ⟨b2, hbb2⟩ : ∃ b2, v2.heap.size = b2 := ⟨_, rfl⟩
  rw [hbb2] at S2
  try rw [hbb2]
  clear hs2 hb2 ka2 m2 kb2 hV2 HV2 hbb2 pS00 pS01
  clear S0
  have S0 := S0n
  clear S0n
  clear S1
  have S1 := S1n
  clear S1n
  go_upto_region 6 with (go_at_call 11; (with_reducible refine Calls.mono (HC.out _ S0.out.2) ?_); rintro e v3 ⟨a3, n3, c3, rfl, hs3, h40, hb3⟩; unfold mapV)
  obtain ⟨V3, hV3⟩ : ∃ V3, v3.alloc (.cells (mapC mp a3 n3 c3) 29) = V3 := ⟨_, rfl⟩
  have ka3 : Below v3.heap.size v3 V3 := by rw [← hV3]; exact (Below.refl _ _).alloc (Nat.le_refl _) _
  have m3 : MB V3 v3.heap.size mp a3 n3 c3 mL := by rw [← hV3]; exact MB.new hs3
  have kb3 := hb3.trans (ka3.mono hb3.size)
  have S0n := asd (And.intro (S0.out.1.keep kb3) (S0.out.2.trans (kb3.mono S0.out.2.size)))
  have S1n := asd (And.intro (S1.out.1.keep kb3) (S1.out.2.trans (kb3.mono S1.out.2.size)))
  have S2n := asd (And.intro (S2.out.1.keep kb3) (S2.out.2.trans (kb3.mono S2.out.2.size)))
  have S3 := asd (And.intro m3 (S0n.out.2))
  have HV3 : Hid (v3.alloc (.cells #[.int .u32 mp, .slice a3 n3 c3] 29) = V3) := hV3
  rw [HV3.out]
  obtain ⟨b3, hbb3⟩ : ∃ b3, v3.heap.size = b3 := ⟨_, rfl⟩
  rw [hbb3] at S3
  try rw [hbb3]
  clear hs3 hb3 ka3 m3 kb3 hV3 HV3 hbb3
  clear S0
  have S0 := S0n
  clear S0n
  clear S1
  have S1 := S1n
  clear S1n
  clear S2
  have S2 := S2n
  clear S2n
  have pS30 := S3.out.1.c0
  have pS31 := S3.out.1.c1
  go_upto_region 7 with (go_at_call 14; (with_reducible refine Calls.mono (CS2.out _ _ _ _ _ S3.out.1 h40) ?_); rintro e v4 ⟨a4, n4, c4, rfl, hs4, -, hb4⟩; unfold mapV)
  obtain ⟨V4, hV4⟩ : ∃ V4, v4.alloc (.cells (mapC e2 a4 n4 c4) 29) = V4 := ⟨_, rfl⟩
  have ka4 : Below v4.heap.size v4 V4 := by rw [← hV4]; exact (Below.refl _ _).alloc (Nat.le_refl _) _
  have m4 : MB V4 v4.heap.size e2 a4 n4 c4 L2 := by rw [← hV4]; exact MB.new hs4
  have kb4 := hb4.trans (ka4.mono hb4.size)
  have S0n := asd (And.intro (S0.out.1.keep kb4) (S0.out.2.trans (kb4.mono S0.out.2.size)))
  have S1n := asd (And.intro (S1.out.1.keep kb4) (S1.out.2.trans (kb4.mono S1.out.2.size)))
  have S2n := asd (And.intro (S2.out.1.keep kb4) (S2.out.2.trans (kb4.mono S2.out.2.size)))
  have S3n := asd (And.intro (S3.out.1.keep kb4) (S3.out.2.trans (kb4.mono S3.out.2.size)))
  have S4 := asd (And.intro m4 (S0n.out.2))
  have HV4 : Hid (v4.alloc (.cells #[.int .u32 e2, .slice a4 n4 c4] 29) = V4) := hV4
  rw [HV4.out]
  obtain ⟨b4, hbb4⟩ : ∃ b4, v4.heap.size = b4 := ⟨_, rfl⟩
  rw [hbb4] at S4
  try rw [hbb4]
  clear hs4 hb4 ka4 m4 kb4 hV4 HV4 hbb4 pS30 pS31
  clear S0
  have S0 := S0n
  clear S0n
  clear S1
  have S1 := S1n
  clear S1n
  clear S2
  have S2 := S2n
  clear S2n
  clear S3
  have S3 := S3n
  clear S3n
  have pS30 := S3.out.1.c0
  have pS31 := S3.out.1.c1
  go_upto_region 8 with (go_at_call 27; (with_reducible refine Calls.mono (CR2.out _ _ _ _ _ S3.out.1) ?_); rintro e v5 ⟨a5, n5, c5, rfl, hs5, -, hb5⟩; unfold mapV)
  obtain ⟨V5, hV5⟩ : ∃ V5, v5.alloc (.cells (mapC e2 a5 n5 c5) 29) = V5 := ⟨_, rfl⟩
  have ka5 : Below v5.heap.size v5 V5 := by rw [← hV5]; exact (Below.refl _ _).alloc (Nat.le_refl _) _
  have m5 : MB V5 v5.heap.size e2 a5 n5 c5 L2 := by rw [← hV5]; exact MB.new hs5
  have kb5 := hb5.trans (ka5.mono hb5.size)
  have S0n := asd (And.intro (S0.out.1.keep kb5) (S0.out.2.trans (kb5.mono S0.out.2.size)))
  have S1n := asd (And.intro (S1.out.1.keep kb5) (S1.out.2.trans (kb5.mono S1.out.2.size)))
  have S2n := asd (And.intro (S2.out.1.keep kb5) (S2.out.2.trans (kb5.mono S2.out.2.size)))
  have S3n := asd (And.intro (S3.out.1.keep kb5) (S3.out.2.trans (kb5.mono S3.out.2.size)))
  have S4n := asd (And.intro (S4.out.1.keep kb5) (S4.out.2.trans (kb5.mono S4.out.2.size)))
  have S5 := asd (And.intro m5 (S0n.out.2))
  have HV5 : Hid (v5.alloc (.cells #[.int .u32 e2, .slice a5 n5 c5] 29) = V5) := hV5
  rw [HV5.out]
  obtain ⟨b5, hbb5⟩ : ∃ b5, v5.heap.size = b5 := ⟨_, rfl⟩
  rw [hbb5] at S5
  try rw [hbb5]
  clear hs5 hb5 ka5 m5 kb5 hV5 HV5 hbb5 pS30 pS31
  clear S0
  have S0 := S0n
  clear S0n
  clear S1
  have S1 := S1n
  clear S1n
  clear S2
  have S2 := S2n
  clear S2n
  clear S3
  have S3 := S3n
  clear S3n
  clear S4
  have S4 := S4n
  clear S4n
  have p10 := S1.out.1.c0
  have p11 := S1.out.1.c1
  have p20 := S2.out.1.c0
  have p21 := S2.out.1.c1
  go_wp2_with (go_at_call 21; (with_reducible refine Calls.mono (CM.out _ _ _ _ _ _ _ _ _ _ _ S1.out.1 S2.out.1) ?_); rintro e v6 ⟨rfl, hb6⟩; refine Hid.out ?_)
  refine hid ?_
  have S4n := asd (S4.out.1.keep hb6)
  have S5n := asd (S5.out.1.keep hb6)
  have HB6 := asd (S0.out.2.trans (hb6.mono S0.out.2.size))
  clear S0 S1 S2 S3 S4 S5 p10 p11 p20 p21 hb6
  have p40 := S4n.out.c0
  have p41 := S4n.out.c1
  have p50 := S5n.out.c0
  have p51 := S5n.out.c1
  go_wp2_with (go_at_call 21; (with_reducible refine Calls.mono (CM.out _ _ _ _ _ _ _ _ _ _ _ S4n.out S5n.out) ?_); rintro e v7 ⟨rfl, hb7⟩)
  go_ret
  exact ⟨rfl, HB6.out.trans (hb7.mono HB6.out.size)⟩
end Go.Proofs.Ytfhihkogdnbghaa.spans
