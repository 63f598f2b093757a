/-
  The walk of DimsIn: of whatever choices the call answers true.
-/
import Derived.Test.YtkkgniigcfbakaaDimsInF
import Derived.Test.YtkkgniigcfbakaaDimsSoundWalk
import Derived.Test.YtkkgniigcfbakaaDimsKey
namespace Go.Proofs.Ytkkgniigcfbakaa.dims
open Go.ChangeShapes Go.WideShapes Go.ChangeAt Go.RowKit Go.Deep
set_option linter.unusedVariables false

theorem snd_all {ds : List Dm} (hs : sndL ds = true) : ∀ i, i < ds.length → SoundD (dn ds i).sz (dn ds i).l := fun i hi => by
  have hd : ds.all sndD = true := by unfold sndL at hs; simp only [Bool.and_eq_true] at hs; exact hs.2.2
  exact (sndB_iff _ _).1 (all_at hd hi)
theorem KeyRes.row {w W : World} {L : List Int} {v : Value} (h : KeyRes w L v W) : ∃ a cap, v = .slice a L.length cap ∧ Ints W a L ∧ L.length ≤ cap := (own_out h.1).1
theorem key_mem {ds : List Dm} {ch : List Int} (hs : ∀ i, i < ds.length → 1 ≤ (dn ds i).sz) : inB ds (keyL ds ch) = true := by
  refine inB_true (by rw [keyL_len]) fun i hi => ?_
  unfold memB
  rw [keyL_nth _ _ hi]
  unfold keyV
  have h1 := hs i hi
  have h2 := Int.emod_nonneg (nth ch i) (by omega : (dn ds i).sz ≠ 0)
  have h3 := Int.emod_lt_of_pos (nth ch i) (by omega : 0 < (dn ds i).sz)
  simp [h2, h3]
theorem set_nth {l : List Int} {i : Nat} {v : Int} (h : i < l.length) : nth (l.set i v) i = v := by simp [nth, h]
theorem vals_set (l : List Int) (i : Nat) (v : Int) : (vals l).set i (.int .i64 v) = vals (l.set i v) := by simp [vals, List.map_set]

theorem news_of_ints {W : World} {b off : Nat} {l : List Int} (h : ∀ i, i < l.length → W.cell? ⟨b, off + i, none⟩ = some (.int .i64 (nth l i))) : ∀ j u, (vals l)[j]? = some u → W.cell? ((⟨b, off, none⟩ : Addr).add j) = some u := by
  intro j u hj
  have hl : j < l.length := by
    have := (List.getElem?_eq_some_iff.1 hj).1
    rw [vals_len] at this; exact this
  rw [vals_get hl] at hj
  rw [addr_add, h j hl, ← hj]

theorem ints_drop {W : World} {b off : Nat} {l : List Int} (h : Ints W (some ⟨b, off, none⟩) l) : Ints W (some ⟨b, off + 1, none⟩) (l.drop 1) := by
  rcases h with rfl | ⟨b', off', ha, hc⟩
  · exact .inl rfl
  · simp only [Option.some.injEq, Addr.mk.injEq, and_true] at ha
    obtain ⟨rfl, rfl⟩ := ha
    refine .inr ⟨b, off + 1, rfl, fun i hi => ?_⟩
    have hi2 : i + 1 < l.length := by simp at hi; omega
    have := hc (i + 1) hi2
    rw [show off + 1 + i = off + (i + 1) by omega, this]
    simp [nth]

theorem rowInts {W : World} {a : Option Addr} {n c : Nat} {l : List Int} (h : RowOut W (.slice a n c) l) : Ints W a l := by
  obtain ⟨a', cap, e, hI, _⟩ := h
  simp only [Value.slice.injEq] at e
  rw [e.1]; exact hI

set_option maxHeartbeats 16000000 in
theorem in_walk (am ak : Option Addr) (nm cm nk ck : Nat) (cs : List Dm) (lk : List Int) (av ov : Int) (w : World) (pM : Pairs .u16 .u8 w am cs) (pm : cs.length = nm ∧ nm ≤ cm ∧ cm ≤ maxLen) (pk : Nums .u16 w ak nk ck lk) (wa : (Lit.int .u8 av).wf = true) (wo : (Lit.int .u8 ov).wf = true) :
    Calls Try.prog 3 #[.slice am nm cm, .slice ak nk ck, .int .u8 av, .int .u8 ov] w fun e w' => e = .returned (.bool true) ∧ Below w.heap.size w w' := by
  obtain ⟨i0, hi, hz0, hz1, hz2⟩ := info_parts info_int
  have ha := u8_of_wf wa
  have ho := u8_of_wf wo
  have hm2 : nm ≤ 9223372036854775807 := Nat.le_trans pm.2.1 (Nat.le_trans pm.2.2 maxLen_le)
  have CO := of_any am nm cm cs w pM pm.1 hm2
  have HK : Aside (Nums .u16 w ak nk ck lk) := pk
  clear pM pm pk wa wo
  go_enter Try.func3, Try.ntmps3
  go_wp2_with fail
  refine CO.mono ?_
  rintro e w1 ⟨v1, rfl, hres⟩
  obtain ⟨ds, gx, cx, rfl, hX, -, hs, hx1, hx4, hb1⟩ := hres.out
  have B1 : Aside (Below w.heap.size w w1) := hb1
  have D1 : Aside (DimsIn w1 (some ⟨gx, 0, none⟩) ds) := hX
  have HS : Aside (∀ i, i < ds.length → SoundD (dn ds i).sz (dn ds i).l) := snd_all hs
  clear hb1 hres hX hs CO
  obtain ⟨n, hn⟩ : ∃ q, ds.length = q := ⟨_, rfl⟩
  have HN : Aside (ds.length = n) := hn
  rw [hn] at hx1 hx4 ⊢
  clear hn
  go_wp2_with fail
  refine (key_any _ ak n cx nk ck ds lk w1 D1.out HN.out hx4 (HK.out.keep B1.out) (fun i hi => (HS.out i (by rw [HN.out]; exact hi)).1)).mono ?_
  rintro e w2 ⟨v2, rfl, hr2⟩
  obtain ⟨k1, k2, rfl, hI2, hc2⟩ := hr2.row
  have B2 : Aside (Below w.heap.size w w2) := B1.out.trans (hr2.2.mono B1.out.size)
  have D2 : Aside (DimsIn w2 (some ⟨gx, 0, none⟩) ds) := D1.out.keep hr2.2
  have EK : Aside ((keyL ds lk).length = n ∧ inB ds (keyL ds lk) = true) := ⟨by rw [keyL_len, HN.out], key_mem fun i hi => (HS.out i hi).1⟩
  have hlk := EK.out.1
  rw [hlk] at hc2 ⊢
  obtain ⟨bk, ok, hak, hck⟩ := hI2.get (k := 0) (by omega)
  subst hak
  have HCK : Aside (∀ i, i < (keyL ds lk).length → w2.cell? ⟨bk, ok + i, none⟩ = some (.int .i64 (nth (keyL ds lk) i))) := hck
  clear hI2 hr2 B1 D1 hck hlk
  generalize keyL ds lk = key at EK HCK
  have hn0 : ¬ (n : Int) = 0 := by omega
  obtain ⟨i, hii⟩ : ∃ i : Nat, av % (n : Int) = (i : Int) := ⟨(av % (n : Int)).toNat, by have := Int.emod_nonneg av (by omega : (n : Int) ≠ 0); omega⟩
  have hin : i < n := by have := Int.emod_lt_of_pos av (by omega : 0 < (n : Int)); omega
  have hinz : (i : Int) < (n : Int) := by omega
  have hnews := news_of_ints HCK.out
  have hvl : (vals key).length = n * 1 := by rw [vals_len, EK.out.1]; omega
  go_wp2_with (first | (at_builtin; refine wpList_append_lies _ rfl (.tmp 24) (.tmp 25) 26 rfl w2.heap.size 3 i0 _ 1 8 Try.underlying26 hi hz0 hz1 hz2 rfl (by decide) _ 0 [] rfl (World.ownsRow_nil _ _ _ _) ⟨bk, ok, none⟩ n k2 (vals key) rfl hvl hnews (vals_one _) (by omega) (by unfold maxLen; omega) (by omega) (Nat.le_refl _) _ rfl ?_) | go_in)
  intro g c3 w3 hown3 hgrow hat hglt
  have b23 : Below w2.heap.size w2 w3 := (Below.refl _ _).grown hgrow (Nat.le_refl _) fun q hq => by cases hq
  have hg2 : w2.heap.size ≤ g := (hown3.lt g rfl).1
  have cm := World.ownsRow.cellAt hown3 i (by omega)
  have fm := World.ownsRow.frozenAt hown3 i
  rw [vals_get (by rw [EK.out.1]; exact hin)] at cm
  obtain ⟨b, off, hab, hcb⟩ := (D2.out.keep b23).get (k := i) (by rw [HN.out]; exact hin)
  simp only [Option.some.injEq, Addr.mk.injEq, and_true] at hab
  obtain ⟨e1, e2⟩ := hab
  subst e1
  subst e2
  obtain ⟨r0, -, -, -⟩ := hcb i (by rw [HN.out]; exact hin)
  rw [Nat.zero_add] at r0
  have hsI := HS.out i (by rw [HN.out]; exact hin)
  have hs1 := hsI.1
  have hs2 := hsI.2.1
  obtain ⟨s, hs⟩ : ∃ s, (dn ds i).sz = s := ⟨_, rfl⟩
  rw [hs] at r0 hs1 hs2
  have hst := (World.ownsRow.stored hown3 i (.int .i64 (s + ov))).1
  rw [vals_set] at hst
  have EX : Aside (inB ds (key.set i (s + ov)) = false ∧ (key.set i (s + ov)).length = n) := by
    refine ⟨inB_at (by rw [HN.out]; exact hin) ?_, by simp [EK.out.1]⟩
    unfold memB
    rw [set_nth (by rw [EK.out.1]; exact hin), hs]
    simp; omega
  have EY : Aside (inB ds (key ++ [0]) = false ∧ (key ++ [0]).length = n + 1) := ⟨inB_len (by simp [EK.out.1, HN.out]), by simp [EK.out.1]⟩
  have ED : Aside (inB ds (key.drop 1) = false ∧ (key.drop 1).length = n - 1) := ⟨inB_len (by simp [EK.out.1, HN.out]; omega), by simp [EK.out.1]⟩
  have HO3 : Aside _ := hst
  have b24 : Below w2.heap.size w2 (w3.setCell ⟨g, i, none⟩ (.int .i64 (s + ov))) := b23.setCell hg2 _
  have B24 : Aside _ := b24
  clear hown3 hgrow hat hglt hcb hs hst b23 b24 hnews hsI
  generalize nth key i = m0 at cm
  go_upto_region 7 with fail
  generalize w3.setCell ⟨g, i, none⟩ (.int .i64 (s + ov)) = w4 at HO3 B24 ⊢
  have D4 : Aside (DimsIn w4 (some ⟨gx, 0, none⟩) ds) := D2.out.keep B24.out
  have B4 : Aside (Below w.heap.size w w4) := B2.out.trans (B24.out.mono B2.out.size)
  have K4 : Aside (∀ i, i < key.length → w4.cell? ⟨bk, ok + i, none⟩ = some (.int .i64 (nth key i))) := fun i hi => (B24.out.cell (p := ⟨bk, ok + i, none⟩) (cell_lt (HCK.out i hi))).trans (HCK.out i hi)
  have X4 : Aside (RowOut w4 (.slice (some ⟨g, 0, none⟩) n c3) (key.set i (s + ov))) := (own_out HO3.out).1
  clear D2 B2 B24 HCK HO3 r0 cm fm
  have hnews := news_of_ints K4.out
  go_wp2_with (first | (at_builtin; refine wpList_append_lies _ rfl (.tmp 38) (.tmp 39) 26 rfl w4.heap.size 3 i0 _ 1 8 Try.underlying26 hi hz0 hz1 hz2 rfl (by decide) _ 0 [] rfl (World.ownsRow_nil _ _ _ _) ⟨bk, ok, none⟩ n k2 (vals key) rfl hvl hnews (vals_one _) (by omega) (by unfold maxLen; omega) (by omega) (Nat.le_refl _) _ rfl ?_) | go_in)
  intro g5 c5 w5 hown5 hgrow hat hglt
  have b45 : Below w4.heap.size w4 w5 := (Below.refl _ _).grown hgrow (Nat.le_refl _) fun q hq => by cases hq
  have B45 : Aside _ := b45
  have hown6 : w5.ownsRow w4.heap.size 3 1 (.slice (some ⟨g5, 0, none⟩) n c5) n (vals key) := by simpa using hown5
  have hz45 := b45.size
  clear hown5 hgrow hat hglt b45 hnews
  go_wp2_with (first | (at_builtin; refine wpList_append_lies _ rfl (.tmp 41) (.tmp 42) 26 rfl w4.heap.size 3 i0 _ 1 8 Try.underlying26 hi hz0 hz1 hz2 rfl (by decide) _ n (vals key) rfl (hown6.alloc _) ⟨w5.heap.size, 0, none⟩ 1 1 [.int .i64 0] rfl rfl (cell_one_new _ _ _) (by intro u hu; simp at hu; subst hu; rfl) (by decide) (by unfold maxLen; omega) (by omega) (by simp; omega) _ rfl ?_) | go_in)
  intro g6 c6 w6 hown7 hgrow hat hglt
  have b46 : Below w4.heap.size w4 w6 := (B45.out.alloc hz45 _).grown hgrow (by simp; omega) fun q hq => (hown6.lt q hq).1
  have Y6 : Aside (RowOut w6 (.slice (some ⟨g6, 0, none⟩) (n + 1) c6) (key ++ [0])) := by
    have h : w6.ownsRow w4.heap.size 3 1 (.slice (some ⟨g6, 0, none⟩) (n + 1) c6) (n + 1) (vals (key ++ [0])) := by rw [vals_app]; exact hown7
    exact (own_out h).1
  have D6 : Aside (DimsIn w6 (some ⟨gx, 0, none⟩) ds) := D4.out.keep b46
  have B6 : Aside (Below w.heap.size w w6) := B4.out.trans (b46.mono B4.out.size)
  have K6 : Aside (Ints w6 (some ⟨bk, ok, none⟩) key) := Ints.keep (.inr ⟨bk, ok, rfl, K4.out⟩) b46
  have X6 : Aside (RowOut w6 (.slice (some ⟨g, 0, none⟩) n c3) (key.set i (s + ov))) := X4.out.keep b46
  clear hown7 hgrow hat hglt b46 hown6 B45 D4 B4 K4 X4 hvl
  go_wp2_with fail
  refine (known_any _).mono ?_
  rintro e w7 ⟨rfl, hb7⟩
  have D7 : Aside (DimsIn w7 (some ⟨gx, 0, none⟩) ds) := D6.out.keep hb7
  have B7 : Aside (Below w.heap.size w w7) := B6.out.trans (hb7.mono B6.out.size)
  have K7 : Aside (Ints w7 (some ⟨bk, ok, none⟩) key) := K6.out.keep hb7
  have X7 : Aside (RowOut w7 (.slice (some ⟨g, 0, none⟩) n c3) (key.set i (s + ov))) := X6.out.keep hb7
  have Y7 : Aside (RowOut w7 (.slice (some ⟨g6, 0, none⟩) (n + 1) c6) (key ++ [0])) := Y6.out.keep hb7
  clear D6 B6 K6 X6 Y6 hb7
  go_wp2_with fail
  refine (in_val _ _ n cx n k2 ds key true w7 D7.out HN.out K7.out EK.out.1 (by omega) EK.out.2).mono ?_
  rintro e w8 ⟨rfl, hb8⟩
  have D8 : Aside (DimsIn w8 (some ⟨gx, 0, none⟩) ds) := D7.out.keep hb8
  have B8 : Aside (Below w.heap.size w w8) := B7.out.trans (hb8.mono B7.out.size)
  have K8 : Aside (Ints w8 (some ⟨bk, ok, none⟩) key) := K7.out.keep hb8
  have X8 : Aside (RowOut w8 (.slice (some ⟨g, 0, none⟩) n c3) (key.set i (s + ov))) := X7.out.keep hb8
  have Y8 : Aside (RowOut w8 (.slice (some ⟨g6, 0, none⟩) (n + 1) c6) (key ++ [0])) := Y7.out.keep hb8
  clear D7 B7 K7 X7 Y7 hb8
  go_wp2_with fail
  refine (in_val _ _ n cx n c3 ds (key.set i (s + ov)) false w8 D8.out HN.out (rowInts X8.out) EX.out.2 (by omega) EX.out.1).mono ?_
  rintro e w9 ⟨rfl, hb9⟩
  have D9 : Aside (DimsIn w9 (some ⟨gx, 0, none⟩) ds) := D8.out.keep hb9
  have B9 : Aside (Below w.heap.size w w9) := B8.out.trans (hb9.mono B8.out.size)
  have K9 : Aside (Ints w9 (some ⟨bk, ok, none⟩) key) := K8.out.keep hb9
  have X9 : Aside (RowOut w9 (.slice (some ⟨g, 0, none⟩) n c3) (key.set i (s + ov))) := X8.out.keep hb9
  have Y9 : Aside (RowOut w9 (.slice (some ⟨g6, 0, none⟩) (n + 1) c6) (key ++ [0])) := Y8.out.keep hb9
  clear D8 B8 K8 X8 Y8 hb9
  go_wp2_with fail
  refine (in_val _ _ n cx (n + 1) c6 ds (key ++ [0]) false w9 D9.out HN.out (rowInts Y9.out) EY.out.2 (by omega) EY.out.1).mono ?_
  rintro e w10 ⟨rfl, hb10⟩
  have D10 : Aside (DimsIn w10 (some ⟨gx, 0, none⟩) ds) := D9.out.keep hb10
  have B10 : Aside (Below w.heap.size w w10) := B9.out.trans (hb10.mono B9.out.size)
  have K10 : Aside (Ints w10 (some ⟨bk, ok, none⟩) key) := K9.out.keep hb10
  have X10 : Aside (RowOut w10 (.slice (some ⟨g, 0, none⟩) n c3) (key.set i (s + ov))) := X9.out.keep hb10
  have Y10 : Aside (RowOut w10 (.slice (some ⟨g6, 0, none⟩) (n + 1) c6) (key ++ [0])) := Y9.out.keep hb10
  clear D9 B9 K9 X9 Y9 hb10
  have hc2z : (n : Int) ≤ (k2 : Int) := by omega
  have h1z : (1 : Int) ≤ (n : Int) := by omega
  have h1k : (1 : Int) ≤ (k2 : Int) := by omega
  by_cases hk2 : k2 = 1
  · subst hk2
    go_wp2_with fail
    refine (in_val _ _ n cx 0 0 ds [] false w10 D10.out HN.out (.inl rfl) rfl (by omega) (inB_len (by rw [HN.out]; simp; omega))).mono ?_
    rintro e w11 ⟨rfl, hb11⟩
    have B11 : Aside (Below w.heap.size w w11) := B10.out.trans (hb11.mono B10.out.size)
    clear hb11
    go_wp2
    go_ret
    exact ⟨rfl, B11.out⟩
  · go_wp2_with fail
    refine (in_val _ _ n cx (n - 1) (k2 - 1) ds (key.drop 1) false w10 D10.out HN.out (ints_drop K10.out) ED.out.2 (by omega) ED.out.1).mono ?_
    rintro e w11 ⟨rfl, hb11⟩
    have B11 : Aside (Below w.heap.size w w11) := B10.out.trans (hb11.mono B10.out.size)
    clear hb11
    go_wp2
    go_ret
    exact ⟨rfl, B11.out⟩
end Go.Proofs.Ytkkgniigcfbakaa.dims
