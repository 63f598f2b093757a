/-
  The walk of TableOrder: of whatever choices the call answers true.
-/
import Derived.Test.YtfchpcmiipnbjaaDoorTableWork
namespace Go.Proofs.YtfchpcmiipnbjaaDoor.table
open Go.ChangeShapes Go.WideShapes Go.ChangeAt Go.RowKit Go.Deep
open Go.Proofs.YtfchpcmiipnbjaaDoor.dims
open Go.Proofs.YtfchpcmiipnbjaaDoor.dice (Kr kn)
open Go.Proofs.YtfchpcmiipnbjaaDoor.cell (C4 mrg all one zero In64)
set_option linter.unusedVariables false
set_option maxRecDepth 100000

theorem ftn_take {fs : List Ft} {i j : Nat} (h : i < j) : ftn (fs.take j) i = ftn fs i := by simp [ftn, h]
theorem ftn_drop (fs : List Ft) (i j : Nat) : ftn (fs.drop j) i = ftn fs (j + i) := by simp [ftn, List.getElem?_drop]
theorem FactL.take {W : World} {p : Option Addr} {m j : Nat} {F : List PFact} (h : FactL W p m F) (hj : j ≤ m) : FactL W p j (F.take j) := by
  obtain ⟨fs, h1, h2, h3⟩ := h
  refine ⟨fs.take j, ?_, by rw [List.map_take, h2], by rw [List.length_take]; omega⟩
  rcases h1 with h1 | ⟨b, off, ha, hc⟩
  · left; rw [h1]; simp
  · refine .inr ⟨b, off, ha, fun i hi => ?_⟩
    rw [List.length_take] at hi
    rw [ftn_take (by omega)]
    exact hc i (by omega)
theorem FactL.drop {W : World} {p : Option Addr} {m j q : Nat} {F : List PFact} (h : FactL W p m F) (hj : j ≤ m) (hq : m ≤ q) : FactL W (if q = j then p else p.map fun x => x.add (j * 2)) (m - j) (F.drop j) := by
  obtain ⟨fs, h1, h2, h3⟩ := h
  refine ⟨fs.drop j, ?_, by rw [List.map_drop, h2], by rw [List.length_drop]; omega⟩
  by_cases e : j = m
  · left; exact List.drop_of_length_le (by omega)
  · rw [if_neg (by omega)]
    obtain ⟨b, off, ha, hc⟩ := h1.get (k := j) (by omega)
    refine .inr ⟨b, off + j * 2, by rw [ha]; simp [addr_add], fun i hi => ?_⟩
    rw [List.length_drop] at hi
    have := hc (j + i) (by omega)
    rw [ftn_drop, show off + j * 2 + i * 2 = off + (j + i) * 2 by omega]
    exact this
theorem MT.perm {n : Nat} {t : List PRow} {F F' : List PFact} (h : MT n t F) (p : F.Perm F') : MT n t F' := ⟨h.m.perm h.f p, h.f.perm p, fun f hf => h.k f (p.mem_iff.2 hf)⟩
theorem Fine.sub {F F' : List PFact} (h : Fine F) (hs : ∀ f ∈ F', f ∈ F) (hl : F'.length ≤ F.length) : Fine F' := ⟨fun f hf => h.1 f (hs f hf), by have := h.2; omega⟩
theorem rev_drop {fs : List Ft} {i : Nat} (h : i < fs.length) : (fs.drop i).reverse = (fs.drop (i + 1)).reverse ++ [ftn fs i] := by
  rw [List.drop_eq_getElem_cons h, List.reverse_cons, ftn_eq h]
theorem count_take {rs : List Rw} {k : Nat} (h : k < rs.length) : count ((rs.take (k + 1)).map plain) = count ((rs.take k).map plain) + (rwn rs k).c.n := by
  rw [List.take_succ_eq_append_getElem h, List.map_append, rwn_eq h]
  simp [count, plain]
theorem okAt_parts {rs : List Rw} {p : Int} {k : Nat} (h : okAt rs p k = true) : cell.sound (rwn rs k).c = true ∧ (k = 0 ∨ cmpL (rwn rs (k - 1)).k (rwn rs k).k < 0) := by
  unfold okAt sndR at h
  simp only [Bool.and_eq_true, Bool.or_eq_true, decide_eq_true_eq] at h
  exact ⟨h.1.2.2.2, h.2⟩

set_option maxHeartbeats 16000000 in
theorem order_walk (a0 a1 a2 : Option Addr) (n0 c0 n1 c1 n2 c2 : Nat) (cs : List Dm) (ks : List Kr) (vs : List Int) (z : Int) (w : World) (hp : Pow w) (pM : Pairs .u16 .u8 w a0 cs) (pm : cs.length = n0 ∧ n0 ≤ c0 ∧ c0 ≤ maxLen) (pK : dice.KeysIn .u16 w a1 ks) (pk : ks.length = n1 ∧ n1 ≤ c1 ∧ c1 ≤ maxLen) (pV : Nums .i64 w a2 n2 c2 vs) :
    Calls Tryd.prog 9 #[.slice a0 n0 c0, .slice a1 n1 c1, .slice a2 n2 c2, .int .i64 z] w fun e w' => e = .returned (.bool true) ∧ Below w.heap.size w w' := by
  obtain ⟨i0, hi, hz0, hz1, hz2⟩ := info_parts info_fact
  have hmc : n0 ≤ 9223372036854775807 := Nat.le_trans pm.2.1 (Nat.le_trans pm.2.2 maxLen_le2)
  have HE : Aside (cs.length = n0) := pm.1
  have hkl : Aside (ks.length = n1) := pk.1
  have P0 : Aside (Pow w) := hp
  have M0 : Aside (Pairs .u16 .u8 w a0 cs) := pM
  have K0 : Aside (dice.KeysIn .u16 w a1 ks) := pK
  have V0 : Aside (Nums .i64 w a2 n2 c2 vs) := pV
  clear hp pM pm pK pk pV
  by_cases h200 : (200 : Int) < (n1 : Int)
  · go_enter Tryd.func9, Tryd.ntmps9
    have CK := known_any w P0.out
    go_wp2_with (go_at_call 12; refine CK.mono ?_; rintro e wx ⟨rfl, hbx⟩)
    go_ret
    exact ⟨rfl, hbx⟩
  have hka1 : Hid (ks.length = n1 ∧ n1 ≤ 200) := ⟨hkl.out, by omega⟩
  go_enter Tryd.func9, Tryd.ntmps9
  have CK := known_any w P0.out
  go_wp2_with (go_at_call 12; refine CK.mono ?_; rintro e w1 ⟨rfl, hbx⟩; refine Hid.out ?_)
  refine Lib.hid ?_
  have hb1 : Below w.heap.size w w1 := hbx
  have B1 : Aside (Below w.heap.size w w1) := hb1
  have P1 : Aside (Pow w1) := P0.out.keep hb1
  have M1 : Aside (Pairs .u16 .u8 w1 a0 cs) := M0.out.keep hb1
  have K1 : Aside (dice.KeysIn .u16 w1 a1 ks) := K0.out.keep hb1
  have V1 : Aside (Nums .i64 w1 a2 n2 c2 vs) := V0.out.keep hb1
  clear hb1  P0 M0 K0 V0
  clear CK hbx
  clear h200
  go_wp2_with fail
  refine (of_made a0 n0 c0 cs w1 M1.out HE.out hmc).mono ?_
  rintro e w2 ⟨v1, rfl, hres⟩
  obtain ⟨ds, gx, n, cx, rfl, hX, hDD, hbx⟩ := hres
  have hb2 : Below w1.heap.size w1 w2 := hbx
  have B2 : Aside (Below w.heap.size w w2) := B1.out.trans (hb2.mono B1.out.size)
  have P2 : Aside (Pow w2) := P1.out.keep hb2
  have M2 : Aside (Pairs .u16 .u8 w2 a0 cs) := M1.out.keep hb2
  have K2 : Aside (dice.KeysIn .u16 w2 a1 ks) := K1.out.keep hb2
  have V2 : Aside (Nums .i64 w2 a2 n2 c2 vs) := V1.out.keep hb2
  clear hb2 B1 P1 M1 K1 V1
  have HD : Aside (Dims ds n) := hDD
  have hn4 := hDD.few
  have hn1 := hDD.one
  have D2 : Aside (DimsIn w2 (some ⟨gx, 0, none⟩) ds) := hX
  clear hX hDD hbx
  clear M2
  go_wp2_with fail
  refine (facts_made _ a1 a2 n cx n1 c1 n2 c2 ds ks vs w2 D2.out HD.out K2.out hka1.out.1 hka1.out.2 V2.out).mono ?_
  rintro e w3 ⟨v1, rfl, hres⟩
  obtain ⟨⟨pF, qF, rfl, hX, hqF⟩, hbx⟩ := hres
  have hb3 : Below w2.heap.size w2 w3 := hbx
  have B3 : Aside (Below w.heap.size w w3) := B2.out.trans (hb3.mono B2.out.size)
  have P3 : Aside (Pow w3) := P2.out.keep hb3
  have K3 : Aside (dice.KeysIn .u16 w3 a1 ks) := K2.out.keep hb3
  have V3 : Aside (Nums .i64 w3 a2 n2 c2 vs) := V2.out.keep hb3
  have D3 : Aside (DimsIn w3 (some ⟨gx, 0, none⟩) ds) := D2.out.keep hb3
  clear hb3 B2 P2 K2 V2 D2
  have HF : Aside (Fine (factL ds ks vs n1) ∧ ∀ f ∈ factL ds ks vs n1, Mem n f.1) := ⟨fact_fine (i64_all V3.out) hka1.out.2, fact_mem ⟨HD.out.len, HD.out.siz⟩ _ _ _⟩
  have GF3 : Aside (FactL w3 pF n1 (factL ds ks vs n1)) := hX
  clear hX hbx
  have hFl0 : Aside ((factL ds ks vs n1).length = n1) := by show _ = _; rw [factL_len]
  generalize factL ds ks vs n1 = F at HF hFl0 GF3
  clear K3
  clear V3
  clear D3
  have h12 : n1 ≤ 200 := hka1.out.2
  obtain ⟨j, hjj⟩ : ∃ j : Nat, max z 0 % ((n1 : Int) + 1) = (j : Int) := ⟨(max z 0 % ((n1 : Int) + 1)).toNat, by have := Int.emod_nonneg (max z 0) (show ((n1 : Int) + 1) ≠ 0 by omega); omega⟩
  have hjn : j ≤ n1 := by have := Int.emod_lt_of_pos (max z 0) (show (0 : Int) < (n1 : Int) + 1 by omega); omega
  have hjz : (j : Int) ≤ (n1 : Int) := by omega
  have hjq : (j : Int) ≤ (qF : Int) := by omega
  have hnq : (n1 : Int) ≤ (qF : Int) := by omega
  have hq0 : (0 : Int) ≤ (qF : Int) := by omega
  have hn10 : (0 : Int) ≤ (n1 : Int) := by omega
  have hv0 : ¬ ((n1 : Int) + 1) = 0 := by omega
  obtain ⟨fs, hFs, hFm, hFl⟩ := GF3.out
  have HS : Aside (FactsIn w3 pF fs ∧ fs.map pf = F ∧ fs.length = n1) := ⟨hFs, hFm, hFl⟩
  clear hFs hFm hFl
  go_wp2_with fail
  simp only [hjj]
  clear hjj
  go_loopg [12, 13] n1 (fun g1 v vi wr => ∃ (m : Nat) (x : Int), vi = .int .i64 x ∧ m ≤ n1 ∧ m ≤ g1 ∧ Aside (x = (m : Int) - 1 ∧ wr.ownsRow w3.heap.size 53 2 v (n1 - m) (flatF (fs.drop m).reverse) ∧ Below w3.heap.size w3 wr))
  case atStart =>
    refine ⟨n1, (n1 : Int) - 1, by go_num, Nat.le_refl _, Nat.le_refl _, rfl, ?_, Below.refl _ _⟩
    rw [List.drop_of_length_le (by rw [HS.out.2.2]; exact Nat.le_refl _), Nat.sub_self]
    exact World.ownsRow_nil _ _ _ _
  case round =>
    obtain ⟨m, x, rfl, hm, hg1, SK⟩ := hrel
    by_cases hm0 : m = 0
    · obtain rfl : x = -1 := by have := SK.out.1; omega
      have hown := SK.out.2.1
      have hbl := SK.out.2.2
      rw [hm0, List.drop_zero, Nat.sub_zero] at hown
      have hrl : fs.reverse.length = n1 := by rw [List.length_reverse, HS.out.2.2]
      rw [← hrl] at hown
      obtain ⟨pb, qb, hv, hFb, -⟩ := own_facts hown (fun f hf => by
        obtain ⟨i, hi, rfl⟩ := List.mem_iff_getElem.1 (List.mem_reverse.1 hf)
        obtain ⟨b, off, -, hc⟩ := (HS.out.1.keep hbl).get hi
        have := (hc i hi).2.2
        rw [ftn_eq hi] at this
        exact this)
      rw [hrl] at hv
      subst hv
      have hback : FactL wr pb n1 F.reverse := ⟨fs.reverse, hFb, by rw [List.map_reverse, HS.out.2.1], hrl⟩
      clear SK hown hFb hrl HS hm hg1 hm0
      generalize wr = w4 at hbl hback ⊢
      have hb4 : Below w3.heap.size w3 w4 := hbl
      have B4 : Aside (Below w.heap.size w w4) := B3.out.trans (hb4.mono B3.out.size)
      have P4 : Aside (Pow w4) := P3.out.keep hb4
      have GF4 : Aside (FactL w4 pF n1 F) := GF3.out.keep hb4
      clear hb4 B3 P3 GF3
      have GB4 : Aside (FactL w4 pb n1 F.reverse) := hback
      clear hbl hback
      have hFt := GF4.out.take hjn
      have hFd := GF4.out.drop (q := qF) hjn hqF
      generalize hpB : (if qF = j then pF else pF.map fun x => x.add (j * 2)) = pDr at hFd
      have GT4 : Aside (FactL w4 pF j (F.take j)) := hFt
      have GD4 : Aside (FactL w4 pDr (n1 - j) (F.drop j)) := hFd
      clear hFt hFd
      have HT : Aside (Fine (F.take j) ∧ ∀ f ∈ F.take j, Mem n f.1) := ⟨HF.out.1.sub (fun f hf => List.mem_of_mem_take hf) (by rw [List.length_take]; omega), fun f hf => HF.out.2 f (List.mem_of_mem_take hf)⟩
      have HB : Aside (Fine (F.drop j) ∧ ∀ f ∈ F.drop j, Mem n f.1) := ⟨HF.out.1.sub (fun f hf => List.mem_of_mem_drop hf) (by rw [List.length_drop]; omega), fun f hf => HF.out.2 f (List.mem_of_mem_drop hf)⟩
      go_wp2_with fail
      refine (make_made _ _ _ n (F.take j) w4 P4.out GT4.out (by omega) hn4 HT.out.2).mono ?_
      rintro e w5 ⟨v1, rfl, hres⟩
      obtain ⟨⟨pA, mA, qA, rfl, hX, hmA⟩, hbx⟩ := hres
      have hb5 : Below w4.heap.size w4 w5 := hbx
      have B5 : Aside (Below w.heap.size w w5) := B4.out.trans (hb5.mono B4.out.size)
      have P5 : Aside (Pow w5) := P4.out.keep hb5
      have GF5 : Aside (FactL w5 pF n1 F) := GF4.out.keep hb5
      have GB5 : Aside (FactL w5 pb n1 F.reverse) := GB4.out.keep hb5
      have GT5 : Aside (FactL w5 pF j (F.take j)) := GT4.out.keep hb5
      have GD5 : Aside (FactL w5 pDr (n1 - j) (F.drop j)) := GD4.out.keep hb5
      clear hb5 B4 P4 GF4 GB4 GT4 GD4
      have MA : Aside (MT n (tab (rowsOf (F.take j))) (F.take j)) := MT.make HT.out.1 HT.out.2
      have TA5 : Aside (TabL w5 pA mA qA (tab (rowsOf (F.take j)))) := hX
      have hmA2 : mA ≤ 1000 := by omega
      clear hX hbx
      generalize tab (rowsOf (F.take j)) = tA at MA TA5
      clear GT5
      go_wp2_with fail
      refine (make_made _ _ _ n (F.drop j) w5 P5.out GD5.out (by omega) hn4 HB.out.2).mono ?_
      rintro e w6 ⟨v1, rfl, hres⟩
      obtain ⟨⟨pB, mB, qB, rfl, hX, hmB⟩, hbx⟩ := hres
      have hb6 : Below w5.heap.size w5 w6 := hbx
      have B6 : Aside (Below w.heap.size w w6) := B5.out.trans (hb6.mono B5.out.size)
      have P6 : Aside (Pow w6) := P5.out.keep hb6
      have GF6 : Aside (FactL w6 pF n1 F) := GF5.out.keep hb6
      have GB6 : Aside (FactL w6 pb n1 F.reverse) := GB5.out.keep hb6
      have GD6 : Aside (FactL w6 pDr (n1 - j) (F.drop j)) := GD5.out.keep hb6
      have TA6 : Aside (TabL w6 pA mA qA tA) := TA5.out.keep hb6
      clear hb6 B5 P5 GF5 GB5 GD5 TA5
      have MB : Aside (MT n (tab (rowsOf (F.drop j))) (F.drop j)) := MT.make HB.out.1 HB.out.2
      have TB6 : Aside (TabL w6 pB mB qB (tab (rowsOf (F.drop j)))) := hX
      have hmB2 : mB ≤ 1000 := by omega
      clear hX hbx
      generalize tab (rowsOf (F.drop j)) = tB at MB TB6
      clear GD6
      clear hpB
      go_wp2_with fail
      refine (make_made _ _ _ n (F) w6 P6.out GF6.out (by omega) hn4 HF.out.2).mono ?_
      rintro e w7 ⟨v1, rfl, hres⟩
      obtain ⟨⟨pX, mX, qX, rfl, hX, hmX⟩, hbx⟩ := hres
      have hb7 : Below w6.heap.size w6 w7 := hbx
      have B7 : Aside (Below w.heap.size w w7) := B6.out.trans (hb7.mono B6.out.size)
      have P7 : Aside (Pow w7) := P6.out.keep hb7
      have GF7 : Aside (FactL w7 pF n1 F) := GF6.out.keep hb7
      have GB7 : Aside (FactL w7 pb n1 F.reverse) := GB6.out.keep hb7
      have TA7 : Aside (TabL w7 pA mA qA tA) := TA6.out.keep hb7
      have TB7 : Aside (TabL w7 pB mB qB tB) := TB6.out.keep hb7
      clear hb7 B6 P6 GF6 GB6 TA6 TB6
      have MX : Aside (MT n (tab (rowsOf (F))) (F)) := MT.make HF.out.1 HF.out.2
      have TX7 : Aside (TabL w7 pX mX qX (tab (rowsOf (F)))) := hX
      have hmX2 : mX ≤ 1000 := by omega
      clear hX hbx
      generalize tab (rowsOf (F)) = tX at MX TX7
      clear GF7
      obtain ⟨rs, hR, hRm, hRl, -, -⟩ := TX7.out
      have HR : Aside (RowsIn w7 pX rs ∧ rs.map plain = tX ∧ rs.length = mX ∧ ∀ i, i < mX → okAt rs n i = true) := ⟨hR, hRm, hRl, fun i hi => sndT_at (MX.out.snd hRm) (by rw [hRl]; exact hi)⟩
      clear hR hRm hRl
      go_wp2_with fail
      go_loopg [17, 18] mX (fun g1 v vi wr => ∃ (k : Nat) (x : Int), v = .int .i64 x ∧ vi = .int .i64 k ∧ k ≤ mX ∧ mX - k ≤ g1 ∧ Aside (x = wrap64 (count ((rs.take k).map plain)) ∧ Below w7.heap.size w7 wr))
      case atStart => exact ⟨0, 0, rfl, rfl, Nat.zero_le _, Nat.le_refl _, (by show (0 : Int) = wrap64 0; unfold wrap64; omega), Below.refl _ _⟩
      case round =>
        obtain ⟨k, x, rfl, rfl, hk, hg1, SK⟩ := hrel
        by_cases hlt : k < mX
        · have hltz : (k : Int) < (mX : Int) := by omega
          have hkl : k < rs.length := by rw [HR.out.2.2.1]; exact hlt
          obtain ⟨b, off, ha, hc⟩ := (HR.out.1.keep SK.out.2).get hkl
          obtain ⟨⟨r0, r1, r2, r3, r4⟩, K1⟩ := hc k hkl
          obtain ⟨ok1, ok2⟩ := okAt_parts (HR.out.2.2.2 k hlt)
          have S2 : Aside (wrap64 (x + (rwn rs k).c.n) = wrap64 (count ((rs.take (k + 1)).map plain))) := by
            show _ = _
            rw [count_take hkl, SK.out.1, cell.wrap64_add_left]
          have SB : Aside (Below w7.heap.size w7 wr) := SK.out.2
          have hsz := SK.out.2.size
          have hS : ∀ W, Calls Tryd.prog 25 #[.agg #[.int .i64 (rwn rs k).c.n, .int .i64 (rwn rs k).c.s, .int .i64 (rwn rs k).c.lo, .int .i64 (rwn rs k).c.hi]] W fun e w' => e = .returned (.bool true) ∧ Below W.heap.size W w' := fun W => (cell.refSound_any (rwn rs k).c W).mono fun e w' ⟨h1, h2⟩ => ⟨by rw [h1, ok1], h2⟩
          clear SK ok1
          by_cases hk0 : k = 0
          · subst ha
            have hkz : decide ((0 : Int) < (k : Int)) = false := decide_eq_false (by omega)
            have hkn : decide (0 < k) = false := decide_eq_false (by omega)
            clear hc K1 ok2 hk0 hkl
            generalize rwn rs k = r at r0 r1 r2 r3 r4 hS S2
            generalize r.k.length = nk at r0
            go_wp2_with fail
            refine wp_region_held_drew (S := (fun w' => Below wr.heap.size wr w' ∧ w'.cell? ⟨b, off + k * 5, none⟩ = some (.slice r.a nk r.cap) ∧ w'.cell? ⟨b, off + k * 5 + 1, none⟩ = some (.int .i64 r.c.n) ∧ w'.cell? ⟨b, off + k * 5 + 2, none⟩ = some (.int .i64 r.c.s) ∧ w'.cell? ⟨b, off + k * 5 + 3, none⟩ = some (.int .i64 r.c.lo) ∧ w'.cell? ⟨b, off + k * 5 + 4, none⟩ = some (.int .i64 r.c.hi))) (by kernel_rfl) ?_ (fun hHeld => ?_)
            · (try dsimp only); exact ⟨(Below.refl _ _).drew, r0, r1, r2, r3, r4⟩
            change wpAnyH _ _ _ _ _ 26 #[false, false, false, false, false, false, false, false, false, false, false, false, false, false, false, false, false, false, false, false, false, false, false, false, false, false] _ _
            refine wpAnyH_take (i := 0) (oi := { dst := some 77, op := Op.move (Operand.tmp 16), type := 22, pos := "law.go:137", after := #[], guard := none }) (v := ?_) rfl (by kernel_rfl) (by kernel_rfl) (by kernel_rfl) (fun _ _ _ h => h) (Or.inl ⟨by kernel_rfl, ?_⟩) (by assumption) ?_
            rotate_left
            focus
              intro w hSw
              (try dsimp only at hSw)
              go_simp
              all_goals (try with_reducible rfl)
            simp only [Act.put, List.setIfInBounds_toArray, List.set_cons_zero, List.set_cons_succ]
            refine wpAnyH_take (i := 1) (oi := { dst := some 78, op := Op.move (Operand.tmp 18), type := 3, pos := "law.go:137", after := #[], guard := none }) (v := ?_) rfl (by kernel_rfl) (by kernel_rfl) (by kernel_rfl) (fun _ _ _ h => h) (Or.inl ⟨by kernel_rfl, ?_⟩) (by assumption) ?_
            rotate_left
            focus
              intro w hSw
              (try dsimp only at hSw)
              go_simp
              all_goals (try with_reducible rfl)
            simp only [Act.put, List.setIfInBounds_toArray, List.set_cons_zero, List.set_cons_succ]
            refine wpAnyH_take (i := 2) (oi := { dst := some 79, op := Op.indexAddr 22 (Operand.tmp 77) (Operand.tmp 78), type := 0, pos := "law.go:137", after := #[{ on := 0, ground := Ground.data }, { on := 1, ground := Ground.data }], guard := none }) (v := ?_) rfl (by kernel_rfl) (by kernel_rfl) (by kernel_rfl) (fun _ _ _ h => h) (Or.inl ⟨by kernel_rfl, ?_⟩) (by assumption) ?_
            rotate_left
            focus
              intro w hSw
              (try dsimp only at hSw)
              go_simp
              all_goals (try with_reducible rfl)
            simp only [Act.put, List.setIfInBounds_toArray, List.set_cons_zero, List.set_cons_succ]
            refine wpAnyH_take (i := 3) (oi := { dst := some 80, op := Op.fieldAddr 57 (Operand.tmp 79) 1, type := 0, pos := "law.go:137", after := #[{ on := 2, ground := Ground.data }], guard := none }) (v := ?_) rfl (by kernel_rfl) (by kernel_rfl) (by kernel_rfl) (fun _ _ _ h => h) (Or.inl ⟨by kernel_rfl, ?_⟩) (by assumption) ?_
            rotate_left
            focus
              intro w hSw
              (try dsimp only at hSw)
              go_simp
              all_goals (try with_reducible rfl)
            simp only [Act.put, List.setIfInBounds_toArray, List.set_cons_zero, List.set_cons_succ]
            refine wpAnyH_take (i := 4) (oi := { dst := some 81, op := Op.load 55 (Operand.tmp 80), type := 55, pos := "law.go:137", after := #[{ on := 3, ground := Ground.data }], guard := none }) (v := ?_) rfl (by kernel_rfl) (by kernel_rfl) (by kernel_rfl) (fun _ _ _ h => h) (Or.inl ⟨by kernel_rfl, ?_⟩) (by assumption) ?_
            rotate_left
            focus
              intro w hSw
              (try dsimp only at hSw)
              go_simp
              all_goals (try with_reducible rfl)
            simp only [Act.put, List.setIfInBounds_toArray, List.set_cons_zero, List.set_cons_succ]
            refine wpAnyH_ready (rs := [5]) (by kernel_rfl) (by simp) ?_
            refine AllReadyH.cons (o := { dst := some 82, op := Op.call { callee := Callee.value (Operand.func 25), args := #[Operand.tmp 81], argTypes := #[55] }, type := 4, pos := "law.go:137", after := #[{ on := 4, ground := Ground.data }], guard := none }) rfl (fun K hK => ?_) AllReadyH.nil
            go_simp
            refine (hS _).mono ?_
            (rintro e wy ⟨rfl, hb2⟩)
            go_wp2_with fail
            refine hK.out _ _ ?_ (fun hHeld2 => ?_)
            · (try dsimp only); exact keepC5 hb2 hHeld
            clear hK K hHeld
            have hHeld := hHeld2
            clear hHeld2
            simp only [List.setIfInBounds_toArray, List.set_cons_zero, List.set_cons_succ]
            refine wpAnyH_take (i := 6) (oi := { dst := some 83, op := Op.unOp UnOp.not 4 (Operand.tmp 82), type := 4, pos := "law.go:137", after := #[{ on := 5, ground := Ground.data }], guard := none }) (v := ?_) rfl (by kernel_rfl) (by kernel_rfl) (by kernel_rfl) (fun _ _ _ h => h) (Or.inl ⟨by kernel_rfl, ?_⟩) (by assumption) ?_
            rotate_left
            focus
              intro w hSw
              (try dsimp only at hSw)
              go_simp
              all_goals (try with_reducible rfl)
            simp only [Act.put, List.setIfInBounds_toArray, List.set_cons_zero, List.set_cons_succ]
            refine wpAnyH_take (i := 7) (oi := { dst := some 84, op := Op.move (Operand.tmp 83), type := 4, pos := "law.go:137", after := #[{ on := 6, ground := Ground.data }, { on := 5, ground := Ground.chain }], guard := none }) (v := ?_) rfl (by kernel_rfl) (by kernel_rfl) (by kernel_rfl) (fun _ _ _ h => h) (Or.inl ⟨by kernel_rfl, ?_⟩) (by assumption) ?_
            rotate_left
            focus
              intro w hSw
              (try dsimp only at hSw)
              go_simp
              all_goals (try with_reducible rfl)
            simp only [Act.put, List.setIfInBounds_toArray, List.set_cons_zero, List.set_cons_succ]
            refine wpAnyH_take (i := 8) (oi := { dst := some 85, op := Op.move (Operand.tmp 18), type := 3, pos := "law.go:137", after := #[{ on := 7, ground := Ground.guard }], guard := some (7, false) }) (v := ?_) rfl (by kernel_rfl) (by kernel_rfl) (by kernel_rfl) (fun _ _ _ h => h) (Or.inl ⟨by kernel_rfl, ?_⟩) (by assumption) ?_
            rotate_left
            focus
              intro w hSw
              (try dsimp only at hSw)
              go_simp
              all_goals (try with_reducible rfl)
            simp only [Act.put, List.setIfInBounds_toArray, List.set_cons_zero, List.set_cons_succ]
            refine wpAnyH_take (i := 9) (oi := { dst := some 86, op := Op.binOp BinOp.gtr 3 (Operand.tmp 85) (Operand.const (Value.int IntKind.i64 0)) 3, type := 4, pos := "law.go:137", after := #[{ on := 8, ground := Ground.data }, { on := 7, ground := Ground.guard }], guard := some (7, false) }) (v := ?_) rfl (by kernel_rfl) (by kernel_rfl) (by kernel_rfl) (fun _ _ _ h => h) (Or.inl ⟨by kernel_rfl, ?_⟩) (by assumption) ?_
            rotate_left
            focus
              intro w hSw
              (try dsimp only at hSw)
              go_simp
              all_goals (try with_reducible rfl)
            simp only [Act.put, List.setIfInBounds_toArray, List.set_cons_zero, List.set_cons_succ]
            refine wpAnyH_take (i := 10) (oi := { dst := some 87, op := Op.move (Operand.tmp 86), type := 4, pos := "law.go:137", after := #[{ on := 9, ground := Ground.data }, { on := 7, ground := Ground.chain }, { on := 7, ground := Ground.guard }], guard := some (7, false) }) (v := ?_) rfl (by kernel_rfl) (by kernel_rfl) (by kernel_rfl) (fun _ _ _ h => h) (Or.inl ⟨by kernel_rfl, ?_⟩) (by assumption) ?_
            rotate_left
            focus
              intro w hSw
              (try dsimp only at hSw)
              go_simp
              all_goals (try with_reducible rfl)
            simp only [Act.put, List.setIfInBounds_toArray, List.set_cons_zero, List.set_cons_succ]
            refine wpAnyH_take (i := 11) (oi := { dst := some 88, op := Op.move (Operand.tmp 16), type := 22, pos := "law.go:137", after := #[{ on := 10, ground := Ground.guard }], guard := some (10, true) }) (v := undef) rfl (by kernel_rfl) (by kernel_rfl) (by kernel_rfl) (fun _ _ _ h => h) (Or.inr ⟨by kernel_rfl, rfl⟩) (by assumption) ?_
            simp only [Act.put, List.setIfInBounds_toArray, List.set_cons_zero, List.set_cons_succ]
            refine wpAnyH_take (i := 12) (oi := { dst := some 89, op := Op.move (Operand.tmp 18), type := 3, pos := "law.go:137", after := #[{ on := 10, ground := Ground.guard }], guard := some (10, true) }) (v := undef) rfl (by kernel_rfl) (by kernel_rfl) (by kernel_rfl) (fun _ _ _ h => h) (Or.inr ⟨by kernel_rfl, rfl⟩) (by assumption) ?_
            simp only [Act.put, List.setIfInBounds_toArray, List.set_cons_zero, List.set_cons_succ]
            refine wpAnyH_take (i := 13) (oi := { dst := some 90, op := Op.binOp BinOp.sub 3 (Operand.tmp 89) (Operand.const (Value.int IntKind.i64 1)) 3, type := 3, pos := "law.go:137", after := #[{ on := 12, ground := Ground.data }, { on := 10, ground := Ground.guard }], guard := some (10, true) }) (v := undef) rfl (by kernel_rfl) (by kernel_rfl) (by kernel_rfl) (fun _ _ _ h => h) (Or.inr ⟨by kernel_rfl, rfl⟩) (by assumption) ?_
            simp only [Act.put, List.setIfInBounds_toArray, List.set_cons_zero, List.set_cons_succ]
            refine wpAnyH_take (i := 14) (oi := { dst := some 91, op := Op.indexAddr 22 (Operand.tmp 88) (Operand.tmp 90), type := 0, pos := "law.go:137", after := #[{ on := 11, ground := Ground.data }, { on := 13, ground := Ground.data }, { on := 10, ground := Ground.guard }], guard := some (10, true) }) (v := undef) rfl (by kernel_rfl) (by kernel_rfl) (by kernel_rfl) (fun _ _ _ h => h) (Or.inr ⟨by kernel_rfl, rfl⟩) (by assumption) ?_
            simp only [Act.put, List.setIfInBounds_toArray, List.set_cons_zero, List.set_cons_succ]
            refine wpAnyH_take (i := 15) (oi := { dst := some 92, op := Op.fieldAddr 57 (Operand.tmp 91) 0, type := 0, pos := "law.go:137", after := #[{ on := 14, ground := Ground.data }, { on := 10, ground := Ground.guard }], guard := some (10, true) }) (v := undef) rfl (by kernel_rfl) (by kernel_rfl) (by kernel_rfl) (fun _ _ _ h => h) (Or.inr ⟨by kernel_rfl, rfl⟩) (by assumption) ?_
            simp only [Act.put, List.setIfInBounds_toArray, List.set_cons_zero, List.set_cons_succ]
            refine wpAnyH_take (i := 16) (oi := { dst := some 93, op := Op.load 38 (Operand.tmp 92), type := 38, pos := "law.go:137", after := #[{ on := 15, ground := Ground.data }, { on := 10, ground := Ground.guard }], guard := some (10, true) }) (v := undef) rfl (by kernel_rfl) (by kernel_rfl) (by kernel_rfl) (fun _ _ _ h => h) (Or.inr ⟨by kernel_rfl, rfl⟩) (by assumption) ?_
            simp only [Act.put, List.setIfInBounds_toArray, List.set_cons_zero, List.set_cons_succ]
            refine wpAnyH_take (i := 17) (oi := { dst := some 94, op := Op.move (Operand.tmp 16), type := 22, pos := "law.go:137", after := #[{ on := 10, ground := Ground.guard }], guard := some (10, true) }) (v := undef) rfl (by kernel_rfl) (by kernel_rfl) (by kernel_rfl) (fun _ _ _ h => h) (Or.inr ⟨by kernel_rfl, rfl⟩) (by assumption) ?_
            simp only [Act.put, List.setIfInBounds_toArray, List.set_cons_zero, List.set_cons_succ]
            refine wpAnyH_take (i := 18) (oi := { dst := some 95, op := Op.move (Operand.tmp 18), type := 3, pos := "law.go:137", after := #[{ on := 10, ground := Ground.guard }], guard := some (10, true) }) (v := undef) rfl (by kernel_rfl) (by kernel_rfl) (by kernel_rfl) (fun _ _ _ h => h) (Or.inr ⟨by kernel_rfl, rfl⟩) (by assumption) ?_
            simp only [Act.put, List.setIfInBounds_toArray, List.set_cons_zero, List.set_cons_succ]
            refine wpAnyH_take (i := 19) (oi := { dst := some 96, op := Op.indexAddr 22 (Operand.tmp 94) (Operand.tmp 95), type := 0, pos := "law.go:137", after := #[{ on := 17, ground := Ground.data }, { on := 18, ground := Ground.data }, { on := 10, ground := Ground.guard }], guard := some (10, true) }) (v := undef) rfl (by kernel_rfl) (by kernel_rfl) (by kernel_rfl) (fun _ _ _ h => h) (Or.inr ⟨by kernel_rfl, rfl⟩) (by assumption) ?_
            simp only [Act.put, List.setIfInBounds_toArray, List.set_cons_zero, List.set_cons_succ]
            refine wpAnyH_take (i := 20) (oi := { dst := some 97, op := Op.fieldAddr 57 (Operand.tmp 96) 0, type := 0, pos := "law.go:137", after := #[{ on := 19, ground := Ground.data }, { on := 10, ground := Ground.guard }], guard := some (10, true) }) (v := undef) rfl (by kernel_rfl) (by kernel_rfl) (by kernel_rfl) (fun _ _ _ h => h) (Or.inr ⟨by kernel_rfl, rfl⟩) (by assumption) ?_
            simp only [Act.put, List.setIfInBounds_toArray, List.set_cons_zero, List.set_cons_succ]
            refine wpAnyH_take (i := 21) (oi := { dst := some 98, op := Op.load 38 (Operand.tmp 97), type := 38, pos := "law.go:137", after := #[{ on := 20, ground := Ground.data }, { on := 10, ground := Ground.guard }], guard := some (10, true) }) (v := undef) rfl (by kernel_rfl) (by kernel_rfl) (by kernel_rfl) (fun _ _ _ h => h) (Or.inr ⟨by kernel_rfl, rfl⟩) (by assumption) ?_
            simp only [Act.put, List.setIfInBounds_toArray, List.set_cons_zero, List.set_cons_succ]
            refine wpAnyH_take (i := 22) (oi := { dst := some 99, op := Op.call { callee := Callee.value (Operand.func 26), args := #[Operand.tmp 93, Operand.tmp 98], argTypes := #[38, 38] }, type := 3, pos := "law.go:137", after := #[{ on := 16, ground := Ground.data }, { on := 21, ground := Ground.data }, { on := 10, ground := Ground.chain }, { on := 10, ground := Ground.guard }], guard := some (10, true) }) (v := undef) rfl (by kernel_rfl) (by kernel_rfl) (by kernel_rfl) (fun _ _ _ h => h) (Or.inr ⟨by kernel_rfl, rfl⟩) (by assumption) ?_
            simp only [Act.put, List.setIfInBounds_toArray, List.set_cons_zero, List.set_cons_succ]
            refine wpAnyH_take (i := 23) (oi := { dst := some 100, op := Op.binOp BinOp.geq 3 (Operand.tmp 99) (Operand.const (Value.int IntKind.i64 0)) 3, type := 4, pos := "law.go:137", after := #[{ on := 22, ground := Ground.data }, { on := 10, ground := Ground.guard }], guard := some (10, true) }) (v := undef) rfl (by kernel_rfl) (by kernel_rfl) (by kernel_rfl) (fun _ _ _ h => h) (Or.inr ⟨by kernel_rfl, rfl⟩) (by assumption) ?_
            simp only [Act.put, List.setIfInBounds_toArray, List.set_cons_zero, List.set_cons_succ]
            refine wpAnyH_take (i := 24) (oi := { dst := some 101, op := Op.pick (Operand.tmp 87) (Operand.tmp 100) (Operand.const (Value.bool false)), type := 4, pos := "law.go:137", after := #[{ on := 10, ground := Ground.data }, { on := 23, ground := Ground.data }, { on := 7, ground := Ground.guard }], guard := some (7, false) }) (v := ?_) rfl (by kernel_rfl) (by kernel_rfl) (by kernel_rfl) (fun _ _ _ h => h) (Or.inl ⟨by kernel_rfl, ?_⟩) (by assumption) ?_
            rotate_left
            focus
              intro w hSw
              (try dsimp only at hSw)
              go_simp
              all_goals (try with_reducible rfl)
            simp only [Act.put, List.setIfInBounds_toArray, List.set_cons_zero, List.set_cons_succ]
            refine wpAnyH_take (i := 25) (oi := { dst := some 102, op := Op.pick (Operand.tmp 84) (Operand.const (Value.bool true)) (Operand.tmp 101), type := 4, pos := "law.go:137", after := #[{ on := 7, ground := Ground.data }, { on := 24, ground := Ground.data }], guard := none }) (v := ?_) rfl (by kernel_rfl) (by kernel_rfl) (by kernel_rfl) (fun _ _ _ h => h) (Or.inl ⟨by kernel_rfl, ?_⟩) (by assumption) ?_
            rotate_left
            focus
              intro w hSw
              (try dsimp only at hSw)
              go_simp
              all_goals (try with_reducible rfl)
            simp only [Act.put, List.setIfInBounds_toArray, List.set_cons_zero, List.set_cons_succ]
            refine wpAnyH_done (by kernel_rfl) ?_ _
            have S3 : Aside (Below w7.heap.size w7 wy) := SB.out.trans (hHeld.1.mono hsz)
            clear hHeld
            go_wp2
            go_roundg (mX - (k + 1))
            case measure => omega
            case rel => exact ⟨k + 1, _, rfl, by go_num, by omega, by omega, S2.out, S3.out⟩
          · obtain ⟨i, hi2⟩ : ∃ i, k = i + 1 := ⟨k - 1, by omega⟩
            obtain ⟨⟨q0, -, -, -, -⟩, K2⟩ := hc i (by omega)
            subst ha
            rw [show k - 1 = i by omega] at ok2
            have hlz : cmpL (rwn rs i).k (rwn rs k).k < 0 := by rcases ok2 with h | h; exact absurd h hk0; exact h
            have hC := fun W (hb : Below wr.heap.size wr W) => refCmp_any (rwn rs i).a (rwn rs k).a (rwn rs i).k.length (rwn rs k).k.length (rwn rs i).cap (rwn rs k).cap (rwn rs i).k (rwn rs k).k W (K2.mem.keep hb) (K1.mem.keep hb) rfl rfl (Nat.le_trans K2.lec K2.max) (Nat.le_trans K1.lec K1.max)
            obtain ⟨c, hcc⟩ : ∃ c, cmpL (rwn rs i).k (rwn rs k).k = c := ⟨_, rfl⟩
            rw [hcc] at hC hlz
            have hd : decide (0 ≤ c) = false := decide_eq_false (by omega)
            have hkz : decide ((0 : Int) < (k : Int)) = true := decide_eq_true (by omega)
            have hkn : decide (0 < k) = true := decide_eq_true (by omega)
            have hw1 : IntKind.i64.wrap ((k : Int) - 1) = (i : Int) := by rw [IntWalk.i64_left]; unfold wrap64; omega
            have hw2 : wrap64 ((k : Int) - 1) = (i : Int) := by unfold wrap64; omega
            have hiz : (i : Int) < (mX : Int) := by omega
            clear hc K1 K2 ok2 hk0 hkl hcc hi2 hlz
            generalize rwn rs k = r at r0 r1 r2 r3 r4 hS S2 hC
            generalize r.k.length = nk at r0 hC
            generalize rwn rs i = q at q0 hC
            generalize q.k.length = nq at q0 hC
            go_wp2_with fail
            refine wp_region_held_drew (S := (fun w' => Below wr.heap.size wr w' ∧ w'.cell? ⟨b, off + k * 5, none⟩ = some (.slice r.a nk r.cap) ∧ w'.cell? ⟨b, off + k * 5 + 1, none⟩ = some (.int .i64 r.c.n) ∧ w'.cell? ⟨b, off + k * 5 + 2, none⟩ = some (.int .i64 r.c.s) ∧ w'.cell? ⟨b, off + k * 5 + 3, none⟩ = some (.int .i64 r.c.lo) ∧ w'.cell? ⟨b, off + k * 5 + 4, none⟩ = some (.int .i64 r.c.hi) ∧ w'.cell? ⟨b, off + i * 5, none⟩ = some (.slice q.a nq q.cap))) (by kernel_rfl) ?_ (fun hHeld => ?_)
            · (try dsimp only); exact ⟨(Below.refl _ _).drew, r0, r1, r2, r3, r4, q0⟩
            change wpAnyH _ _ _ _ _ 26 #[false, false, false, false, false, false, false, false, false, false, false, false, false, false, false, false, false, false, false, false, false, false, false, false, false, false] _ _
            refine wpAnyH_take (i := 0) (oi := { dst := some 77, op := Op.move (Operand.tmp 16), type := 22, pos := "law.go:137", after := #[], guard := none }) (v := ?_) rfl (by kernel_rfl) (by kernel_rfl) (by kernel_rfl) (fun _ _ _ h => h) (Or.inl ⟨by kernel_rfl, ?_⟩) (by assumption) ?_
            rotate_left
            focus
              intro w hSw
              (try dsimp only at hSw)
              go_simp
              all_goals (try with_reducible rfl)
            simp only [Act.put, List.setIfInBounds_toArray, List.set_cons_zero, List.set_cons_succ]
            refine wpAnyH_take (i := 1) (oi := { dst := some 78, op := Op.move (Operand.tmp 18), type := 3, pos := "law.go:137", after := #[], guard := none }) (v := ?_) rfl (by kernel_rfl) (by kernel_rfl) (by kernel_rfl) (fun _ _ _ h => h) (Or.inl ⟨by kernel_rfl, ?_⟩) (by assumption) ?_
            rotate_left
            focus
              intro w hSw
              (try dsimp only at hSw)
              go_simp
              all_goals (try with_reducible rfl)
            simp only [Act.put, List.setIfInBounds_toArray, List.set_cons_zero, List.set_cons_succ]
            refine wpAnyH_take (i := 2) (oi := { dst := some 79, op := Op.indexAddr 22 (Operand.tmp 77) (Operand.tmp 78), type := 0, pos := "law.go:137", after := #[{ on := 0, ground := Ground.data }, { on := 1, ground := Ground.data }], guard := none }) (v := ?_) rfl (by kernel_rfl) (by kernel_rfl) (by kernel_rfl) (fun _ _ _ h => h) (Or.inl ⟨by kernel_rfl, ?_⟩) (by assumption) ?_
            rotate_left
            focus
              intro w hSw
              (try dsimp only at hSw)
              go_simp
              all_goals (try with_reducible rfl)
            simp only [Act.put, List.setIfInBounds_toArray, List.set_cons_zero, List.set_cons_succ]
            refine wpAnyH_take (i := 3) (oi := { dst := some 80, op := Op.fieldAddr 57 (Operand.tmp 79) 1, type := 0, pos := "law.go:137", after := #[{ on := 2, ground := Ground.data }], guard := none }) (v := ?_) rfl (by kernel_rfl) (by kernel_rfl) (by kernel_rfl) (fun _ _ _ h => h) (Or.inl ⟨by kernel_rfl, ?_⟩) (by assumption) ?_
            rotate_left
            focus
              intro w hSw
              (try dsimp only at hSw)
              go_simp
              all_goals (try with_reducible rfl)
            simp only [Act.put, List.setIfInBounds_toArray, List.set_cons_zero, List.set_cons_succ]
            refine wpAnyH_take (i := 4) (oi := { dst := some 81, op := Op.load 55 (Operand.tmp 80), type := 55, pos := "law.go:137", after := #[{ on := 3, ground := Ground.data }], guard := none }) (v := ?_) rfl (by kernel_rfl) (by kernel_rfl) (by kernel_rfl) (fun _ _ _ h => h) (Or.inl ⟨by kernel_rfl, ?_⟩) (by assumption) ?_
            rotate_left
            focus
              intro w hSw
              (try dsimp only at hSw)
              go_simp
              all_goals (try with_reducible rfl)
            simp only [Act.put, List.setIfInBounds_toArray, List.set_cons_zero, List.set_cons_succ]
            refine wpAnyH_ready (rs := [5]) (by kernel_rfl) (by simp) ?_
            refine AllReadyH.cons (o := { dst := some 82, op := Op.call { callee := Callee.value (Operand.func 25), args := #[Operand.tmp 81], argTypes := #[55] }, type := 4, pos := "law.go:137", after := #[{ on := 4, ground := Ground.data }], guard := none }) rfl (fun K hK => ?_) AllReadyH.nil
            go_simp
            refine (hS _).mono ?_
            (rintro e wy ⟨rfl, hb2⟩)
            go_wp2_with fail
            refine hK.out _ _ ?_ (fun hHeld2 => ?_)
            · (try dsimp only); exact keepC6 hb2 hHeld
            clear hK K hHeld
            have hHeld := hHeld2
            clear hHeld2
            simp only [List.setIfInBounds_toArray, List.set_cons_zero, List.set_cons_succ]
            refine wpAnyH_take (i := 6) (oi := { dst := some 83, op := Op.unOp UnOp.not 4 (Operand.tmp 82), type := 4, pos := "law.go:137", after := #[{ on := 5, ground := Ground.data }], guard := none }) (v := ?_) rfl (by kernel_rfl) (by kernel_rfl) (by kernel_rfl) (fun _ _ _ h => h) (Or.inl ⟨by kernel_rfl, ?_⟩) (by assumption) ?_
            rotate_left
            focus
              intro w hSw
              (try dsimp only at hSw)
              go_simp
              all_goals (try with_reducible rfl)
            simp only [Act.put, List.setIfInBounds_toArray, List.set_cons_zero, List.set_cons_succ]
            refine wpAnyH_take (i := 7) (oi := { dst := some 84, op := Op.move (Operand.tmp 83), type := 4, pos := "law.go:137", after := #[{ on := 6, ground := Ground.data }, { on := 5, ground := Ground.chain }], guard := none }) (v := ?_) rfl (by kernel_rfl) (by kernel_rfl) (by kernel_rfl) (fun _ _ _ h => h) (Or.inl ⟨by kernel_rfl, ?_⟩) (by assumption) ?_
            rotate_left
            focus
              intro w hSw
              (try dsimp only at hSw)
              go_simp
              all_goals (try with_reducible rfl)
            simp only [Act.put, List.setIfInBounds_toArray, List.set_cons_zero, List.set_cons_succ]
            refine wpAnyH_take (i := 8) (oi := { dst := some 85, op := Op.move (Operand.tmp 18), type := 3, pos := "law.go:137", after := #[{ on := 7, ground := Ground.guard }], guard := some (7, false) }) (v := ?_) rfl (by kernel_rfl) (by kernel_rfl) (by kernel_rfl) (fun _ _ _ h => h) (Or.inl ⟨by kernel_rfl, ?_⟩) (by assumption) ?_
            rotate_left
            focus
              intro w hSw
              (try dsimp only at hSw)
              go_simp
              all_goals (try with_reducible rfl)
            simp only [Act.put, List.setIfInBounds_toArray, List.set_cons_zero, List.set_cons_succ]
            refine wpAnyH_take (i := 9) (oi := { dst := some 86, op := Op.binOp BinOp.gtr 3 (Operand.tmp 85) (Operand.const (Value.int IntKind.i64 0)) 3, type := 4, pos := "law.go:137", after := #[{ on := 8, ground := Ground.data }, { on := 7, ground := Ground.guard }], guard := some (7, false) }) (v := ?_) rfl (by kernel_rfl) (by kernel_rfl) (by kernel_rfl) (fun _ _ _ h => h) (Or.inl ⟨by kernel_rfl, ?_⟩) (by assumption) ?_
            rotate_left
            focus
              intro w hSw
              (try dsimp only at hSw)
              go_simp
              all_goals (try with_reducible rfl)
            simp only [Act.put, List.setIfInBounds_toArray, List.set_cons_zero, List.set_cons_succ]
            refine wpAnyH_take (i := 10) (oi := { dst := some 87, op := Op.move (Operand.tmp 86), type := 4, pos := "law.go:137", after := #[{ on := 9, ground := Ground.data }, { on := 7, ground := Ground.chain }, { on := 7, ground := Ground.guard }], guard := some (7, false) }) (v := ?_) rfl (by kernel_rfl) (by kernel_rfl) (by kernel_rfl) (fun _ _ _ h => h) (Or.inl ⟨by kernel_rfl, ?_⟩) (by assumption) ?_
            rotate_left
            focus
              intro w hSw
              (try dsimp only at hSw)
              go_simp
              all_goals (try with_reducible rfl)
            simp only [Act.put, List.setIfInBounds_toArray, List.set_cons_zero, List.set_cons_succ]
            refine wpAnyH_take (i := 11) (oi := { dst := some 88, op := Op.move (Operand.tmp 16), type := 22, pos := "law.go:137", after := #[{ on := 10, ground := Ground.guard }], guard := some (10, true) }) (v := ?_) rfl (by kernel_rfl) (by kernel_rfl) (by kernel_rfl) (fun _ _ _ h => h) (Or.inl ⟨by kernel_rfl, ?_⟩) (by assumption) ?_
            rotate_left
            focus
              intro w hSw
              (try dsimp only at hSw)
              go_simp
              all_goals (try with_reducible rfl)
            simp only [Act.put, List.setIfInBounds_toArray, List.set_cons_zero, List.set_cons_succ]
            refine wpAnyH_take (i := 12) (oi := { dst := some 89, op := Op.move (Operand.tmp 18), type := 3, pos := "law.go:137", after := #[{ on := 10, ground := Ground.guard }], guard := some (10, true) }) (v := ?_) rfl (by kernel_rfl) (by kernel_rfl) (by kernel_rfl) (fun _ _ _ h => h) (Or.inl ⟨by kernel_rfl, ?_⟩) (by assumption) ?_
            rotate_left
            focus
              intro w hSw
              (try dsimp only at hSw)
              go_simp
              all_goals (try with_reducible rfl)
            simp only [Act.put, List.setIfInBounds_toArray, List.set_cons_zero, List.set_cons_succ]
            refine wpAnyH_take (i := 13) (oi := { dst := some 90, op := Op.binOp BinOp.sub 3 (Operand.tmp 89) (Operand.const (Value.int IntKind.i64 1)) 3, type := 3, pos := "law.go:137", after := #[{ on := 12, ground := Ground.data }, { on := 10, ground := Ground.guard }], guard := some (10, true) }) (v := ?_) rfl (by kernel_rfl) (by kernel_rfl) (by kernel_rfl) (fun _ _ _ h => h) (Or.inl ⟨by kernel_rfl, ?_⟩) (by assumption) ?_
            rotate_left
            focus
              intro w hSw
              (try dsimp only at hSw)
              go_simp
              all_goals (try with_reducible rfl)
            simp only [Act.put, List.setIfInBounds_toArray, List.set_cons_zero, List.set_cons_succ]
            refine wpAnyH_take (i := 14) (oi := { dst := some 91, op := Op.indexAddr 22 (Operand.tmp 88) (Operand.tmp 90), type := 0, pos := "law.go:137", after := #[{ on := 11, ground := Ground.data }, { on := 13, ground := Ground.data }, { on := 10, ground := Ground.guard }], guard := some (10, true) }) (v := ?_) rfl (by kernel_rfl) (by kernel_rfl) (by kernel_rfl) (fun _ _ _ h => h) (Or.inl ⟨by kernel_rfl, ?_⟩) (by assumption) ?_
            rotate_left
            focus
              intro w hSw
              (try dsimp only at hSw)
              go_simp
              all_goals (try with_reducible rfl)
            simp only [Act.put, List.setIfInBounds_toArray, List.set_cons_zero, List.set_cons_succ]
            refine wpAnyH_take (i := 15) (oi := { dst := some 92, op := Op.fieldAddr 57 (Operand.tmp 91) 0, type := 0, pos := "law.go:137", after := #[{ on := 14, ground := Ground.data }, { on := 10, ground := Ground.guard }], guard := some (10, true) }) (v := ?_) rfl (by kernel_rfl) (by kernel_rfl) (by kernel_rfl) (fun _ _ _ h => h) (Or.inl ⟨by kernel_rfl, ?_⟩) (by assumption) ?_
            rotate_left
            focus
              intro w hSw
              (try dsimp only at hSw)
              go_simp
              all_goals (try with_reducible rfl)
            simp only [Act.put, List.setIfInBounds_toArray, List.set_cons_zero, List.set_cons_succ]
            refine wpAnyH_take (i := 16) (oi := { dst := some 93, op := Op.load 38 (Operand.tmp 92), type := 38, pos := "law.go:137", after := #[{ on := 15, ground := Ground.data }, { on := 10, ground := Ground.guard }], guard := some (10, true) }) (v := ?_) rfl (by kernel_rfl) (by kernel_rfl) (by kernel_rfl) (fun _ _ _ h => h) (Or.inl ⟨by kernel_rfl, ?_⟩) (by assumption) ?_
            rotate_left
            focus
              intro w hSw
              (try dsimp only at hSw)
              go_simp
              all_goals (try with_reducible rfl)
            simp only [Act.put, List.setIfInBounds_toArray, List.set_cons_zero, List.set_cons_succ]
            refine wpAnyH_take (i := 17) (oi := { dst := some 94, op := Op.move (Operand.tmp 16), type := 22, pos := "law.go:137", after := #[{ on := 10, ground := Ground.guard }], guard := some (10, true) }) (v := ?_) rfl (by kernel_rfl) (by kernel_rfl) (by kernel_rfl) (fun _ _ _ h => h) (Or.inl ⟨by kernel_rfl, ?_⟩) (by assumption) ?_
            rotate_left
            focus
              intro w hSw
              (try dsimp only at hSw)
              go_simp
              all_goals (try with_reducible rfl)
            simp only [Act.put, List.setIfInBounds_toArray, List.set_cons_zero, List.set_cons_succ]
            refine wpAnyH_take (i := 18) (oi := { dst := some 95, op := Op.move (Operand.tmp 18), type := 3, pos := "law.go:137", after := #[{ on := 10, ground := Ground.guard }], guard := some (10, true) }) (v := ?_) rfl (by kernel_rfl) (by kernel_rfl) (by kernel_rfl) (fun _ _ _ h => h) (Or.inl ⟨by kernel_rfl, ?_⟩) (by assumption) ?_
            rotate_left
            focus
              intro w hSw
              (try dsimp only at hSw)
              go_simp
              all_goals (try with_reducible rfl)
            simp only [Act.put, List.setIfInBounds_toArray, List.set_cons_zero, List.set_cons_succ]
            refine wpAnyH_take (i := 19) (oi := { dst := some 96, op := Op.indexAddr 22 (Operand.tmp 94) (Operand.tmp 95), type := 0, pos := "law.go:137", after := #[{ on := 17, ground := Ground.data }, { on := 18, ground := Ground.data }, { on := 10, ground := Ground.guard }], guard := some (10, true) }) (v := ?_) rfl (by kernel_rfl) (by kernel_rfl) (by kernel_rfl) (fun _ _ _ h => h) (Or.inl ⟨by kernel_rfl, ?_⟩) (by assumption) ?_
            rotate_left
            focus
              intro w hSw
              (try dsimp only at hSw)
              go_simp
              all_goals (try with_reducible rfl)
            simp only [Act.put, List.setIfInBounds_toArray, List.set_cons_zero, List.set_cons_succ]
            refine wpAnyH_take (i := 20) (oi := { dst := some 97, op := Op.fieldAddr 57 (Operand.tmp 96) 0, type := 0, pos := "law.go:137", after := #[{ on := 19, ground := Ground.data }, { on := 10, ground := Ground.guard }], guard := some (10, true) }) (v := ?_) rfl (by kernel_rfl) (by kernel_rfl) (by kernel_rfl) (fun _ _ _ h => h) (Or.inl ⟨by kernel_rfl, ?_⟩) (by assumption) ?_
            rotate_left
            focus
              intro w hSw
              (try dsimp only at hSw)
              go_simp
              all_goals (try with_reducible rfl)
            simp only [Act.put, List.setIfInBounds_toArray, List.set_cons_zero, List.set_cons_succ]
            refine wpAnyH_take (i := 21) (oi := { dst := some 98, op := Op.load 38 (Operand.tmp 97), type := 38, pos := "law.go:137", after := #[{ on := 20, ground := Ground.data }, { on := 10, ground := Ground.guard }], guard := some (10, true) }) (v := ?_) rfl (by kernel_rfl) (by kernel_rfl) (by kernel_rfl) (fun _ _ _ h => h) (Or.inl ⟨by kernel_rfl, ?_⟩) (by assumption) ?_
            rotate_left
            focus
              intro w hSw
              (try dsimp only at hSw)
              go_simp
              all_goals (try with_reducible rfl)
            simp only [Act.put, List.setIfInBounds_toArray, List.set_cons_zero, List.set_cons_succ]
            refine wpAnyH_ready (rs := [22]) (by kernel_rfl) (by simp) ?_
            refine AllReadyH.cons (o := { dst := some 99, op := Op.call { callee := Callee.value (Operand.func 26), args := #[Operand.tmp 93, Operand.tmp 98], argTypes := #[38, 38] }, type := 3, pos := "law.go:137", after := #[{ on := 16, ground := Ground.data }, { on := 21, ground := Ground.data }, { on := 10, ground := Ground.chain }, { on := 10, ground := Ground.guard }], guard := some (10, true) }) rfl (fun K hK => ?_) AllReadyH.nil
            go_simp
            refine (hC _ hHeld.1).mono ?_
            (rintro e wz ⟨rfl, hb3⟩)
            go_wp2_with fail
            refine hK.out _ _ ?_ (fun hHeld2 => ?_)
            · (try dsimp only); exact keepC6 hb3 hHeld
            clear hK K hHeld
            have hHeld := hHeld2
            clear hHeld2
            simp only [List.setIfInBounds_toArray, List.set_cons_zero, List.set_cons_succ]
            refine wpAnyH_take (i := 23) (oi := { dst := some 100, op := Op.binOp BinOp.geq 3 (Operand.tmp 99) (Operand.const (Value.int IntKind.i64 0)) 3, type := 4, pos := "law.go:137", after := #[{ on := 22, ground := Ground.data }, { on := 10, ground := Ground.guard }], guard := some (10, true) }) (v := ?_) rfl (by kernel_rfl) (by kernel_rfl) (by kernel_rfl) (fun _ _ _ h => h) (Or.inl ⟨by kernel_rfl, ?_⟩) (by assumption) ?_
            rotate_left
            focus
              intro w hSw
              (try dsimp only at hSw)
              go_simp
              all_goals (try with_reducible rfl)
            simp only [Act.put, List.setIfInBounds_toArray, List.set_cons_zero, List.set_cons_succ]
            refine wpAnyH_take (i := 24) (oi := { dst := some 101, op := Op.pick (Operand.tmp 87) (Operand.tmp 100) (Operand.const (Value.bool false)), type := 4, pos := "law.go:137", after := #[{ on := 10, ground := Ground.data }, { on := 23, ground := Ground.data }, { on := 7, ground := Ground.guard }], guard := some (7, false) }) (v := ?_) rfl (by kernel_rfl) (by kernel_rfl) (by kernel_rfl) (fun _ _ _ h => h) (Or.inl ⟨by kernel_rfl, ?_⟩) (by assumption) ?_
            rotate_left
            focus
              intro w hSw
              (try dsimp only at hSw)
              go_simp
              all_goals (try with_reducible rfl)
            simp only [Act.put, List.setIfInBounds_toArray, List.set_cons_zero, List.set_cons_succ]
            refine wpAnyH_take (i := 25) (oi := { dst := some 102, op := Op.pick (Operand.tmp 84) (Operand.const (Value.bool true)) (Operand.tmp 101), type := 4, pos := "law.go:137", after := #[{ on := 7, ground := Ground.data }, { on := 24, ground := Ground.data }], guard := none }) (v := ?_) rfl (by kernel_rfl) (by kernel_rfl) (by kernel_rfl) (fun _ _ _ h => h) (Or.inl ⟨by kernel_rfl, ?_⟩) (by assumption) ?_
            rotate_left
            focus
              intro w hSw
              (try dsimp only at hSw)
              go_simp
              all_goals (try with_reducible rfl)
            simp only [Act.put, List.setIfInBounds_toArray, List.set_cons_zero, List.set_cons_succ]
            refine wpAnyH_done (by kernel_rfl) ?_ _
            have S3 : Aside (Below w7.heap.size w7 wz) := SB.out.trans (hHeld.1.mono hsz)
            clear hHeld
            go_wp2
            go_roundg (mX - (k + 1))
            case measure => omega
            case rel => exact ⟨k + 1, _, rfl, by go_num, by omega, by omega, S2.out, S3.out⟩
        · have hltz : ¬ (k : Int) < (mX : Int) := by omega
          have hx : x = (n1 : Int) := by
            have h1 := SK.out.1
            rw [List.take_of_length_le (by rw [HR.out.2.2.1]; omega), HR.out.2.1, count_means MX.out.m MX.out.f, hFl0.out] at h1
            rw [h1]
            unfold wrap64
            omega
          subst hx
          have hbl := SK.out.2
          clear SK HR
          generalize wr = w8 at hbl ⊢
          have hb8 : Below w7.heap.size w7 w8 := hbl
          have B8 : Aside (Below w.heap.size w w8) := B7.out.trans (hb8.mono B7.out.size)
          have P8 : Aside (Pow w8) := P7.out.keep hb8
          have GB8 : Aside (FactL w8 pb n1 F.reverse) := GB7.out.keep hb8
          have TA8 : Aside (TabL w8 pA mA qA tA) := TA7.out.keep hb8
          have TB8 : Aside (TabL w8 pB mB qB tB) := TB7.out.keep hb8
          have TX8 : Aside (TabL w8 pX mX qX tX) := TX7.out.keep hb8
          clear hb8 B7 P7 GB7 TA7 TB7 TX7
          clear hbl
          have hee : ((n1 : Int) == (n1 : Int)) = true := by simp
          have HV : Aside (Fine F.reverse ∧ ∀ f ∈ F.reverse, Mem n f.1) := ⟨HF.out.1.perm F.reverse_perm.symm, fun f hf => HF.out.2 f (List.mem_reverse.1 hf)⟩
          go_wp2_with fail
          refine (make_made _ _ _ n (F.reverse) w8 P8.out GB8.out (by omega) hn4 HV.out.2).mono ?_
          rintro e w9 ⟨v1, rfl, hres⟩
          obtain ⟨⟨pC, mC, qC, rfl, hX, hmC⟩, hbx⟩ := hres
          have hb9 : Below w8.heap.size w8 w9 := hbx
          have B9 : Aside (Below w.heap.size w w9) := B8.out.trans (hb9.mono B8.out.size)
          have P9 : Aside (Pow w9) := P8.out.keep hb9
          have GB9 : Aside (FactL w9 pb n1 F.reverse) := GB8.out.keep hb9
          have TA9 : Aside (TabL w9 pA mA qA tA) := TA8.out.keep hb9
          have TB9 : Aside (TabL w9 pB mB qB tB) := TB8.out.keep hb9
          have TX9 : Aside (TabL w9 pX mX qX tX) := TX8.out.keep hb9
          clear hb9 B8 P8 GB8 TA8 TB8 TX8
          have MC : Aside (MT n (tab (rowsOf (F.reverse))) (F.reverse)) := MT.make HV.out.1 HV.out.2
          have TC9 : Aside (TabL w9 pC mC qC (tab (rowsOf (F.reverse)))) := hX
          have hmC2 : mC ≤ 1000 := by omega
          clear hX hbx
          generalize tab (rowsOf (F.reverse)) = tC at MC TC9
          clear GB9
          have EC : Aside (tX = tC) := MX.out.unique (MC.out.perm F.reverse_perm)
          go_wp2_with fail
          refine (same_made _ _ _ _ _ _ tX tC w9 TX9.out TC9.out EC.out).mono ?_
          rintro e w10 ⟨rfl, hbx⟩
          have hb10 : Below w9.heap.size w9 w10 := hbx
          have B10 : Aside (Below w.heap.size w w10) := B9.out.trans (hb10.mono B9.out.size)
          have P10 : Aside (Pow w10) := P9.out.keep hb10
          have TA10 : Aside (TabL w10 pA mA qA tA) := TA9.out.keep hb10
          have TB10 : Aside (TabL w10 pB mB qB tB) := TB9.out.keep hb10
          have TX10 : Aside (TabL w10 pX mX qX tX) := TX9.out.keep hb10
          have TC10 : Aside (TabL w10 pC mC qC tC) := TC9.out.keep hb10
          clear hb10 B9 P9 TA9 TB9 TX9 TC9
          clear hbx
          clear TC10
          have MG : Aside (MT n (tab (tA ++ tB)) F) := by have h := MA.out.merge MB.out (by rw [List.take_append_drop]; exact HF.out.1); rw [List.take_append_drop] at h; exact h
          have hpm : (F.drop j ++ F.take j).Perm F := by
            have := @List.perm_append_comm _ (F.drop j) (F.take j)
            rw [List.take_append_drop] at this
            exact this
          have MH : Aside (MT n (tab (tB ++ tA)) F) := (MB.out.merge MA.out (HF.out.1.perm hpm.symm)).perm hpm
          clear hpm
          go_wp2_with fail
          refine (merge_made _ _ _ _ _ _ n tA tB _ _ w10 P10.out TA10.out TB10.out MA.out MB.out hmA2 hmB2 hn4).mono ?_
          rintro e w11 ⟨v1, rfl, hres⟩
          obtain ⟨⟨pG, mG, qG, rfl, hX, -⟩, hbx⟩ := hres
          have hb11 : Below w10.heap.size w10 w11 := hbx
          have B11 : Aside (Below w.heap.size w w11) := B10.out.trans (hb11.mono B10.out.size)
          have P11 : Aside (Pow w11) := P10.out.keep hb11
          have TA11 : Aside (TabL w11 pA mA qA tA) := TA10.out.keep hb11
          have TB11 : Aside (TabL w11 pB mB qB tB) := TB10.out.keep hb11
          have TX11 : Aside (TabL w11 pX mX qX tX) := TX10.out.keep hb11
          clear hb11 B10 P10 TA10 TB10 TX10
          have TG11 : Aside (TabL w11 pG mG qG (tab (tA ++ tB))) := hX
          clear hX hbx
          go_wp2_with fail
          refine (same_made _ _ _ _ _ _ tX _ w11 TX11.out TG11.out (MX.out.unique MG.out)).mono ?_
          rintro e w12 ⟨rfl, hbx⟩
          have hb12 : Below w11.heap.size w11 w12 := hbx
          have B12 : Aside (Below w.heap.size w w12) := B11.out.trans (hb12.mono B11.out.size)
          have P12 : Aside (Pow w12) := P11.out.keep hb12
          have TA12 : Aside (TabL w12 pA mA qA tA) := TA11.out.keep hb12
          have TB12 : Aside (TabL w12 pB mB qB tB) := TB11.out.keep hb12
          have TX12 : Aside (TabL w12 pX mX qX tX) := TX11.out.keep hb12
          have TG12 : Aside (TabL w12 pG mG qG (tab (tA ++ tB))) := TG11.out.keep hb12
          clear hb12 B11 P11 TA11 TB11 TX11 TG11
          clear hbx
          clear TG12
          go_wp2_with fail
          refine (merge_made _ _ _ _ _ _ n tB tA _ _ w12 P12.out TB12.out TA12.out MB.out MA.out hmB2 hmA2 hn4).mono ?_
          rintro e w13 ⟨v1, rfl, hres⟩
          obtain ⟨⟨pH, mH, qH, rfl, hX, -⟩, hbx⟩ := hres
          have hb13 : Below w12.heap.size w12 w13 := hbx
          have B13 : Aside (Below w.heap.size w w13) := B12.out.trans (hb13.mono B12.out.size)
          have P13 : Aside (Pow w13) := P12.out.keep hb13
          have TA13 : Aside (TabL w13 pA mA qA tA) := TA12.out.keep hb13
          have TB13 : Aside (TabL w13 pB mB qB tB) := TB12.out.keep hb13
          have TX13 : Aside (TabL w13 pX mX qX tX) := TX12.out.keep hb13
          clear hb13 B12 P12 TA12 TB12 TX12
          have TH13 : Aside (TabL w13 pH mH qH (tab (tB ++ tA))) := hX
          clear hX hbx
          go_wp2_with fail
          refine (same_made _ _ _ _ _ _ tX _ w13 TX13.out TH13.out (MX.out.unique MH.out)).mono ?_
          rintro e w14 ⟨rfl, hbx⟩
          have hb14 : Below w13.heap.size w13 w14 := hbx
          have B14 : Aside (Below w.heap.size w w14) := B13.out.trans (hb14.mono B13.out.size)
          have P14 : Aside (Pow w14) := P13.out.keep hb14
          have TA14 : Aside (TabL w14 pA mA qA tA) := TA13.out.keep hb14
          have TB14 : Aside (TabL w14 pB mB qB tB) := TB13.out.keep hb14
          have TX14 : Aside (TabL w14 pX mX qX tX) := TX13.out.keep hb14
          have TH14 : Aside (TabL w14 pH mH qH (tab (tB ++ tA))) := TH13.out.keep hb14
          clear hb14 B13 P13 TA13 TB13 TX13 TH13
          clear hbx
          clear TH14
          go_wp2
          go_ret
          exact ⟨rfl, B14.out⟩
    · obtain ⟨i, rfl⟩ : ∃ i, m = i + 1 := ⟨m - 1, by omega⟩
      obtain rfl : x = (i : Int) := by have := SK.out.1; omega
      have hil : i < fs.length := by rw [HS.out.2.2]; omega
      obtain ⟨b, off, ha, hc⟩ := (HS.out.1.keep SK.out.2.2).get hil
      obtain ⟨r0, r1, -⟩ := hc i hil
      subst ha
      have hiz : (i : Int) < (n1 : Int) := by omega
      have hown := SK.out.2.1
      have hsz := SK.out.2.2.size
      have PU : Aside (∀ (g cap : Nat) (W' : World), W'.ownsRow w3.heap.size 53 2 (.slice (some ⟨g, 0, none⟩) (n1 - (i + 1) + 1) cap) (n1 - (i + 1) + 1) (flatF (fs.drop (i + 1)).reverse ++ [.slice (ftn fs i).a (ftn fs i).k.length (ftn fs i).cap, .int .i64 (ftn fs i).v]) → W'.ownsRow w3.heap.size 53 2 (.slice (some ⟨g, 0, none⟩) (n1 - (i + 1) + 1) cap) (n1 - i) (flatF (fs.drop i).reverse)) := fun g cap W' h => by
        rw [rev_drop hil, flatF_snoc]
        rw [show n1 - i = n1 - (i + 1) + 1 by omega]
        exact h
      have SB : Aside (Below w3.heap.size w3 wr) := SK.out.2.2
      clear hc SK
      generalize (ftn fs i).k.length = fk at r0 PU
      generalize (ftn fs i).a = fa at r0 PU
      generalize (ftn fs i).cap = fc at r0 PU
      generalize (ftn fs i).v = fv at r1 PU
      generalize hml : n1 - (i + 1) = ml at hown PU
      have HML : Hid (n1 - (i + 1) = ml) := hml
      have hml2 : ml ≤ 200 := by omega
      clear hml
      have hC2 := cells_two_new wr (.slice fa fk fc) (.int .i64 fv) 53
      go_wp2_with (at_builtin; refine wpList_append_lies _ rfl (.tmp 46) (.tmp 51) 31 rfl w3.heap.size 53 i0 _ 2 32 Tryd.underlying31 hi hz0 hz1 hz2 rfl (by decide) _ ml _ rfl (hown.alloc _) ⟨wr.heap.size, 0, none⟩ 1 1 [.slice fa fk fc, .int .i64 fv] rfl rfl hC2 (by intro u hu; simp at hu; rcases hu with rfl | rfl <;> rfl) (by decide) (by unfold maxLen; omega) (by omega) (by simp; omega) _ rfl ?_; intro g3 cap3 w3x hown3 hg3 _ _; refine Hid.out ?_)
      refine Lib.hid ?_
      have S3 : Aside (w3x.ownsRow w3.heap.size 53 2 (.slice (some ⟨g3, 0, none⟩) (ml + 1) cap3) (n1 - i) (flatF (fs.drop i).reverse) ∧ Below w3.heap.size w3 w3x) :=
        ⟨PU.out g3 cap3 w3x hown3, (SB.out.alloc hsz _).grown hg3 (by simp; omega) fun q hq => (hown.lt q hq).1⟩
      clear hown3 hg3 hown PU SB hC2 r0 r1
      go_wp2
      go_roundg i
      case measure => omega
      case rel => exact ⟨i, (i : Int) - 1, by go_num, by omega, Nat.le_refl _, rfl, S3.out⟩
end Go.Proofs.YtfchpcmiipnbjaaDoor.table
