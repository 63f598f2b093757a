/-
  The contract of the statements' own 'Facts': facts at members, as choices say.
-/
import Derived.Test.YtfchpcmiipnbjaaDoorTableFlatF
import Derived.Test.YtfchpcmiipnbjaaDoorDimsK
namespace Go.Proofs.YtfchpcmiipnbjaaDoor.table
open Go.ChangeShapes Go.WideShapes Go.ChangeAt Go.RowKit Go.Deep
open Go.Proofs.YtfchpcmiipnbjaaDoor.dims
open Go.Proofs.YtfchpcmiipnbjaaDoor.dice (Kr kn KeysIn)
open Go.Proofs.YtfchpcmiipnbjaaDoor.cell (C4 mrg all one zero In64)
set_option linter.unusedVariables false
set_option maxRecDepth 100000

/-- the number of a fact -/
def valAt (vs : List Int) (i : Nat) : Int := if vs.length = 0 then 0 else nth vs (i % vs.length)
/-- the facts that choices make -/
def factL (ds : List Dm) (ks : List Kr) (vs : List Int) (n : Nat) : List PFact := (List.range n).map fun i => (keyL ds (kn ks i).l, valAt vs i)
theorem factL_len (ds : List Dm) (ks : List Kr) (vs : List Int) (n : Nat) : (factL ds ks vs n).length = n := by simp [factL]
theorem factL_succ (ds : List Dm) (ks : List Kr) (vs : List Int) (n : Nat) : factL ds ks vs (n + 1) = factL ds ks vs n ++ [(keyL ds (kn ks n).l, valAt vs n)] := by
  unfold factL; rw [List.range_succ, List.map_append]; rfl

/-- the facts so far -/
structure FcS (w : World) (os : List Ft) (v : Value) (W : World) : Prop where
  own : W.ownsRow w.heap.size 53 2 v os.length (flatF os)
  key : ∀ i, i < os.length → W.ownsRow w.heap.size 3 1 (.slice (ftn os i).a (ftn os i).k.length (ftn os i).cap) (ftn os i).k.length (vals (ftn os i).k)
  wf : ∀ f ∈ os, ∀ x ∈ f.k, In64 x
  bel : Below w.heap.size w W
theorem FcS.start (w : World) : FcS w [] (.slice none 0 0) w := ⟨World.ownsRow_nil _ _ _ _, fun i hi => by simp at hi, by simp, Below.refl _ _⟩
theorem FcS.keep {w W W' : World} {os : List Ft} {v : Value} (h : FcS w os v W) (hb : Below W.heap.size W W') : FcS w os v W' := ⟨own_below h.own hb, fun i hi => own_below (h.key i hi) hb, h.wf, h.bel.trans (hb.mono h.bel.size)⟩
theorem ftn_snoc_lt {os : List Ft} {r : Ft} {i : Nat} (h : i < os.length) : ftn (os ++ [r]) i = ftn os i := by simp [ftn, List.getElem?_append_left h]
theorem ftn_snoc_eq {os : List Ft} {r : Ft} : ftn (os ++ [r]) os.length = r := by simp [ftn]
theorem FcS.push {w W W' : World} {os : List Ft} {v v' : Value} {f : Ft} (h : FcS w os v W) (hw : ∀ x ∈ f.k, In64 x)
    (hd : W.ownsRow w.heap.size 3 1 (.slice f.a f.k.length f.cap) f.k.length (vals f.k))
    (ho : W'.ownsRow w.heap.size 53 2 v' (os.length + 1) (flatF os ++ factCells f)) (hg : W.grownBy W' v.ownBlock) : FcS w (os ++ [f]) v' W' := by
  refine ⟨by rw [flatF_snoc]; simpa using ho, fun i hi => ?_, ?_, h.bel.grown hg h.bel.size fun q hq => (h.own.lt q hq).1⟩
  · simp only [List.length_append, List.length_singleton] at hi
    by_cases e : i = os.length
    · subst e
      rw [ftn_snoc_eq]
      exact hd.kept hg (own_apart hd h.own (by decide))
    · rw [ftn_snoc_lt (by omega)]
      exact (h.key i (by omega)).kept hg (own_apart (h.key i (by omega)) h.own (by decide))
  · intro q hq
    rcases List.mem_append.1 hq with hq | hq
    · exact h.wf q hq
    · simp at hq; subst hq; exact hw
theorem FcS.out {w W : World} {os : List Ft} {v : Value} (h : FcS w os v W) : ∃ a cap, v = .slice a os.length cap ∧ FactsIn W a os ∧ os.length ≤ cap := by
  refine own_facts h.own fun f hf => ?_
  obtain ⟨i, hi, rfl⟩ := List.mem_iff_getElem.1 hf
  have hd := h.key i hi
  have hw := h.wf _ hf
  rw [ftn_eq hi] at hd
  obtain ⟨a2, cap2, e2, hI2, hc2⟩ := (own_out hd).1
  simp only [Value.slice.injEq] at e2
  obtain ⟨e1, -, e3⟩ := e2
  rw [e1, e3]
  refine ⟨hI2, rfl, hc2, ?_, hw⟩
  rcases hd.2 with ⟨h3, h4⟩ | ⟨g3, cap3, cur3, hv3, _, _, hc3, hm3, _⟩
  · simp only [Value.slice.injEq] at h3
    omega
  · simp only [Value.slice.injEq] at hv3
    have := maxLen_le2
    omega

/-- what 'Facts' hands out -/
def FactRes (w : World) (L : List PFact) (v : Value) (W : World) : Prop := ∃ os, os.map pf = L ∧ FcS w os v W

theorem key64 {ds : List Dm} {ch : List Int} {n : Nat} (hn : ds.length = n) (hs : ∀ i, i < n → 1 ≤ (dn ds i).sz ∧ (dn ds i).sz ≤ 10000) : ∀ x ∈ keyL ds ch, In64 x := by
  intro x hx
  obtain ⟨i, hi, rfl⟩ := List.mem_iff_getElem.1 hx
  have hi2 : i < ds.length := by rw [keyL_len] at hi; exact hi
  have e : nth (keyL ds ch) i = (keyL ds ch)[i] := by simp [nth, hi]
  rw [← e, keyL_nth _ _ hi2]
  unfold keyV In64
  have h := hs i (by omega)
  have h1 := Int.emod_nonneg (nth ch i) (by omega : (dn ds i).sz ≠ 0)
  have h2 := Int.emod_lt_of_pos (nth ch i) (by omega : 0 < (dn ds i).sz)
  omega

set_option maxHeartbeats 8000000 in
theorem facts_any (a ak av : Option Addr) (n cap nk ck nv cv : Nat) (ds : List Dm) (ks : List Kr) (vs : List Int) (w : World) (hI : DimsIn w a ds) (hn : ds.length = n) (hn4 : n ≤ 4) (hs : ∀ i, i < n → 1 ≤ (dn ds i).sz ∧ (dn ds i).sz ≤ 10000) (hK : KeysIn .u16 w ak ks) (hk : ks.length = nk) (hV : Nums .i64 w av nv cv vs) :
    Calls Tryd.prog 15 #[.slice a n cap, .slice ak nk ck, .slice av nv cv] w fun e w' => ∃ v, e = .returned v ∧ FactRes w (factL ds ks vs (min nk 200)) v w' := by
  obtain ⟨i0, hi, hz0, hz1, hz2⟩ := info_parts info_fact
  have HI : Aside (DimsIn w a ds ∧ ds.length = n ∧ ∀ i, i < n → 1 ≤ (dn ds i).sz ∧ (dn ds i).sz ≤ 10000) := ⟨hI, hn, hs⟩
  have HK : Aside (KeysIn .u16 w ak ks ∧ ks.length = nk) := ⟨hK, hk⟩
  have HV : Aside (Nums .i64 w av nv cv vs) := hV
  clear hI hn hs hK hk hV
  go_enter Tryd.func15, Tryd.ntmps15
  go_wp2_with fail
  go_loopg [7, 8, 9] 200 (fun g1 v vi s wr => ∃ (k : Nat) (os : List Ft), vi = .int .i64 k ∧ k ≤ nk ∧ k ≤ 200 ∧ 200 - k ≤ g1 ∧ os.length ≤ 200 ∧ Aside (FcS w os v wr ∧ os.map pf = factL ds ks vs k ∧ os.length = k))
  case atStart => exact ⟨0, [], rfl, Nat.zero_le _, Nat.zero_le _, Nat.le_refl _, Nat.zero_le _, FcS.start w, rfl, rfl⟩
  case round =>
    obtain ⟨k, os, rfl, hkn, hk2, hg1, hol, SK⟩ := hrel
    by_cases hlt : k < nk
    · have hltz : (k : Int) < (nk : Int) := by omega
      by_cases hlt2 : k < 200
      · have hltz2 : (k : Int) < 200 := by omega
        have hkl : k < ks.length := by rw [HK.out.2]; exact hlt
        obtain ⟨b, off, ha, hc⟩ := (HK.out.1.keep SK.out.1.bel).get hkl
        subst ha
        obtain ⟨r0, hN⟩ := hc k hkl
        clear hc
        have CI := key_any a (kn ks k).a n cap (kn ks k).l.length (kn ks k).cap ds (kn ks k).l wr (HI.out.1.keep SK.out.1.bel) HI.out.2.1 hn4 hN (fun i hi => (HI.out.2.2 i hi).1)
        have HNL : Aside ((keyL ds (kn ks k).l).length = n) := by show _ = _; rw [keyL_len, HI.out.2.1]
        have PU : Aside (∀ W W' A cK q c4 x, valAt vs k = x → Below wr.heap.size wr W → W.ownsRow w.heap.size 3 1 (.slice A n cK) n (vals (keyL ds (kn ks k).l)) → W'.ownsRow w.heap.size 53 2 (.slice (some ⟨q, 0, none⟩) (os.length + 1) c4) (os.length + 1) (flatF os ++ [.slice A n cK, .int .i64 x]) → W.grownBy W' u7.ownBlock → FcS w (os ++ [⟨A, cK, keyL ds (kn ks k).l, x⟩]) (.slice (some ⟨q, 0, none⟩) (os.length + 1) c4) W' ∧ (os ++ [(⟨A, cK, keyL ds (kn ks k).l, x⟩ : Ft)]).map pf = factL ds ks vs (k + 1) ∧ (os ++ [(⟨A, cK, keyL ds (kn ks k).l, x⟩ : Ft)]).length = k + 1) := fun W W' A cK q c4 x hx hW hd ho hg => by
          refine ⟨(SK.out.1.keep hW).push (f := ⟨A, cK, keyL ds (kn ks k).l, x⟩) (key64 HI.out.2.1 HI.out.2.2) ?_ ?_ hg, ?_, by simp [SK.out.2.2]⟩
          · show W.ownsRow w.heap.size 3 1 (.slice A (keyL ds (kn ks k).l).length cK) (keyL ds (kn ks k).l).length (vals (keyL ds (kn ks k).l))
            rw [HNL.out]; exact hd
          · show W'.ownsRow w.heap.size 53 2 _ (os.length + 1) (flatF os ++ [.slice A (keyL ds (kn ks k).l).length cK, .int .i64 x])
            rw [HNL.out]; exact ho
          · rw [List.map_append, SK.out.2.1, factL_succ, hx]; rfl
        have hown := SK.out.1.own
        have hsz := SK.out.1.bel.size
        have hbl : Aside (Below w.heap.size w wr) := SK.out.1.bel
        clear hN SK
        generalize keyL ds (kn ks k).l = kl at CI PU HNL
        generalize (kn ks k).l.length = nl at r0 CI
        generalize (kn ks k).a = ka at r0 CI
        generalize (kn ks k).cap = kc at r0 CI
        go_wp2_with fail
        refine CI.mono ?_
        rintro e w2 ⟨v, rfl, hr3⟩
        obtain ⟨pa, qa, rfl, -, -⟩ : ∃ p q, v = .slice p n q ∧ Ints w2 p kl ∧ n ≤ q := by
          obtain ⟨p, q, e, hI, hc⟩ := (own_out hr3.1).1
          rw [HNL.out] at e hc
          exact ⟨p, q, e, hI, hc⟩
        have O3 : Aside (w2.ownsRow w.heap.size 3 1 (.slice pa n qa) n (vals kl)) := by
          have h := own_mono hr3.1 hsz
          rw [HNL.out] at h
          exact h
        have hb3 : Aside (Below wr.heap.size wr w2) := hr3.2
        have hsz3 : w.heap.size ≤ w2.heap.size := Nat.le_trans hsz hr3.2.size
        have hown2 : Aside (w2.ownsRow w.heap.size 53 2 u7 os.length (flatF os)) := own_below hown hr3.2
        clear hr3 CI hown r0
        by_cases hv : nv = 0
        · have hvz : ¬ (0 : Int) < (nv : Int) := by omega
          have HX : Hid (valAt vs k = 0) := by show _ = _; unfold valAt; rw [if_pos (by rw [HV.out.eln]; exact hv)]
          have H0 : Hid (nv = 0) := hv
          clear hv
          have hown := hown2.out.alloc (.cells #[.slice pa n qa, .int .i64 0] 53)
          go_wp2_with (first | (at_builtin; refine wpList_append_lies _ rfl (.tmp 38) (.tmp 40) 31 rfl w.heap.size 53 i0 _ 2 32 Tryd.underlying31 hi hz0 hz1 hz2 rfl (by decide) _ os.length (flatF os) rfl (hown.alloc _) ⟨w2.heap.size + 1, 0, none⟩ 1 1 [.slice pa n qa, .int .i64 0] rfl rfl (cells_two_at (w2.alloc (.cells #[.slice pa n qa, .int .i64 0] 53)) (w2.heap.size + 1) (by simp) _ _ _) (by intro u hu; simp at hu; rcases hu with rfl | rfl <;> rfl) (by decide) (by unfold maxLen; omega) (by omega) (by simp; omega) _ rfl ?_) | go_in)
          intro g4 cap4 w4 hown4 hgrow hat hglt
          have S4 : Aside _ := PU.out _ w4 pa qa g4 cap4 0 HX.out (hb3.out.trans (((Below.refl _ _).alloc (by have := hb3.out.size; omega) _).alloc (by have := hb3.out.size; simp; omega) _)) ((O3.out.alloc _).alloc _) hown4 hgrow
          have hol2 : os.length + 1 ≤ 200 := by have := S4.out.2.2; simp at this; omega
          clear PU hown4 hgrow hat hglt hown O3 hb3 hown2
          go_wp2
          go_roundg (200 - (k + 1))
          case measure => omega
          case rel => exact ⟨k + 1, _, by go_num, by omega, by omega, by omega, by simpa using hol2, S4⟩
        · have hvz : (0 : Int) < (nv : Int) := by omega
          have hv0 : ¬ (nv : Int) = 0 := by omega
          obtain ⟨j, hjj⟩ : ∃ j : Nat, (k : Int) % (nv : Int) = (j : Int) := ⟨k % nv, by omega⟩
          have hjn : j < nv := by have := Int.emod_lt_of_pos (k : Int) hvz; omega
          have hjnz : (j : Int) < (nv : Int) := by omega
          have hje : k % nv = j := by omega
          have hjl : j < vs.length := by rw [HV.out.eln]; exact hjn
          obtain ⟨b3, o3, ha3, hc3⟩ := ((HV.out.mem.keep hbl.out).keep hb3.out).get hjl
          subst ha3
          have r3 := hc3 j hjl
          have l3 := cell_lt r3
          have HX : Hid (valAt vs k = nth vs j) := by show _ = _; unfold valAt; rw [if_neg (by rw [HV.out.eln]; exact hv), HV.out.eln, hje]
          clear hc3 hje
          generalize nth vs j = x at r3 HX
          have hown := hown2.out.alloc (.cells #[.slice pa n qa, .int .i64 x] 53)
          go_wp2_with (first | (at_builtin; refine wpList_append_lies _ rfl (.tmp 38) (.tmp 40) 31 rfl w.heap.size 53 i0 _ 2 32 Tryd.underlying31 hi hz0 hz1 hz2 rfl (by decide) _ os.length (flatF os) rfl (hown.alloc _) ⟨w2.heap.size + 1, 0, none⟩ 1 1 [.slice pa n qa, .int .i64 x] rfl rfl (cells_two_at (w2.alloc (.cells #[.slice pa n qa, .int .i64 x] 53)) (w2.heap.size + 1) (by simp) _ _ _) (by intro u hu; simp at hu; rcases hu with rfl | rfl <;> rfl) (by decide) (by unfold maxLen; omega) (by omega) (by simp; omega) _ rfl ?_) | go_in)
          intro g4 cap4 w4 hown4 hgrow hat hglt
          have S4 : Aside _ := PU.out _ w4 pa qa g4 cap4 x HX.out (hb3.out.trans (((Below.refl _ _).alloc (by have := hb3.out.size; omega) _).alloc (by have := hb3.out.size; simp; omega) _)) ((O3.out.alloc _).alloc _) hown4 hgrow
          have hol2 : os.length + 1 ≤ 200 := by have := S4.out.2.2; simp at this; omega
          clear PU hown4 hgrow hat hglt hown O3 hb3 hown2
          go_wp2
          go_roundg (200 - (k + 1))
          case measure => omega
          case rel => exact ⟨k + 1, _, by go_num, by omega, by omega, by omega, by simpa using hol2, S4⟩
      · have hltz2 : ¬ (k : Int) < 200 := by omega
        have HR : Aside (FactRes w (factL ds ks vs (min nk 200)) u7 wr) := ⟨os, by rw [SK.out.2.1, show min nk 200 = k by omega], SK.out.1⟩
        clear SK
        go_wp2
        go_ret
        exact ⟨_, rfl, HR.out⟩
    · have hltz : ¬ (k : Int) < (nk : Int) := by omega
      have HR : Aside (FactRes w (factL ds ks vs (min nk 200)) u7 wr) := ⟨os, by rw [SK.out.2.1, show min nk 200 = k by omega], SK.out.1⟩
      clear SK
      go_wp2
      go_ret
      exact ⟨_, rfl, HR.out⟩
end Go.Proofs.YtfchpcmiipnbjaaDoor.table
