/-
  The walk of table.gather.
-/
import Derived.Test.YtfchpcmiipnbjaaDoorTableGather
namespace Go.Proofs.YtfchpcmiipnbjaaDoor.table
open Go.ChangeShapes Go.WideShapes Go.ChangeAt Go.RowKit Go.Deep
open Go.Proofs.YtfchpcmiipnbjaaDoor.dims (nth Ints cell_lt cmpL own_below)
open Go.Proofs.YtfchpcmiipnbjaaDoor.cell (C4 mrg all one zero In64 merge_any)
set_option linter.unusedVariables false
set_option maxRecDepth 100000

/-- what is asked of the function that tells keys -/
def Tells (w : World) (g : Nat) (cb : Array Value) (tl : List Int → List Int) (rs : List Rw) : Prop :=
  ∀ W r, Below w.heap.size w W → r ∈ rs → Calls Tryd.prog g (#[.slice r.a r.k.length r.cap] ++ cb) W fun e W' => ∃ v, e = .returned v ∧ KeyOut W' v (tl r.k) ∧ Below W.heap.size W W'

theorem seen_told {w W : World} {rs : List Rw} {tl : List Int → List Int} {n kb j k : Nat} {ks : List Rw} (h : GS w rs tl n kb j k ks W) (hn : rs.length = n) (hj : j = n) (q : List Int) (hq : acc (told tl rs) q ≠ none) : q ∈ ks.map (·.k) := by
  rw [h.eqk, List.take_of_length_le (by omega)]
  have : ¬ q ∉ (told tl rs).map (·.1) := fun e => hq (acc_none e)
  have := Classical.not_not.1 this
  simpa [told] using this

set_option maxHeartbeats 4000000 in
theorem gather_any (a : Option Addr) (n cap : Nat) (rs : List Rw) (g : Nat) (cb : Array Value) (tl : List Int → List Int) (w : World) (hp : Pow w) (hR : RowsIn w a rs) (hn : rs.length = n) (hn2 : n ≤ 100000)
    (eg : ∀ args w, (callFunc g args).run Tryd.prog w = .ok (.enter g args) w) (hT : Tells w g cb tl rs) (ht : ∀ r ∈ rs, (tl r.k).length ≤ 1000000) :
    Calls Tryd.prog 29 #[.slice a n cap, .func (.func g) #[] cb] w fun e w' => ∃ v, e = .returned v ∧ TabOut w' v (tab (told tl rs)) ∧ Below w.heap.size w w' := by
  obtain ⟨i0, hi, hz0, hz1, hz2⟩ := info_parts info_keys
  have HH : Aside (Pow w ∧ RowsIn w a rs ∧ rs.length = n ∧ Tells w g cb tl rs ∧ ∀ r ∈ rs, (tl r.k).length ≤ 1000000) := ⟨hp, hR, hn, hT, ht⟩
  clear hp hR hn hT ht
  have hmm := @run_makeMap Tryd.prog
  have hM0 := MapIs.made w
  go_enter Tryd.func29, Tryd.ntmps29
  go_wp2_with (at_make; refine wpList_make_full _ rfl _ _ 78 rfl (w.heap.size + 1) 38 i0 (.slice none 0 0) 1 Tryd.underlying78 hi hz0 hz1 .i64 .i64 _ _ n rfl rfl rfl rfl (by rw [hz2]; omega) (by unfold maxLen; omega) (by simp) ?_; intro w1 hown1 hg1; refine Hid.out ?_)
  refine Lib.hid ?_
  have hb1 : Below (w.alloc (.map #[] 0)).heap.size (w.alloc (.map #[] 0)) w1 := (Below.refl _ _).grown hg1 (Nat.le_refl _) (fun q hq => by cases hq)
  have S1 : Aside (GS w rs tl n (w.heap.size + 1) 0 0 [] w1) := by
    refine ⟨?_, hM0.keep hb1, rfl, rfl, by simp, ((Below.refl _ _).alloc (Nat.le_refl _) _).trans (hb1.mono (by simp))⟩
    have e : (madeCells #[Value.slice none 0 0] (n * 1)).toList = kvals [] n := by rw [toList_madeCells_one]; simp [kvals]
    have h := hown1
    rw [show (Value.slice none 0 0).cells = #[Value.slice none 0 0] from rfl, e] at h
    simpa using h
  clear hown1 hg1 hM0 hb1 hmm
  have hwe : (w.alloc (.map #[] 0)).heap.size = w.heap.size + 1 := by simp
  go_wp2_with fail
  go_loopg [16] n (fun g1 vi wr => ∃ (k : Nat) (ks : List Rw), vi = .int .i64 k ∧ k ≤ n ∧ n - k ≤ g1 ∧ Aside (GS w rs tl n (w.heap.size + 1) k k ks wr))
  case atStart => exact ⟨0, [], rfl, Nat.zero_le _, Nat.le_refl _, S1⟩
  case round =>
    clear S1 hwe
    obtain ⟨k, ks, rfl, hk, hg1, SK⟩ := hrel
    by_cases hlt : k < n
    · have hltz : (k : Int) < (n : Int) := by omega
      have hkl : k < rs.length := by rw [HH.out.2.2.1]; exact hlt
      obtain ⟨b, off, ha, hc⟩ := (HH.out.2.1.keep SK.out.bel).get hkl
      subst ha
      obtain ⟨⟨r0, r1, r2, r3, r4⟩, -⟩ := hc k hkl
      clear hc
      have hT := fun o => HH.out.2.2.2.1 (wr.alloc o) (rwn rs k) (SK.out.bel.alloc SK.out.bel.size o) (rwn_mem hkl)
      have hl2n : (tl (rwn rs k).k).length ≤ 1000000 := HH.out.2.2.2.2 _ (rwn_mem hkl)
      have ST : Aside (∀ (W2 : World) (r : Rw), r.k = tl (rwn rs k).k → Below wr.heap.size wr W2 → KeyOk W2 r.a r.k.length r.cap r.k → _) := fun W2 r hr hb hkey => SK.out.store hlt HH.out.2.2.1 hr hb hkey
      have PU : Aside (∀ (W W2 : World) ks', GS w rs tl n (w.heap.size + 1) (k + 1) k ks' W → _ → _ → GS w rs tl n (w.heap.size + 1) (k + 1) (k + 1) ks' W2) := fun W W2 ks' h hM hg => h.put hkl hM hg
      obtain ⟨l2, hl2⟩ : ∃ l2, tl (rwn rs k).k = l2 := ⟨_, rfl⟩
      obtain ⟨r, hr⟩ : ∃ r, rwn rs k = r := ⟨_, rfl⟩
      rw [hl2] at ST PU hl2n hT
      rw [hr] at r0 r1 r2 r3 r4 hT PU
      obtain ⟨nk, hnk⟩ : ∃ nk, r.k.length = nk := ⟨_, rfl⟩
      rw [hnk] at r0 hT
      obtain ⟨c0, hc0⟩ : ∃ c0, (acc (told tl (rs.take k)) l2).getD zero = c0 := ⟨_, rfl⟩
      rw [hc0] at PU
      have HC0 : Hid ((acc (told tl (rs.take k)) l2).getD zero = c0) := hc0
      obtain ⟨rc, hrc⟩ : ∃ rc, r.c = rc := ⟨_, rfl⟩
      rw [hrc] at r1 r2 r3 r4 PU
      clear hl2 hr hnk hc0 hrc
      have hwz := SK.out.bel.size
      go_wp2_with fail
      refine (hT _).mono ?_
      rintro e w2 ⟨v, rfl, ⟨a2, c2, rfl, hK2⟩, hb2⟩
      have hbA : Below wr.heap.size wr w2 := ((Below.refl _ _).alloc (Nat.le_refl _) _).trans (hb2.mono (by simp))
      have hz2 : wr.heap.size < w2.heap.size := by have := hb2.size; simp at this; omega
      obtain ⟨f1, f2, S3, K3⟩ := ST.out w2 ⟨a2, c2, l2, zero⟩ rfl hbA hK2
      have hlt2 : wr.heap.size < (wr.alloc (.cells #[.slice r.a nk r.cap, .int .i64 rc.n, .int .i64 rc.s, .int .i64 rc.lo, .int .i64 rc.hi] 57)).heap.size := by simp
      have d1 : w2.cell? ⟨wr.heap.size, 1, none⟩ = some (.int .i64 rc.n) := (hb2.cell (p := ⟨wr.heap.size, 1, none⟩) hlt2).trans (by simp [go_sem])
      have d2 : w2.cell? ⟨wr.heap.size, 2, none⟩ = some (.int .i64 rc.s) := (hb2.cell (p := ⟨wr.heap.size, 2, none⟩) hlt2).trans (by simp [go_sem])
      have d3 : w2.cell? ⟨wr.heap.size, 3, none⟩ = some (.int .i64 rc.lo) := (hb2.cell (p := ⟨wr.heap.size, 3, none⟩) hlt2).trans (by simp [go_sem])
      have d4 : w2.cell? ⟨wr.heap.size, 4, none⟩ = some (.int .i64 rc.hi) := (hb2.cell (p := ⟨wr.heap.size, 4, none⟩) hlt2).trans (by simp [go_sem])
      have hkbl : w.heap.size + 1 < wr.heap.size := (SK.out.own.lt _ rfl).2
      have hTx : Calls Tryd.prog 45 #[.slice a2 l2.length c2] (w2.setCell ⟨w.heap.size + 1, k, none⟩ (.slice a2 l2.length c2)) fun e w' => e = .returned (.string (kstr l2)) ∧ Below (w2.setCell ⟨w.heap.size + 1, k, none⟩ (.slice a2 l2.length c2)).heap.size (w2.setCell ⟨w.heap.size + 1, k, none⟩ (.slice a2 l2.length c2)) w' := text_any a2 l2.length c2 l2 _ K3 (HH.out.1.keep S3.bel) hl2n
      have hkt : (ktext l2).length ≤ maxLen := by
        have := ktext_len l2 hK2.wf
        unfold maxLen; omega
      have S3A : Aside _ := S3
      have DA : Aside (w2.cell? ⟨wr.heap.size, 1, none⟩ = some (.int .i64 rc.n) ∧ w2.cell? ⟨wr.heap.size, 2, none⟩ = some (.int .i64 rc.s) ∧ w2.cell? ⟨wr.heap.size, 3, none⟩ = some (.int .i64 rc.lo) ∧ w2.cell? ⟨wr.heap.size, 4, none⟩ = some (.int .i64 rc.hi)) := ⟨d1, d2, d3, d4⟩
      clear hb2 hbA hK2 S3 K3 hT r0 r1 r2 r3 r4 ST d1 d2 d3 d4
      have S3 : Aside (GS w rs tl n (w.heap.size + 1) (k + 1) k (ks ++ [⟨a2, c2, l2, zero⟩]) (w2.setCell ⟨w.heap.size + 1, k, none⟩ (.slice a2 l2.length c2))) := S3A.out
      clear S3A
      obtain ⟨m2, hm2⟩ : ∃ m2, l2.length = m2 := ⟨_, rfl⟩
      rw [hm2] at hTx S3 hl2n ⊢
      clear hm2
      go_wp2_with fail
      refine hTx.mono ?_
      rintro e w4 ⟨rfl, hb4⟩
      have S4 : Aside (GS w rs tl n (w.heap.size + 1) (k + 1) k (ks ++ [⟨a2, c2, l2, zero⟩]) w4) := S3.out.keep hb4
      have hC : ∀ j v, w2.cell? ⟨wr.heap.size, j, none⟩ = some v → w4.cell? ⟨wr.heap.size, j, none⟩ = some v := fun j v hv => by
        rw [hb4.cell (p := ⟨wr.heap.size, j, none⟩) (by show wr.heap.size < (w2.setCell _ _).heap.size; simp; omega), World.cell?_setCell_other _ _ _ _ (by intro e2; injection e2 with e3; omega)]
        exact hv
      have d1 := hC _ _ DA.out.1
      have d2 := hC _ _ DA.out.2.1
      have d3 := hC _ _ DA.out.2.2.1
      have d4 := hC _ _ DA.out.2.2.2
      have hM4 := S4.out.map
      clear hTx hb4 hC DA S3 f1 f2
      go_wp2_with (first
        | (at_lookup; refine wpList_look _ rfl _ _ rfl w.heap.size k _ rfl hM4 l2 c0 rfl hkt HC0.out ?_)
        | (go_at_call 46; refine (merge_any c0 rc _).mono ?_; rintro e w5 ⟨rfl, hb5⟩; refine Hid.out ?_))
      refine Lib.hid ?_
      have S5 : Aside (GS w rs tl n (w.heap.size + 1) (k + 1) k (ks ++ [⟨a2, c2, l2, zero⟩]) w5) := S4.out.keep hb5
      have hM5 := S5.out.map
      clear hM4 S4 hb5 d1 d2 d3 d4
      go_wp2_with (at_mapUpdate; refine wpList_upd _ rfl _ _ _ rfl w.heap.size k _ rfl hM5 (by unfold maxLen; omega) l2 (mrg c0 rc) rfl rfl hkt ?_; intro w6 hM6 hg6)
      have S6 : Aside (GS w rs tl n (w.heap.size + 1) (k + 1) (k + 1) (ks ++ [⟨a2, c2, l2, zero⟩]) w6) := PU.out w5 w6 _ S5.out hM6 hg6
      clear hM5 hM6 hg6 S5 PU
      go_roundg (n - (k + 1))
      case measure => omega
      case rel => exact ⟨k + 1, ks ++ [⟨a2, c2, l2, zero⟩], by go_num, by omega, by omega, S6⟩
    · have hltz : ¬ (k : Int) < (n : Int) := by omega
      have hkn : k = n := by omega
      have hle : rs.take k = rs := List.take_of_length_le (by rw [HH.out.2.2.1]; omega)
      have hks : ∀ r ∈ ks, r.k.length ≤ 1000000 := fun r hr => by
        have : r.k ∈ ks.map (·.k) := List.mem_map.2 ⟨r, hr, rfl⟩
        rw [SK.out.eqk, hle] at this
        obtain ⟨x, hx, e⟩ := List.mem_map.1 this
        rw [← e]; exact HH.out.2.2.2.2 x hx
      have hM := SK.out.map
      rw [hle] at hM
      have hC := rise_any w (some ⟨w.heap.size + 1, 0, none⟩) n n w.heap.size k ks (acc (told tl rs)) wr HH.out.1 SK.out.bel (SK.out.keys hkn) (by rw [SK.out.len]; omega) hn2 hks hM (by omega) (Nat.le_refl _) (seen_told SK.out HH.out.2.2.1 hkn)
      clear hM hks hle hkn
      go_wp2_with (go_at_call 47; refine hC.mono ?_; rintro e w5 ⟨v, rfl, hR, hb5⟩)
      go_ret
      obtain ⟨t, h1, h2, h3⟩ := hR
      rw [tab_unique h2 h3] at h1
      exact ⟨_, rfl, h1, hb5⟩
end Go.Proofs.YtfchpcmiipnbjaaDoor.table
