/-
  CodeLong: records have as many bytes as what is in them.
-/
import Derived.Test.YtlokamblbhooaaaCodeMake1
import Derived.Test.YtlokamblbhooaaaCodeSame
namespace Go.Proofs.Ytlokamblbhooaaa.code
open Go.ChangeShapes Go.WideShapes Go.ChangeAt Go.RowKit Go.Deep
open Go.Proofs.Ytlokamblbhooaaa.dims (nth Ints cell_lt vals vals_len vals_get vals_one vals_app own_below own_mono own_out own_apart RowOut ret_bool ret_int)
set_option linter.unusedVariables false
set_option maxRecDepth 100000
set_option linter.unusedSimpArgs false

/-- how many bytes facts have -/
def fl : List Ft → Nat
  | [] => 0
  | f :: l => 9 + 4 * f.k.length + fl l
theorem fl_app (a b : List Ft) : fl (a ++ b) = fl a + fl b := by
  induction a with
  | nil => simp [fl]
  | cons x a ih => simp only [List.cons_append, fl, ih]; omega
theorem fl_take (fs : List Ft) (k : Nat) (h : k < fs.length) : fl (fs.take (k + 1)) = fl (fs.take k) + (9 + 4 * (ftn fs k).k.length) := by
  rw [take_ftn fs k h, fl_app]; simp only [fl]; omega
theorem fl_flat (l : List Ft) : (l.flatMap (fun f => factB (pf f))).length = fl l := by
  induction l with
  | nil => rfl
  | cons x l ih =>
    rw [List.flatMap_cons, List.length_append, factB_len, ih]
    rfl
theorem fl_few {l : List Ft} (h : ∀ f ∈ l, f.k.length ≤ 4) : fl l ≤ 25 * l.length := by
  induction l with
  | nil => simp [fl]
  | cons x l ih =>
    have h3 := h x (by simp)
    have h4 := ih fun f hf => h f (by simp [hf])
    simp only [fl, List.length_cons]
    omega
theorem batch_len (r : Rc) (hk : r.kind = 1) : (recB (pr r)).length = 10 + r.nodes.length + fl r.facts := by
  have e1 : (pr r).kind = 1 := hk
  have e2 : (pr r).facts = r.facts.map pf := rfl
  have e3 : (pr r).nodes = r.nodes := rfl
  unfold recB bodyB
  rw [if_pos e1, List.length_append, List.length_append, List.length_append, putI_len, putI_len, e2, e3, nodesB_len]
  unfold factsB
  rw [flatF_map, List.length_append, putI_len, fl_flat]
  omega
theorem keys_few (r : Rc) (h : sndRec (pr r) = true) : ∀ f ∈ r.facts, f.k.length ≤ 4 := fun f hf => (keyOk_iff.1 ((factsOk_iff.1 (snd_parts r h).2.2.1).1 (pf f) (List.mem_map.2 ⟨f, hf, rfl⟩))).2
theorem facts_few (r : Rc) (h : sndRec (pr r) = true) : r.facts.length ≤ 200 := by
  have := (factsOk_iff.1 (snd_parts r h).2.2.1).2
  rwa [List.length_map] at this
def endR (id : Int) : Rc := ⟨4, id, 0, none, 0, [], none, 0, [], 0, none, 0, [], 0, 0, none, 0, []⟩
theorem endR_in (id : Int) (h : U32 id) (w : World) : RecIn w (endR id) := ⟨by simp [endR], h, by simp [endR, U32], .inl rfl, by simp [endR], by simp [endR], .inl rfl, by simp [endR], by simp [endR, U32], .inl rfl, by simp [endR], by simp [endR, I64], by simp [endR, I64], .inl rfl, by simp [endR]⟩
theorem endR_snd (id : Int) : sndRec (pr (endR id)) = true := rfl
theorem endR_len (id : Int) : (recB (pr (endR id))).length = 5 := by
  unfold recB bodyB
  rw [List.length_append, List.length_append, putI_len, putI_len]
  rfl
theorem no_nums (w : World) : dims.Nums .u16 w none 0 0 [] := ⟨.inl rfl, rfl, Nat.le_refl _, Nat.zero_le _, fun i hi => by simp at hi⟩

set_option maxHeartbeats 16000000 in
theorem long_walk (id nodes : Int) (a : Option Addr) (n c : Nat) (fs : List Ft) (w : World) (hid : U32 id) (hn0 : 0 ≤ nodes ∧ nodes ≤ 255) (hI : FactsIn w a fs) (hn : fs.length = n) (hm : n ≤ 9223372036854775807) :
    Calls Try.prog 8 #[.int .u32 id, .int .u8 nodes, .slice a n c] w fun e w' => e = .returned (.bool true) ∧ Below w.heap.size w w' := by
  have hV := heavy_any a n c fs w hI hn hm
  obtain ⟨x, hxw⟩ : ∃ x, wrap64 (fw fs) = x := ⟨_, rfl⟩
  rw [hxw] at hV
  have H : Aside (U32 id ∧ FactsIn w a fs ∧ fs.length = n) := ⟨hid, hI, hn⟩
  have hK := known_any w
  clear hxw hid hI hn
  by_cases hbig : 2000 < x
  · go_enter Try.func8, Try.ntmps8
    go_wp2_with (go_at_call 19; refine hV.mono ?_; rintro e w1 ⟨rfl, hww⟩; have hww2 := hww.symm; clear hww; subst hww2; refine Hid.out ?_)
    refine hid ?_
    clear hV
    go_wp2_with (go_at_call 10; refine hK.mono ?_; rintro e w2 ⟨rfl, g2⟩)
    go_ret
    exact ⟨rfl, g2⟩
  go_enter Try.func8, Try.ntmps8
  go_wp2_with (go_at_call 19; refine hV.mono ?_; rintro e w1 ⟨rfl, hww⟩; have hww2 := hww.symm; clear hww; subst hww2; refine Hid.out ?_)
  refine hid ?_
  clear hV
  go_wp2_with (go_at_call 10; refine hK.mono ?_; rintro e w1 ⟨rfl, g1⟩; refine Hid.out ?_)
  refine hid ?_
  clear hK
  have B1 : Aside (Below w.heap.size w w1) := g1
  have hM := make_1 0 id 0 nodes 0 0 a none none n c 0 0 0 0 fs [] [] w1 (by omega) (by omega) H.out.1 (by unfold U32; omega) hn0 (H.out.2.1.keep g1) H.out.2.2 hm (no_nums w1) (by omega) (by omega) (.inl rfl) rfl (by omega)
  clear g1
  go_wp2_with (go_at_call 15; refine hM.mono ?_; rintro e w2 ⟨v, rfl, hres, g2⟩; refine Hid.out ?_)
  refine hid ?_
  obtain ⟨r, hv, hR, hs, hk⟩ := hres
  subst hv
  have hx := Boxed.new w2 (rcC r) 30
  have hb3 : Below w2.heap.size w2 (w2.alloc (.cells (rcC r) 30)) := (Below.refl _ _).alloc (Nat.le_refl _) _
  have hB2 : Below w.heap.size w w2 := B1.out.trans (g2.mono B1.out.size)
  have HS : Aside (sndRec (pr r) = true ∧ r.kind = 1 ∧ r.nodes.length ≤ 6 ∧ r.facts.length ≤ 200 ∧ (∀ f ∈ r.facts, f.k.length ≤ 4)) := ⟨hs, hk, (snd_parts r hs).1, facts_few r hs, keys_few r hs⟩
  have HB : Aside (Below w.heap.size w (w2.alloc (.cells (rcC r) 30)) ∧ RecIn (w2.alloc (.cells (rcC r) 30)) r) := ⟨hB2.trans (hb3.mono hB2.size), hR.keep hb3⟩
  generalize hW3 : w2.alloc (.cells (rcC r) 30) = W3 at hx HB
  have hW3' : w2.alloc (.cells #[.int .u8 r.kind, .int .u32 r.id, .int .u32 r.at_, .slice r.na r.nodes.length r.nc, .slice r.fa r.facts.length r.fc, .int .u32 r.epoch, .slice r.sa r.spans.length r.sc, .int .i64 r.frm, .int .i64 r.til, .slice r.ea r.ents.length r.ec] 30) = W3 := hW3
  have HW3 : Hid (_ = W3) := hW3'
  have hn6 := HS.out.2.2.1
  have hf2 := HS.out.2.2.2.1
  clear hM hR hs hk hb3 hB2 g2 hW3 hW3' hbig
  unfold rcV rcC
  go_upto_region 4 with fail
  rw [HW3.out]
  have c0 : W3.cell? ⟨w2.heap.size, 0, none⟩ = some (.int .u8 r.kind) := hx.cell (j := 0) rfl
  have c1 : W3.cell? ⟨w2.heap.size, 1, none⟩ = some (.int .u32 r.id) := hx.cell (j := 1) rfl
  have c2 : W3.cell? ⟨w2.heap.size, 2, none⟩ = some (.int .u32 r.at_) := hx.cell (j := 2) rfl
  have c3 : W3.cell? ⟨w2.heap.size, 3, none⟩ = some (.slice r.na r.nodes.length r.nc) := hx.cell (j := 3) rfl
  have c4 : W3.cell? ⟨w2.heap.size, 4, none⟩ = some (.slice r.fa r.facts.length r.fc) := hx.cell (j := 4) rfl
  have c5 : W3.cell? ⟨w2.heap.size, 5, none⟩ = some (.int .u32 r.epoch) := hx.cell (j := 5) rfl
  have c6 : W3.cell? ⟨w2.heap.size, 6, none⟩ = some (.slice r.sa r.spans.length r.sc) := hx.cell (j := 6) rfl
  have c7 : W3.cell? ⟨w2.heap.size, 7, none⟩ = some (.int .i64 r.frm) := hx.cell (j := 7) rfl
  have c8 : W3.cell? ⟨w2.heap.size, 8, none⟩ = some (.int .i64 r.til) := hx.cell (j := 8) rfl
  have c9 : W3.cell? ⟨w2.heap.size, 9, none⟩ = some (.slice r.ea r.ents.length r.ec) := hx.cell (j := 9) rfl
  obtain ⟨nn, hnn⟩ : ∃ nn, r.nodes.length = nn := ⟨_, rfl⟩
  obtain ⟨fn, hfn⟩ : ∃ fn, r.facts.length = fn := ⟨_, rfl⟩
  have HNN : Hid (r.nodes.length = nn ∧ r.facts.length = fn) := ⟨hnn, hfn⟩
  rw [hnn] at c3 hn6
  rw [hfn] at c4 hf2
  clear hx hnn hfn
  go_wp2_with fail
  go_loopg [8, 9] fn (fun g1 vx vi wr => ∃ (k y : Nat), vx = .int .i64 y ∧ vi = .int .i64 k ∧ k ≤ fn ∧ fn - k ≤ g1 ∧ y ≤ 16 + 25 * k ∧ wr = W3 ∧ Aside (y = 10 + nn + fl (r.facts.take k)))
  case atStart => exact ⟨0, 10 + nn, by go_num, rfl, Nat.zero_le _, Nat.le_refl _, by omega, rfl, rfl⟩
  case round =>
    obtain ⟨k, y, rfl, rfl, hk, hg1, hy, hwr, SK⟩ := hrel
    have hwr2 := hwr.symm
    clear hwr
    subst hwr2
    by_cases hlt : k < fn
    · have hltz : (k : Int) < (fn : Int) := by omega
      have hkl : k < r.facts.length := by rw [show r.facts.length = fn from HNN.out.2]; exact hlt
      obtain ⟨b, off, ha, hc⟩ := HB.out.2.facts.get hkl
      rw [ha] at c4
      clear ha
      obtain ⟨r0, r1, r2⟩ := hc k hkl
      have hml := HS.out.2.2.2.2 _ (ftn_mem hkl)
      have HT : Aside (fl (r.facts.take (k + 1)) = fl (r.facts.take k) + (9 + 4 * (ftn r.facts k).k.length)) := fl_take r.facts k hkl
      clear hc r1 r2
      generalize (ftn r.facts k).k.length = t1 at r0 hml HT
      go_wp2
      go_roundg (fn - (k + 1))
      case measure => omega
      case rel =>
        refine ⟨k + 1, y + (9 + 4 * t1), by go_num, by go_num, by omega, by omega, by omega, rfl, ?_⟩
        show _ = _
        rw [HT.out]
        have e := SK.out
        omega
    · have hltz : ¬ (k : Int) < (fn : Int) := by omega
      have hY : (recB (pr r)).length = y := by
        have h := SK.out
        rw [List.take_of_length_le (by rw [show r.facts.length = fn from HNN.out.2]; omega)] at h
        rw [batch_len r HS.out.2.1, h, show r.nodes.length = nn from HNN.out.1]
      have HY : Hid ((recB (pr r)).length = y) := hY
      have hC := encode_ok W3 r HB.out.2 HS.out.1 (by omega)
      have hC2 : Calls Try.prog 11 #[.agg #[.int .u8 r.kind, .int .u32 r.id, .int .u32 r.at_, .slice r.na nn r.nc, .slice r.fa fn r.fc, .int .u32 r.epoch, .slice r.sa r.spans.length r.sc, .int .i64 r.frm, .int .i64 r.til, .slice r.ea r.ents.length r.ec]] W3 fun e w' => ∃ v, e = .returned (.tuple #[v, .int .u16 0]) ∧ Bs W3.heap.size w' v (recB (pr r)) ∧ Below W3.heap.size W3 w' := by
        have e1 := HNN.out.1
        have e2 := HNN.out.2
        rw [← e1, ← e2]
        exact hC
      clear SK hC hY
      go_wp2_with (go_at_call 11; refine hC2.mono ?_; rintro e w4 ⟨va, rfl, hown, g4⟩; refine Hid.out ?_)
      refine hid ?_
      obtain ⟨xa, xc, hv⟩ := Bs.form hown
      subst hv
      rw [show (recB (pr r)).length = y from HY.out]
      have B4 : Aside (Below w.heap.size w w4) := HB.out.1.trans (g4.mono HB.out.1.size)
      have hC5 : Calls Try.prog 11 #[.agg #[.int .u8 4, .int .u32 id, .int .u32 0, .slice none 0 0, .slice none 0 0, .int .u32 0, .slice none 0 0, .int .i64 0, .int .i64 0, .slice none 0 0]] w4 fun e w' => ∃ v, e = .returned (.tuple #[v, .int .u16 0]) ∧ Bs w4.heap.size w' v (recB (pr (endR id))) ∧ Below w4.heap.size w4 w' := encode_ok w4 (endR id) (endR_in id H.out.1 w4) (endR_snd id) (by rw [endR_len]; omega)
      clear hC2 hown g4 c0 c1 c2 c3 c4 c5 c6 c7 c8 c9
      go_wp2_with (go_at_call 11; refine hC5.mono ?_; rintro e w5 ⟨vb, rfl, hown5, g5⟩; refine Hid.out ?_)
      refine hid ?_
      obtain ⟨xb, xd, hv⟩ := Bs.form hown5
      subst hv
      rw [endR_len]
      have B5 : Aside (Below w.heap.size w w5) := B4.out.trans (g5.mono B4.out.size)
      clear hC5 hown5 g5
      go_wp2
      go_ret
      exact ⟨ret_bool (by simp), B5.out⟩
end Go.Proofs.Ytlokamblbhooaaa.code
