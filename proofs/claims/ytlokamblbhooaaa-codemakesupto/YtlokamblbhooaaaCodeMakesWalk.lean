/-
  CodeMakes: Encode of any record that may be is what the chapter says; it comes back; with a byte more, or less, it is none.
-/
import Derived.Test.YtlokamblbhooaaaCodeTwo
namespace Go.Proofs.Ytlokamblbhooaaa.code
open Go.ChangeShapes Go.WideShapes Go.ChangeAt Go.RowKit Go.Deep
open Go.Proofs.Ytlokamblbhooaaa.dims (nth Ints cell_lt vals vals_len vals_get vals_one vals_app own_below own_mono own_out own_apart RowOut ret_bool ret_int)
set_option linter.unusedVariables false
set_option maxRecDepth 100000
set_option linter.unusedSimpArgs false

theorem Strs.keep3 {w w' : World} {v : Value} {l : List UInt8} (h : Strs w v l) (hb : Below w.heap.size w w') : Strs w' v l := fun W hW => h W (hb.trans (hW.mono hb.size))
theorem u16_ok (z : Int) : 0 ≤ IntKind.u16.wrap z ∧ IntKind.u16.wrap z ≤ 65535 := by
  simp [IntKind.wrap, IntKind.signed, IntKind.bits]; omega
/-- a record that may be has few bytes where its entries weigh little -/
theorem mk_room (p : Rc) (hs : sndRec (pr p) = true) (h : p.kind = 7 → ew p.ents ≤ 3000) : (recB (pr p)).length ≤ 59000 := by
  obtain ⟨h1, h2, h3, h4⟩ := snd_parts p hs
  have a1 := factsB_weight p.facts
  have a2 := entsB_weight p.ents
  have a3 := fw_ok h3
  have a5 := nodesB_len p.nodes
  have a6 := spansB_len p.spans
  have e1 : (pr p).nodes = p.nodes := rfl
  have e2 : (pr p).facts = p.facts.map pf := rfl
  have e3 : (pr p).spans = p.spans := rfl
  have e4 : (pr p).ents = p.ents.map pe := rfl
  have e5 : (pr p).kind = p.kind := rfl
  unfold recB bodyB
  rw [List.length_append, List.length_append, putI_len, putI_len, e1, e2, e3, e4, e5]
  by_cases k1 : p.kind = 1
  · rw [if_pos k1, List.length_append]; omega
  rw [if_neg k1]
  by_cases k2 : p.kind = 2
  · rw [if_pos k2, List.length_append, putI_len]; omega
  rw [if_neg k2]
  by_cases k6 : p.kind = 6
  · rw [if_pos k6]
    unfold mapB
    rw [List.length_append, List.length_append, putI_len, putI_len]; omega
  rw [if_neg k6]
  by_cases k7 : p.kind = 7
  · have h5 := h k7
    rw [if_pos k7, List.length_append, List.length_append, putI_len, putI_len]; omega
  · rw [if_neg k7]
    simp only [List.length_nil]
    omega
def MkS (v : Value) (W : World) : Prop := ∃ p, v = rcV p ∧ Mk W p ∧ (recB (pr p)).length ≤ 59000
theorem make_room (kind id at_ nodes frm til : Int) (fa sa ea : Option Addr) (fn fc sn sc en ec : Nat) (fs : List Ft) (ss : List Int) (es : List Et) (w : World) (hk0 : 0 ≤ kind ∧ kind ≤ 255) (hid : U32 id) (hat : U32 at_) (hn0 : 0 ≤ nodes ∧ nodes ≤ 255)
    (hF : FactsIn w fa fs) (hf : fs.length = fn) (hfm : fn ≤ 9223372036854775807) (hS : dims.Nums .u16 w sa sn sc ss) (hfr : 0 ≤ frm ∧ frm ≤ 65535) (hti : 0 ≤ til ∧ til ≤ 65535) (hE : EntsIn w ea es) (he : es.length = en) (hem : en ≤ 9223372036854775807) (hew : ew es ≤ 3000) :
    Calls Try.prog 15 #[.int .u8 kind, .int .u32 id, .int .u32 at_, .int .u8 nodes, .slice fa fn fc, .slice sa sn sc, .int .u16 frm, .int .u16 til, .slice ea en ec] w fun e w' => ∃ v, e = .returned v ∧ MkS v w' ∧ Below w.heap.size w w' := by
  by_cases h7 : kind % 7 = 6
  · exact (make_7w kind id at_ nodes frm til fa sa ea fn fc sn sc en ec fs ss es w h7 hk0 hid hat hn0 hF hf hfm hS hfr hti hE he hem).mono fun e w' ⟨v, h1, ⟨r, h2, h3, h4, h5, h8⟩, h6⟩ => ⟨v, h1, ⟨r, h2, ⟨h3, h4⟩, mk_room r h4 fun _ => Int.le_trans h8 hew⟩, h6⟩
  · exact (make_any kind id at_ nodes frm til fa sa ea fn fc sn sc en ec fs ss es w hk0 hid hat hn0 hF hf hfm hS hfr hti hE he hem).mono fun e w' ⟨v, h1, ⟨r, h2, h3, h4, h5⟩, h6⟩ => ⟨v, h1, ⟨r, h2, ⟨h3, h4⟩, mk_room r h4 fun h => by omega⟩, h6⟩
/-- bytes that are no record's -/
theorem decode_not (w : World) (a : Option Addr) (n c : Nat) (l : List UInt8) (hb : BytesAt w a n c l) (h6 : n ≤ 60000) (hno : ∀ x, sndRec x = true → Typed x → l ≠ recB x) :
    Calls Try.prog 16 #[.slice a n c] w fun e w' => e = .returned (.tuple #[.agg recZ, .int .u16 70]) ∧ Below w.heap.size w w' := by
  cases hd : dec l with
  | none => exact decode_none w a n c l hb.mem hb.low hb.len hb.cap h6 hd
  | some x =>
    refine (decode_some w a n c l hb.mem hb.low hb.len hb.cap h6 x hd).mono fun e w' ⟨r, h1, h2, h3, h4⟩ => ?_
    obtain ⟨e1, e2⟩ := dec_is hd
    have := h3.typed
    rw [h2] at this
    exact absurd e1 (hno x e2 this)
theorem Bs.at_ {B n c : Nat} {w : World} {a : Option Addr} {l : List UInt8} (h : Bs B w (.slice a n c) l) : BytesAt w a n c l := by
  obtain ⟨a2, c2, hv, hb⟩ := h.bytes
  injection hv with e1 e2 e3
  subst e1 e2 e3
  exact hb
theorem BytesAt.front {w : World} {b off : Nat} {n c k : Nat} {l : List UInt8} (h : BytesAt w (some ⟨b, off, none⟩) n c l) (hk : k ≤ n) : BytesAt w (some ⟨b, off, none⟩) k c (l.take k) := by
  have hl := h.len
  have hc := h.cap
  refine ⟨?_, fun h0 p hp => h.low (fun e => h0 (by rw [e]; simp)) p hp, by rw [List.length_take]; omega, by omega⟩
  rcases h.mem with h0 | ⟨b2, off2, ha, hm⟩
  · subst h0; exact .inl (by simp)
  · refine .inr ⟨b2, off2, ha, fun i hi => ?_⟩
    rw [List.length_take] at hi
    rw [hm i (by omega)]
    congr 2
    simp only [bth, List.getD_eq_getElem?_getD]
    rw [List.getElem?_take_of_lt (by omega)]
theorem cells_of {B n c g : Nat} {w : World} {l : List UInt8} (h : Bs B w (.slice (some ⟨g, 0, none⟩) n c) l) : ∀ j u, (Lib.byteCells l)[j]? = some u → w.cell? ((⟨g, 0, none⟩ : Addr).add j) = some u := fun j u hj => World.ownsRow.cells h (by rfl) j u hj

set_option maxHeartbeats 32000000 in
theorem makes_walk (r : Rc) (kind nodes c : Int) (sa : Option Addr) (sn sc : Nat) (ss : List Int) (w : World) (hR : RecIn w r) (hk0 : 0 ≤ kind ∧ kind ≤ 255) (hn0 : 0 ≤ nodes ∧ nodes ≤ 255) (hc0 : 0 ≤ c ∧ c ≤ 255) (hS : dims.Nums .u16 w sa sn sc ss) (hbulk : rw_ r ≤ 1048576) :
    Calls Try.prog 4 #[rcV r, .int .u8 kind, .int .u8 nodes, .slice sa sn sc, .int .u8 c] w fun e w' => e = .returned (.bool true) ∧ Below w.heap.size w w' := by
  obtain ⟨i0, hi, hz0, hz1, hz2⟩ := info_parts info_u8
  have hB : Below w.heap.size w (w.alloc (.cells (rcC r) 30)) := (Below.refl _ _).alloc (Nat.le_refl _) _
  have hx := Boxed.new w (rcC r) 30
  have hR0 := hR.keep hB
  have hV := Heavy_any (w.alloc (.cells (rcC r) 30)) r hR0
  have hwr : wrap64 (rw_ r) = rw_ r ∧ ew r.ents ≤ rw_ r := by
    have h1 := fw_pos r.facts
    have h2 := ew_pos r.ents
    constructor
    · unfold wrap64 rw_ at *; omega
    · unfold rw_; omega
  rw [hwr.1] at hV
  generalize hW0 : w.alloc (.cells (rcC r) 30) = W0 at hB hR0 hx hV
  have hW1 : w.alloc (.cells #[.int .u8 r.kind, .int .u32 r.id, .int .u32 r.at_, .slice r.na r.nodes.length r.nc, .slice r.fa r.facts.length r.fc, .int .u32 r.epoch, .slice r.sa r.spans.length r.sc, .int .i64 r.frm, .int .i64 r.til, .slice r.ea r.ents.length r.ec] 30) = W0 := hW0
  have HW : Hid (_ = W0) := hW1
  have H0 : Aside (Below w.heap.size w W0 ∧ Boxed W0 w.heap.size (rcC r) 30 ∧ RecIn W0 r ∧ dims.Nums .u16 W0 sa sn sc ss) := ⟨hB, hx, hR0, ⟨hS.mem.keep hB, hS.eln, hS.lec, hS.max, hS.wf⟩⟩
  obtain ⟨x, hxw⟩ : ∃ x, rw_ r = x := ⟨_, rfl⟩
  rw [hxw] at hV
  have HX : Aside (ew r.ents ≤ x) := by show _ ≤ _; rw [← hxw]; exact hwr.2
  show Calls _ _ #[.agg #[.int .u8 r.kind, .int .u32 r.id, .int .u32 r.at_, .slice r.na r.nodes.length r.nc, .slice r.fa r.facts.length r.fc, .int .u32 r.epoch, .slice r.sa r.spans.length r.sc, .int .i64 r.frm, .int .i64 r.til, .slice r.ea r.ents.length r.ec], _, _, _, _] _ _
  clear hW0 hW1 hR hR0 hB hx hxw hwr hbulk hS
  by_cases hbig : 3000 < x
  · go_enter Try.func4, Try.ntmps4
    go_wp2_with fail
    rw [HW.out]
    refine hV.mono ?_
    rintro e w1 ⟨rfl, g1⟩
    have hK := known_any w1
    clear hV
    go_wp2_with (go_at_call 10; refine hK.mono ?_; rintro e w2 ⟨rfl, g2⟩)
    go_ret
    exact ⟨rfl, H0.out.1.trans ((g1.trans (g2.mono g1.size)).mono H0.out.1.size)⟩
  go_enter Try.func4, Try.ntmps4
  go_wp2_with fail
  rw [HW.out]
  refine hV.mono ?_
  rintro e w1 ⟨rfl, g1⟩
  have hK := known_any w1
  clear hV
  go_wp2_with (go_at_call 10; refine hK.mono ?_; rintro e w3 ⟨rfl, g2⟩; refine Hid.out ?_)
  refine hid ?_
  have B3 : Aside (Below W0.heap.size W0 w3) := g1.trans (g2.mono g1.size)
  clear hK g1 g2
  have x3 := H0.out.2.1.below B3.out
  have c1 : w3.cell? ⟨w.heap.size, 1, none⟩ = some (.int .u32 r.id) := x3.cell (j := 1) rfl
  have c2 : w3.cell? ⟨w.heap.size, 2, none⟩ = some (.int .u32 r.at_) := x3.cell (j := 2) rfl
  have c4 : w3.cell? ⟨w.heap.size, 4, none⟩ = some (.slice r.fa r.facts.length r.fc) := x3.cell (j := 4) rfl
  have c6 : w3.cell? ⟨w.heap.size, 6, none⟩ = some (.slice r.sa r.spans.length r.sc) := x3.cell (j := 6) rfl
  have c7 : w3.cell? ⟨w.heap.size, 7, none⟩ = some (.int .i64 r.frm) := x3.cell (j := 7) rfl
  have c8 : w3.cell? ⟨w.heap.size, 8, none⟩ = some (.int .i64 r.til) := x3.cell (j := 8) rfl
  have c9 : w3.cell? ⟨w.heap.size, 9, none⟩ = some (.slice r.ea r.ents.length r.ec) := x3.cell (j := 9) rfl
  have R3 := H0.out.2.2.1.keep B3.out
  have N3 := H0.out.2.2.2
  have hM := fun X Y (hX : 0 ≤ X ∧ X ≤ 65535) (hY : 0 ≤ Y ∧ Y ≤ 65535) => make_room kind r.id r.at_ nodes X Y r.fa sa r.ea r.facts.length r.fc sn sc r.ents.length r.ec r.facts ss r.ents w3 hk0 R3.id R3.at_ hn0 R3.facts rfl R3.flen ⟨N3.mem.keep B3.out, N3.eln, N3.lec, N3.max, N3.wf⟩ hX hY R3.ents rfl R3.elen (by have := HX.out; omega)
  clear x3 R3 N3
  go_wp2_with (go_at_call 15; refine (hM _ _ (u16_ok _) (u16_ok _)).mono ?_; rintro e w4 ⟨v4, rfl, hres, g4⟩; refine Hid.out ?_)
  refine hid ?_
  clear hM c1 c2 c4 c6 c7 c8 c9
  obtain ⟨p, hv, hP, hpl⟩ := hres
  subst hv
  have b5 : Below w4.heap.size w4 (w4.alloc (.cells (rcC p) 30)) := (Below.refl _ _).alloc (Nat.le_refl _) _
  have B4 : Below W0.heap.size W0 w4 := B3.out.trans (g4.mono B3.out.size)
  have HP5 : Aside (Below W0.heap.size W0 (w4.alloc (.cells (rcC p) 30)) ∧ Mk (w4.alloc (.cells (rcC p) 30)) p ∧ Boxed (w4.alloc (.cells (rcC p) 30)) w4.heap.size (rcC p) 30) := ⟨B4.trans (b5.mono B4.size), hP.keep b5, Boxed.new w4 (rcC p) 30⟩
  unfold rcV rcC
  go_upto_region 4 with fail
  have hW5 : w4.alloc (.cells #[.int .u8 p.kind, .int .u32 p.id, .int .u32 p.at_, .slice p.na p.nodes.length p.nc, .slice p.fa p.facts.length p.fc, .int .u32 p.epoch, .slice p.sa p.spans.length p.sc, .int .i64 p.frm, .int .i64 p.til, .slice p.ea p.ents.length p.ec] 30) = w4.alloc (.cells (rcC p) 30) := rfl
  rw [hW5]
  obtain ⟨P4, hP4⟩ : ∃ P4, w4.heap.size = P4 := ⟨_, rfl⟩
  rw [hP4] at HP5 ⊢
  generalize w4.alloc (.cells (rcC p) 30) = w5 at HP5 ⊢
  clear hP b5 B4 g4 hW5 hP4 hbig
  have HL : Aside (∃ k, (recB (pr p)).length = k + 1) := ⟨(recB (pr p)).length - 1, by unfold recB; rw [List.length_append, putI_len]; omega⟩
  have c0 : w5.cell? ⟨P4, 0, none⟩ = some (.int .u8 p.kind) := HP5.out.2.2.cell (j := 0) rfl
  have c1 : w5.cell? ⟨P4, 1, none⟩ = some (.int .u32 p.id) := HP5.out.2.2.cell (j := 1) rfl
  have c2 : w5.cell? ⟨P4, 2, none⟩ = some (.int .u32 p.at_) := HP5.out.2.2.cell (j := 2) rfl
  have c3 : w5.cell? ⟨P4, 3, none⟩ = some (.slice p.na p.nodes.length p.nc) := HP5.out.2.2.cell (j := 3) rfl
  have c4 : w5.cell? ⟨P4, 4, none⟩ = some (.slice p.fa p.facts.length p.fc) := HP5.out.2.2.cell (j := 4) rfl
  have c5 : w5.cell? ⟨P4, 5, none⟩ = some (.int .u32 p.epoch) := HP5.out.2.2.cell (j := 5) rfl
  have c6 : w5.cell? ⟨P4, 6, none⟩ = some (.slice p.sa p.spans.length p.sc) := HP5.out.2.2.cell (j := 6) rfl
  have c7 : w5.cell? ⟨P4, 7, none⟩ = some (.int .i64 p.frm) := HP5.out.2.2.cell (j := 7) rfl
  have c8 : w5.cell? ⟨P4, 8, none⟩ = some (.int .i64 p.til) := HP5.out.2.2.cell (j := 8) rfl
  have c9 : w5.cell? ⟨P4, 9, none⟩ = some (.slice p.ea p.ents.length p.ec) := HP5.out.2.2.cell (j := 9) rfl
  have hE1 : Calls Try.prog 11 #[.agg #[.int .u8 p.kind, .int .u32 p.id, .int .u32 p.at_, .slice p.na p.nodes.length p.nc, .slice p.fa p.facts.length p.fc, .int .u32 p.epoch, .slice p.sa p.spans.length p.sc, .int .i64 p.frm, .int .i64 p.til, .slice p.ea p.ents.length p.ec]] w5 _ := encode_ok w5 p HP5.out.2.1.mem HP5.out.2.1.snd (by omega)
  go_wp2_with (go_at_call 11; refine hE1.mono ?_; rintro e w6 ⟨va, rfl, hown, g6⟩; refine Hid.out ?_)
  refine hid ?_
  clear hE1 c0 c1 c2 c3 c4 c5 c6 c7 c8 c9
  obtain ⟨l, hl⟩ : ∃ l, recB (pr p) = l := ⟨_, rfl⟩
  have HLL : Aside (recB (pr p) = l) := hl
  rw [hl] at hown hpl HL
  obtain ⟨k, hk⟩ := HL.out
  obtain ⟨g, cap, hv, -, -⟩ := World.ownsRow.form hown (by omega)
  subst hv
  rw [hk] at hown hpl ⊢
  have hown2 : Bs w5.heap.size w6 (.slice (some ⟨g, 0, none⟩) (k + 1) cap) l := hown
  have hcap : k + 1 ≤ cap := hown2.at_.cap
  have H6 : Aside (Below W0.heap.size W0 w6 ∧ Mk w6 p ∧ Boxed w6 P4 (rcC p) 30 ∧ Bs w5.heap.size w6 (.slice (some ⟨g, 0, none⟩) (k + 1) cap) l ∧ l.length = k + 1) := ⟨HP5.out.1.trans (g6.mono HP5.out.1.size), HP5.out.2.1.keep g6, HP5.out.2.2.below g6, hown2, hk⟩
  clear hown hown2 g6 hl hk HL HP5
  have c0 : w6.cell? ⟨P4, 0, none⟩ = some (.int .u8 p.kind) := H6.out.2.2.1.cell (j := 0) rfl
  have c1 : w6.cell? ⟨P4, 1, none⟩ = some (.int .u32 p.id) := H6.out.2.2.1.cell (j := 1) rfl
  have c2 : w6.cell? ⟨P4, 2, none⟩ = some (.int .u32 p.at_) := H6.out.2.2.1.cell (j := 2) rfl
  have c3 : w6.cell? ⟨P4, 3, none⟩ = some (.slice p.na p.nodes.length p.nc) := H6.out.2.2.1.cell (j := 3) rfl
  have c4 : w6.cell? ⟨P4, 4, none⟩ = some (.slice p.fa p.facts.length p.fc) := H6.out.2.2.1.cell (j := 4) rfl
  have c5 : w6.cell? ⟨P4, 5, none⟩ = some (.int .u32 p.epoch) := H6.out.2.2.1.cell (j := 5) rfl
  have c6 : w6.cell? ⟨P4, 6, none⟩ = some (.slice p.sa p.spans.length p.sc) := H6.out.2.2.1.cell (j := 6) rfl
  have c7 : w6.cell? ⟨P4, 7, none⟩ = some (.int .i64 p.frm) := H6.out.2.2.1.cell (j := 7) rfl
  have c8 : w6.cell? ⟨P4, 8, none⟩ = some (.int .i64 p.til) := H6.out.2.2.1.cell (j := 8) rfl
  have c9 : w6.cell? ⟨P4, 9, none⟩ = some (.slice p.ea p.ents.length p.ec) := H6.out.2.2.1.cell (j := 9) rfl
  have hE2 : Calls Try.prog 12 #[.agg #[.int .u8 p.kind, .int .u32 p.id, .int .u32 p.at_, .slice p.na p.nodes.length p.nc, .slice p.fa p.facts.length p.fc, .int .u32 p.epoch, .slice p.sa p.spans.length p.sc, .int .i64 p.frm, .int .i64 p.til, .slice p.ea p.ents.length p.ec]] w6 fun e w' => ∃ v, e = .returned (.tuple #[v, .int .i64 0]) ∧ Strs w' v l ∧ Below w6.heap.size w6 w' := (refEncode_snd w6 p H6.out.2.1.mem H6.out.2.1.snd (snd_ents p H6.out.2.1.snd) (snd_small p H6.out.2.1.snd)).mono fun e w' ⟨v, h1, h2, h3⟩ => ⟨v, h1.trans (if_pos (by rw [HLL.out, H6.out.2.2.2.2]; omega)), by rw [← HLL.out]; exact h2.strs, h3⟩
  go_wp2_with (go_at_call 12; refine hE2.mono ?_; rintro e w7 ⟨vb, rfl, sb, g7⟩; refine Hid.out ?_)
  refine hid ?_
  have H7 : Aside (Below W0.heap.size W0 w7 ∧ Mk w7 p ∧ Boxed w7 P4 (rcC p) 30 ∧ Bs w5.heap.size w7 (.slice (some ⟨g, 0, none⟩) (k + 1) cap) l ∧ l.length = k + 1 ∧ Strs w7 vb l) := ⟨H6.out.1.trans (g7.mono H6.out.1.size), H6.out.2.1.keep g7, H6.out.2.2.1.below g7, H6.out.2.2.2.1.keep g7, H6.out.2.2.2.2, sb⟩
  clear hE2 sb g7 H6 c0 c1 c2 c3 c4 c5 c6 c7 c8 c9
  have hba := H7.out.2.2.2.1.at_
  have hD1 := decode_some w7 (some ⟨g, 0, none⟩) (k + 1) cap l hba.mem hba.low hba.len hba.cap (by omega) (pr p) (by rw [← HLL.out]; exact dec_recB H7.out.2.1.snd H7.out.2.1.mem.typed)
  clear hba
  go_wp2_with (go_at_call 16; refine hD1.mono ?_; rintro e w8 ⟨q, rfl, hpq, hQ, g8⟩; refine Hid.out ?_)
  refine hid ?_
  have b9 : Below w8.heap.size w8 (w8.alloc (.cells (rcC q) 30)) := (Below.refl _ _).alloc (Nat.le_refl _) _
  have g9 : Below w7.heap.size w7 (w8.alloc (.cells (rcC q) 30)) := g8.trans (b9.mono g8.size)
  have H9 : Aside (Below W0.heap.size W0 (w8.alloc (.cells (rcC q) 30)) ∧ Mk (w8.alloc (.cells (rcC q) 30)) p ∧ Boxed (w8.alloc (.cells (rcC q) 30)) P4 (rcC p) 30 ∧ Bs w5.heap.size (w8.alloc (.cells (rcC q) 30)) (.slice (some ⟨g, 0, none⟩) (k + 1) cap) l ∧ l.length = k + 1 ∧ Strs (w8.alloc (.cells (rcC q) 30)) vb l ∧ Mk (w8.alloc (.cells (rcC q) 30)) q ∧ Boxed (w8.alloc (.cells (rcC q) 30)) w8.heap.size (rcC q) 30 ∧ pr q = pr p) := ⟨H7.out.1.trans (g9.mono H7.out.1.size), H7.out.2.1.keep g9, H7.out.2.2.1.below g9, H7.out.2.2.2.1.keep g9, H7.out.2.2.2.2.1, H7.out.2.2.2.2.2.keep3 g9, ⟨hQ.keep b9, by rw [hpq]; exact H7.out.2.1.snd⟩, Boxed.new w8 (rcC q) 30, hpq⟩
  unfold rcV rcC
  go_upto_region 9 with fail
  have hW9 : w8.alloc (.cells #[.int .u8 q.kind, .int .u32 q.id, .int .u32 q.at_, .slice q.na q.nodes.length q.nc, .slice q.fa q.facts.length q.fc, .int .u32 q.epoch, .slice q.sa q.spans.length q.sc, .int .i64 q.frm, .int .i64 q.til, .slice q.ea q.ents.length q.ec] 30) = w8.alloc (.cells (rcC q) 30) := rfl
  rw [hW9]
  obtain ⟨Q8, hQ8⟩ : ∃ Q8, w8.heap.size = Q8 := ⟨_, rfl⟩
  rw [hQ8] at H9 ⊢
  generalize w8.alloc (.cells (rcC q) 30) = w9 at H9 ⊢
  clear hD1 hpq hQ b9 g9 g8 hW9 hQ8 H7
  have hnews := cells_of H9.out.2.2.2.1
  have hlen : (Lib.byteCells l).length = (k + 1) * 1 := by simp [Lib.byteCells, H9.out.2.2.2.2.1]
  have hones : ∀ u ∈ Lib.byteCells l, u.oneCell' = true := fun u hu => by
    simp only [Lib.byteCells, List.mem_map] at hu
    obtain ⟨y, -, rfl⟩ := hu
    rfl
  go_wp2_with (at_builtin; refine wpList_append_lies _ rfl _ _ 33 rfl w9.heap.size 5 i0 _ 1 1 Try.underlying33 hi hz0 hz1 hz2 rfl (by decide) _ 0 [] rfl (World.ownsRow_nil _ _ _ _) ⟨g, 0, none⟩ (k + 1) cap (Lib.byteCells l) rfl hlen hnews hones (by omega) (by unfold maxLen; omega) (by omega) (Nat.le_refl _) w9.heap.size rfl ?_; intro g2 cap2 w10 hown10 hgr10 _ _; refine Hid.out ?_)
  refine hid ?_
  simp only [Nat.zero_add] at hown10 ⊢
  have b10 : Below w9.heap.size w9 w10 := (Below.refl _ _).grown hgr10 (Nat.le_refl _) fun q hq => by cases hq
  have hbs10 : Bs w9.heap.size w10 (.slice (some ⟨g2, 0, none⟩) (k + 1) cap2) l := by
    unfold Bs
    rw [H9.out.2.2.2.2.1]
    simpa using hown10
  have HB10 : Aside (Below w9.heap.size w9 w10) := b10
  have hown11 : w10.ownsRow w10.heap.size 5 1 (.slice none 0 0) 0 [] := World.ownsRow_nil _ _ _ _
  have hown12 : w10.ownsRow w9.heap.size 5 1 (.slice (some ⟨g2, 0, none⟩) (k + 1) cap2) (k + 1) (Lib.byteCells l) := by simpa using hown10
  have hsz10 := b10.size
  clear hown10 hgr10 b10 hnews hlen hones hbs10 hown11
  go_wp2_with (at_builtin; refine wpList_append_lies _ rfl _ _ 33 rfl w9.heap.size 5 i0 _ 1 1 Try.underlying33 hi hz0 hz1 hz2 rfl (by decide) _ (k + 1) _ rfl (hown12.alloc _) ⟨w10.heap.size, 0, none⟩ 1 1 [Value.int .u8 c] rfl rfl (cell_one_new _ _ _) (by intro u hu; simp at hu; subst hu; rfl) (by omega) (by unfold maxLen; omega) (by omega) (by simp; omega) (w10.heap.size + 1) (by simp) ?_; intro g3 cap3 w11 hown13 hgr11 hat11 hlt11; refine Hid.out ?_)
  refine hid ?_
  have HC : Aside (∃ cb : UInt8, c = (cb.toNat : Int)) := ⟨UInt8.ofNat c.toNat, by simp; omega⟩
  obtain ⟨cb, hcb⟩ := HC.out
  have hbs11 : Bs w9.heap.size w11 (.slice (some ⟨g3, 0, none⟩) (k + 1 + 1) cap3) (l ++ [cb]) := by
    unfold Bs
    have e1 : Lib.byteCells (l ++ [cb]) = Lib.byteCells l ++ [Value.int .u8 c] := by rw [hcb]; simp [Lib.byteCells]
    have e2 : (l ++ [cb]).length = k + 1 + 1 := by simp [H9.out.2.2.2.2.1]
    rw [e1, e2]
    exact hown13
  have b9_11 : Below w9.heap.size w10 w11 := ((Below.refl _ _).alloc hsz10 _).grown hgr11 (by simp; omega) fun q hq => (World.ownsRow.lt hown12 _ hq).1
  have b99 : Below w9.heap.size w9 w11 := HB10.out.trans b9_11
  have H11 : Aside (Below W0.heap.size W0 w11 ∧ Mk w11 p ∧ Boxed w11 P4 (rcC p) 30 ∧ BytesAt w11 (some ⟨g, 0, none⟩) (k + 1) cap l ∧ l.length = k + 1 ∧ Strs w11 vb l ∧ Mk w11 q ∧ Boxed w11 Q8 (rcC q) 30 ∧ pr q = pr p) := ⟨H9.out.1.trans (b99.mono H9.out.1.size), H9.out.2.1.keep b99, H9.out.2.2.1.below b99, (H9.out.2.2.2.1.keep b99).at_, H9.out.2.2.2.2.1, H9.out.2.2.2.2.2.1.keep3 b99, H9.out.2.2.2.2.2.2.1.keep b99, H9.out.2.2.2.2.2.2.2.1.below b99, H9.out.2.2.2.2.2.2.2.2⟩
  have hD2 := decode_not w11 (some ⟨g3, 0, none⟩) (k + 1 + 1) cap3 (l ++ [cb]) hbs11.at_ (by omega) (fun y hy ty e => by
    have h := recB_more H11.out.2.1.snd H11.out.2.1.mem.typed hy ty (c := [cb]) (by rw [HLL.out]; exact e)
    cases h)
  clear hbs11 b9_11 b99 HB10 H9 hown12 hown13 hgr11 hat11 hlt11 hsz10 hcb
  go_wp2_with (go_at_call 16; refine hD2.mono ?_; rintro e w12 ⟨rfl, g12⟩; refine Hid.out ?_)
  refine hid ?_
  have b13 : Below w12.heap.size w12 (w12.alloc (.cells recZ 30)) := (Below.refl _ _).alloc (Nat.le_refl _) _
  have g13 : Below w11.heap.size w11 (w12.alloc (.cells recZ 30)) := g12.trans (b13.mono g12.size)
  have H13 : Aside (Below W0.heap.size W0 (w12.alloc (.cells recZ 30)) ∧ Mk (w12.alloc (.cells recZ 30)) p ∧ Boxed (w12.alloc (.cells recZ 30)) P4 (rcC p) 30 ∧ BytesAt (w12.alloc (.cells recZ 30)) (some ⟨g, 0, none⟩) (k + 1) cap l ∧ l.length = k + 1 ∧ Strs (w12.alloc (.cells recZ 30)) vb l ∧ Mk (w12.alloc (.cells recZ 30)) q ∧ Boxed (w12.alloc (.cells recZ 30)) Q8 (rcC q) 30 ∧ pr q = pr p) := ⟨H11.out.1.trans (g13.mono H11.out.1.size), H11.out.2.1.keep g13, H11.out.2.2.1.below g13, H11.out.2.2.2.1.keep g13, H11.out.2.2.2.2.1, H11.out.2.2.2.2.2.1.keep3 g13, H11.out.2.2.2.2.2.2.1.keep g13, H11.out.2.2.2.2.2.2.2.1.below g13, H11.out.2.2.2.2.2.2.2.2⟩
  unfold recZ at H13 ⊢
  clear hD2 g12 b13 g13 H11
  go_upto_region 13 with fail
  generalize w12.alloc (.cells #[.int .u8 0, .int .u32 0, .int .u32 0, .slice none 0 0, .slice none 0 0, .int .u32 0, .slice none 0 0, .int .i64 0, .int .i64 0, .slice none 0 0] 30) = w13 at H13 ⊢
  have hD3 := decode_not w13 (some ⟨g, 0, none⟩) k cap (l.take k) (H13.out.2.2.2.1.front (by omega)) (by omega) (fun y hy ty e => by
    have h := recB_more hy ty H13.out.2.1.snd H13.out.2.1.mem.typed (c := l.drop k) (by rw [← e, List.take_append_drop, HLL.out])
    have h2 := congrArg List.length h
    rw [List.length_drop, H13.out.2.2.2.2.1, List.length_nil] at h2
    omega)
  go_wp2_with (go_at_call 16; refine hD3.mono ?_; rintro e w14 ⟨rfl, g14⟩; refine Hid.out ?_)
  refine hid ?_
  have b15 : Below w14.heap.size w14 (w14.alloc (.cells recZ 30)) := (Below.refl _ _).alloc (Nat.le_refl _) _
  have g15 : Below w13.heap.size w13 (w14.alloc (.cells recZ 30)) := g14.trans (b15.mono g14.size)
  have H15 : Aside (Below W0.heap.size W0 (w14.alloc (.cells recZ 30)) ∧ Mk (w14.alloc (.cells recZ 30)) p ∧ Boxed (w14.alloc (.cells recZ 30)) P4 (rcC p) 30 ∧ BytesAt (w14.alloc (.cells recZ 30)) (some ⟨g, 0, none⟩) (k + 1) cap l ∧ l.length = k + 1 ∧ Strs (w14.alloc (.cells recZ 30)) vb l ∧ Mk (w14.alloc (.cells recZ 30)) q ∧ Boxed (w14.alloc (.cells recZ 30)) Q8 (rcC q) 30 ∧ pr q = pr p) := ⟨H13.out.1.trans (g15.mono H13.out.1.size), H13.out.2.1.keep g15, H13.out.2.2.1.below g15, H13.out.2.2.2.1.keep g15, H13.out.2.2.2.2.1, H13.out.2.2.2.2.2.1.keep3 g15, H13.out.2.2.2.2.2.2.1.keep g15, H13.out.2.2.2.2.2.2.2.1.below g15, H13.out.2.2.2.2.2.2.2.2⟩
  unfold recZ at H15 ⊢
  clear hD3 g14 b15 g15 H13
  go_upto_region 14 with fail
  generalize w14.alloc (.cells #[.int .u8 0, .int .u32 0, .int .u32 0, .slice none 0 0, .slice none 0 0, .int .u32 0, .slice none 0 0, .int .i64 0, .int .i64 0, .slice none 0 0] 30) = w15 at H15 ⊢
  have hcv1 := str_of H15.out.2.2.2.1.mem (k + 1) cap H15.out.2.2.2.2.1
  have hcv2 := H15.out.2.2.2.2.2.1 w15 (Below.refl _ _)
  have hS := same_mk w15 p q H15.out.2.1 H15.out.2.2.2.2.2.2.1 true ⟨fun _ => H15.out.2.2.2.2.2.2.2.2.symm, fun _ => rfl⟩

  have c0 : w15.cell? ⟨P4, 0, none⟩ = some (.int .u8 p.kind) := H15.out.2.2.1.cell (j := 0) rfl
  have c1 : w15.cell? ⟨P4, 1, none⟩ = some (.int .u32 p.id) := H15.out.2.2.1.cell (j := 1) rfl
  have c2 : w15.cell? ⟨P4, 2, none⟩ = some (.int .u32 p.at_) := H15.out.2.2.1.cell (j := 2) rfl
  have c3 : w15.cell? ⟨P4, 3, none⟩ = some (.slice p.na p.nodes.length p.nc) := H15.out.2.2.1.cell (j := 3) rfl
  have c4 : w15.cell? ⟨P4, 4, none⟩ = some (.slice p.fa p.facts.length p.fc) := H15.out.2.2.1.cell (j := 4) rfl
  have c5 : w15.cell? ⟨P4, 5, none⟩ = some (.int .u32 p.epoch) := H15.out.2.2.1.cell (j := 5) rfl
  have c6 : w15.cell? ⟨P4, 6, none⟩ = some (.slice p.sa p.spans.length p.sc) := H15.out.2.2.1.cell (j := 6) rfl
  have c7 : w15.cell? ⟨P4, 7, none⟩ = some (.int .i64 p.frm) := H15.out.2.2.1.cell (j := 7) rfl
  have c8 : w15.cell? ⟨P4, 8, none⟩ = some (.int .i64 p.til) := H15.out.2.2.1.cell (j := 8) rfl
  have c9 : w15.cell? ⟨P4, 9, none⟩ = some (.slice p.ea p.ents.length p.ec) := H15.out.2.2.1.cell (j := 9) rfl
  have d0 : w15.cell? ⟨Q8, 0, none⟩ = some (.int .u8 q.kind) := H15.out.2.2.2.2.2.2.2.1.cell (j := 0) rfl
  have d1 : w15.cell? ⟨Q8, 1, none⟩ = some (.int .u32 q.id) := H15.out.2.2.2.2.2.2.2.1.cell (j := 1) rfl
  have d2 : w15.cell? ⟨Q8, 2, none⟩ = some (.int .u32 q.at_) := H15.out.2.2.2.2.2.2.2.1.cell (j := 2) rfl
  have d3 : w15.cell? ⟨Q8, 3, none⟩ = some (.slice q.na q.nodes.length q.nc) := H15.out.2.2.2.2.2.2.2.1.cell (j := 3) rfl
  have d4 : w15.cell? ⟨Q8, 4, none⟩ = some (.slice q.fa q.facts.length q.fc) := H15.out.2.2.2.2.2.2.2.1.cell (j := 4) rfl
  have d5 : w15.cell? ⟨Q8, 5, none⟩ = some (.int .u32 q.epoch) := H15.out.2.2.2.2.2.2.2.1.cell (j := 5) rfl
  have d6 : w15.cell? ⟨Q8, 6, none⟩ = some (.slice q.sa q.spans.length q.sc) := H15.out.2.2.2.2.2.2.2.1.cell (j := 6) rfl
  have d7 : w15.cell? ⟨Q8, 7, none⟩ = some (.int .i64 q.frm) := H15.out.2.2.2.2.2.2.2.1.cell (j := 7) rfl
  have d8 : w15.cell? ⟨Q8, 8, none⟩ = some (.int .i64 q.til) := H15.out.2.2.2.2.2.2.2.1.cell (j := 8) rfl
  have d9 : w15.cell? ⟨Q8, 9, none⟩ = some (.slice q.ea q.ents.length q.ec) := H15.out.2.2.2.2.2.2.2.1.cell (j := 9) rfl
  go_wp2_with (go_at_call 17; refine hS.mono ?_; rintro e w16 ⟨rfl, g16⟩)
  go_ret
  exact ⟨ret_bool (by simp), H0.out.1.trans ((H15.out.1.trans (g16.mono H15.out.1.size)).mono H0.out.1.size)⟩
end Go.Proofs.Ytlokamblbhooaaa.code
