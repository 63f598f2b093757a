/-
  The contract of spans.Split.
-/
import Derived.Test.YtfhihkogdnbghaaSpanGiven
import Derived.Test.YtfhihkogdnbghaaSpanMoves
import Derived.Laws.ResultCell
namespace Go.Proofs.Ytfhihkogdnbghaa.spans
open Go.ChangeShapes Go.WideShapes Go.ChangeAt Go.RowKit Go.Deep
open Go.Proofs.Ytfhihkogdnbghaa.bytes (ret_bool hid nth addr_add cell_lt own_below own_mono)
set_option linter.unusedVariables false
set_option maxRecDepth 100000
set_option linter.unusedSimpArgs false

theorem results_cell_map2 {fn : Func} {p u : Tmp} (h : fn.results = #[.cell p 29, .tmp u]) (tmps : Array Value) (w : World) (g : Nat) (ep : Int) (a : Option Addr) (n c : Nat) (r : Value) (hp : tmps.getD p undef = .pointer (some ⟨g, 0, none⟩)) (hr : tmps.getD u undef = r) (hc : Bx w g (mapC ep a n c) 29) : (results fn tmps).run Try.prog w = .ok (.tuple #[mapV ep a n c, r]) w := by
  have hp' : tmps[p]?.getD undef = .pointer (some ⟨g, 0, none⟩) := by simpa using hp
  have hr' : tmps[u]?.getD undef = r := by simpa using hr
  have h0 := hc.cell (j := 0) (x := .int .u32 ep) rfl
  have h1 := hc.cell (j := 1) (x := .slice a n c) rfl
  unfold mapV
  simp [results, h, hp', hr', asAddr]
  go_simp
theorem Bx.set2 {w : World} {g : Nat} {x y : Value} {t : TypeId} (h : Bx w g #[x, y] t) (x' y' : Value) : Bx ((w.setCell ⟨g, 0, none⟩ x').setCell ⟨g, 1, none⟩ y') g #[x', y'] t := by
  have h1 := heap_setCell_same w g 0 #[x, y] t x' h
  exact heap_setCell_same _ g 1 _ t y' h1
/-- what a split answers -/
def SpOut (k : IntKind) (r : Int × List Sp × Int) (w : World) (e : Ending) (w' : World) : Prop := ∃ a n c, e = .returned (.tuple #[mapV r.1 a n c, .int k r.2.2]) ∧ Sps w' a n c r.2.1 ∧ (∀ p, a = some p → w.heap.size ≤ p.block) ∧ Below w.heap.size w w'
theorem So.sps {B n c g : Nat} {w : World} {l : List Sp} (h : So B w (.slice (some ⟨g, 0, none⟩) n c) l) (ht : ∀ s ∈ l, I64 s.1 ∧ I64 s.2) : Sps w (some ⟨g, 0, none⟩) n c l := by
  obtain ⟨h1, h2, h3⟩ := h.cap
  obtain ⟨a2, c2, e, hS⟩ := h.out ht
  injection e with e1 e2 e3
  rw [e1, e2, e3]; exact hS
theorem Sps.other {w : World} {a : Option Addr} {n c : Nat} {l : List Sp} (h : Sps w a n c l) {g : Nat} (hne : ∀ p, a = some p → p.block ≠ g) (o : Nat) (v : Value) : Sps (w.setCell ⟨g, o, none⟩ v) a n c l := by
  refine ⟨?_, h.len, h.cap, h.big⟩
  rcases h.mem with h0 | ⟨b, off, ha, hc⟩
  · exact .inl h0
  · have hb : b ≠ g := hne _ ha
    refine .inr ⟨b, off, ha, fun i hi => ?_⟩
    obtain ⟨h1, h2, h3⟩ := hc i hi
    exact ⟨(World.cell?_setCell_other _ _ _ _ (by intro e; simp only [Addr.mk.injEq] at e; omega)).trans h1, (World.cell?_setCell_other _ _ _ _ (by intro e; simp only [Addr.mk.injEq] at e; omega)).trans h2, h3⟩
theorem sps_none (w : World) : Sps w none 0 0 [] := ⟨.inl rfl, rfl, Nat.le_refl _, by omega⟩

set_option maxRecDepth 100000 in
set_option maxHeartbeats 8000000 in
theorem split_any (ep : Int) (a : Option Addr) (n c : Nat) (l : List Sp) (size nodes frm till node : Int) (w : World) (h : Sps w a n c l) (hep : U32 ep) (hnM : n ≤ maxLen) :
    Calls Try.prog 14 #[mapV ep a n c, .int .i64 size, .int .i64 nodes, .int .i64 frm, .int .i64 till, .int .i64 node] w (SpOut .u16 (splitE ep l size nodes frm till node) w) := by
  obtain ⟨W0, hW0⟩ : ∃ W0, w.alloc (.cells (mapC ep a n c) 29) = W0 := ⟨_, rfl⟩
  have hb0 : Below w.heap.size w W0 := by rw [← hW0]; exact (Below.refl _ w).alloc (Nat.le_refl _) _
  have hM0 : Bx W0 w.heap.size (mapC ep a n c) 29 := by rw [← hW0]; exact Bx.new _ _ _
  have s0 : W0.heap.size = w.heap.size + 1 := by rw [← hW0]; simp
  obtain ⟨W1, hW1⟩ : ∃ W1, W0.alloc (.cells (mapC 0 none 0 0) 29) = W1 := ⟨_, rfl⟩
  have hb1 : Below w.heap.size w W1 := by rw [← hW1]; exact hb0.alloc hb0.size _
  have hM : Bx W1 w.heap.size (mapC ep a n c) 29 := by rw [← hW1]; exact hM0.below ((Below.refl _ _).alloc (Nat.le_refl _) _)
  have hR : Bx W1 (w.heap.size + 1) (mapC 0 none 0 0) 29 := by rw [← hW1, ← s0]; exact Bx.new _ _ _
  have P : Aside (∀ W, Below W1.heap.size W1 W → Bx W w.heap.size (mapC ep a n c) 29 ∧ Bx W (w.heap.size + 1) (mapC 0 none 0 0) 29) := fun W hb => ⟨hM.below hb, hR.below hb⟩
  have q0 := hM.cell (j := 0) (x := .int .u32 ep) rfl
  have q1 := hM.cell (j := 1) (x := .slice a n c) rfl
  have hMv := moves_any ep a n c l size nodes frm till node W1 (h.keep hb1) hnM
  have HW : Hid ((w.alloc (.cells #[.int .u32 ep, .slice a n c] 29)).alloc (.cells #[.int .u32 0, .slice none 0 0] 29) = W1) := by show _ = _; rw [← hW1, ← hW0]; rfl
  have HB : Aside (Below w.heap.size w W1) := hb1
  have HSp : Aside (splitE ep l size nodes frm till node = if mayB l size nodes frm till node = true then (if 40 < (given l size frm till node).length then (0, [], 3) else ((ep + 1) % 4294967296, given l size frm till node, 0)) else (0, [], 120)) := rfl
  unfold mapV at hMv ⊢
  obtain ⟨mb, hmb⟩ : ∃ mb, mayB l size nodes frm till node = mb := ⟨_, rfl⟩
  generalize splitE ep l size nodes frm till node = r at HSp ⊢
  rw [hmb] at hMv HSp
  cases mb with
  | false =>
    have E : Aside (r = (0, [], 120)) := by show _ = _; rw [HSp.out]; rfl
    clear HSp hmb h hb0 hM0 hW0 hb1 hM hR hW1
    go_enter Try.func14, Try.ntmps14
    go_wp2_with fail
    rw [HW.out]
    go_wp2_with (go_at_call 36; refine hMv.mono ?_; rintro e w1 ⟨rfl, hb2⟩; obtain ⟨x1, x2⟩ := P.out _ hb2; have y0 := x2.cell (j := 0) (x := .int .u32 0) rfl; have y1 := x2.cell (j := 1) (x := .slice none 0 0) rfl; have f0 := x2.frz 0; have f1 := x2.frz 1; refine Hid.out ?_)
    refine hid ?_
    have X2 : Aside (Bx w1 (w.heap.size + 1) (mapC 0 none 0 0) 29) := x2
    clear x1 x2
    go_wp2
    refine bodyPost_ret (results_cell_map2 rfl _ _ (w.heap.size + 1) 0 none 0 0 (.int .u16 120) rfl rfl ?_) rfl ?_
    · exact X2.out.set2 _ _
    · rw [E.out]
      have k := HB.out.trans (hb2.mono HB.out.size)
      exact ⟨none, 0, 0, rfl, sps_none _, fun p h => (by cases h), (k.setCell (Nat.le_succ _) _).setCell (Nat.le_succ _) _⟩
  | true =>
    have hm := mayB_iff.1 hmb
    obtain ⟨G, hG⟩ : ∃ G, given l size frm till node = G := ⟨_, rfl⟩
    have HG : Aside (∀ W, Below W1.heap.size W1 W → Calls Try.prog 37 #[mapV ep a n c, .int .i64 size, .int .i64 frm, .int .i64 till, .int .i64 node] W (GivOut W G)) := fun W hb => by
      rw [← hG]
      exact given_any ep a n c l size nodes frm till node W ((h.keep hb1).keep hb) hm.snd hm.low hm.lt hm.le hm.big hm.isn
    have HT : Aside (∀ s ∈ G, I64 s.1 ∧ I64 s.2) := by
      rw [← hG]
      obtain ⟨c1, c2, _⟩ := given_all hm.snd hm.low hm.lt hm.le hm.isn
      intro s hs
      have h1 := c1.pos s hs
      have h2 := c2 s hs
      have h3 := hm.big
      have h4 : I64 s.1 ∧ I64 s.2 := by unfold I64; omega
      exact h4
    have hgl : G.length ≤ 42 := by
      rw [← hG]
      have h1 := given_len l size frm till node hm.snd.can.rise hm.lt
      have h2 := hm.snd.len
      omega
    rw [hG, if_pos rfl] at HSp
    unfold mapV at HG
    obtain ⟨u1, u2⟩ := hep
    clear hmb h hb0 hM0 hW0 hb1 hM hR hm hG hW1
    by_cases h40 : 40 < G.length
    · have E : Aside (r = (0, [], 3)) := by show _ = _; rw [HSp.out, if_pos h40]
      clear HSp
      go_enter Try.func14, Try.ntmps14
      go_wp2_with fail
      rw [HW.out]
      go_wp2_with (first
        | (go_at_call 36; refine hMv.mono ?_; rintro e w1 ⟨rfl, hb2⟩; obtain ⟨x1, x2⟩ := P.out _ hb2; have z0 := x1.cell (j := 0) (x := .int .u32 ep) rfl; have z1 := x1.cell (j := 1) (x := .slice a n c) rfl; clear x1 x2)
        | (go_at_call 37; refine Calls.mono (HG.out _ hb2) ?_; rintro e w2 ⟨g, q, c9, rfl, hq, hS2, hb3⟩; refine Hid.out ?_))
      refine hid ?_
      have hq40 : (40 : Int) < (q : Int) := by omega
      obtain ⟨x1, x2⟩ := P.out _ (hb2.trans (hb3.mono hb2.size))
      have y0 := x2.cell (j := 0) (x := .int .u32 0) rfl
      have y1 := x2.cell (j := 1) (x := .slice none 0 0) rfl
      have f0 := x2.frz 0
      have f1 := x2.frz 1
      have HK := HB.out.trans ((hb2.trans (hb3.mono hb2.size)).mono HB.out.size)
      clear hS2 x1 hb3
      have X2 : Aside (Bx w2 (w.heap.size + 1) (mapC 0 none 0 0) 29) := x2
      have HK2 : Aside (Below w.heap.size w w2) := HK
      clear x2 HK
      go_wp2
      refine bodyPost_ret (results_cell_map2 rfl _ _ (w.heap.size + 1) 0 none 0 0 (.int .u16 3) rfl rfl ?_) rfl ?_
      · exact X2.out.set2 _ _
      · rw [E.out]
        exact ⟨none, 0, 0, rfl, sps_none _, fun p h => (by cases h), (HK2.out.setCell (Nat.le_succ _) _).setCell (Nat.le_succ _) _⟩
    · have E : Aside (r = ((ep + 1) % 4294967296, G, 0)) := by show _ = _; rw [HSp.out, if_neg h40]
      clear HSp
      obtain ⟨ep1, hep1⟩ : ∃ ep1, (ep + 1) % 4294967296 = ep1 := ⟨_, rfl⟩
      have w1 : IntKind.u32.wrap (ep + 1) = ep1 := by rw [← hep1]; rfl
      rw [hep1] at E
      go_enter Try.func14, Try.ntmps14
      go_wp2_with fail
      rw [HW.out]
      go_wp2_with (first
        | (go_at_call 36; refine hMv.mono ?_; rintro e w1 ⟨rfl, hb2⟩; obtain ⟨x1, x2⟩ := P.out _ hb2; have z0 := x1.cell (j := 0) (x := .int .u32 ep) rfl; have z1 := x1.cell (j := 1) (x := .slice a n c) rfl; clear x1 x2)
        | (go_at_call 37; refine Calls.mono (HG.out _ hb2) ?_; rintro e w2 ⟨g, q, c9, rfl, hq, hS2, hb3⟩; refine Hid.out ?_))
      refine hid ?_
      have hq40 : ¬ (40 : Int) < (q : Int) := by omega
      obtain ⟨x1, x2⟩ := P.out _ (hb2.trans (hb3.mono hb2.size))
      have v0 := x1.cell (j := 0) (x := .int .u32 ep) rfl
      have y0 := x2.cell (j := 0) (x := .int .u32 0) rfl
      have y1 := x2.cell (j := 1) (x := .slice none 0 0) rfl
      have f0 := x2.frz 0
      have f1 := x2.frz 1
      have HK := HB.out.trans ((hb2.trans (hb3.mono hb2.size)).mono HB.out.size)
      have X2 : Aside (Bx w2 (w.heap.size + 1) (mapC 0 none 0 0) 29) := x2
      have HK2 : Aside (Below w.heap.size w w2) := HK
      have HS2 : Aside (So w1.heap.size w2 (.slice (some ⟨g, 0, none⟩) q c9) G ∧ w.heap.size + 2 ≤ w1.heap.size) := ⟨hS2, by have := hb2.size; rw [← HW.out] at this; simp at this; omega⟩
      clear x1 x2 HK hS2 hb3
      subst hq
      go_wp2
      refine bodyPost_ret (results_cell_map2 rfl _ _ (w.heap.size + 1) ep1 (some ⟨g, 0, none⟩) G.length c9 (.int .u16 0) rfl rfl ?_) rfl ?_
      · exact X2.out.set2 _ _
      · rw [E.out]
        have hlw := HS2.out.1.low.1
        have hl2 := HS2.out.2
        have k1 := ownsRow_setCell_other (a := ⟨w.heap.size + 1, 0, none⟩) HS2.out.1 (by simp [Value.ownBlock]; omega) (.int .u32 ep1)
        have k2 := ownsRow_setCell_other (a := ⟨w.heap.size + 1, 1, none⟩) k1 (by simp [Value.ownBlock]; omega) (.slice (some ⟨g, 0, none⟩) G.length c9)
        exact ⟨_, _, _, rfl, So.sps k2 HT.out, fun p hp => (by injection hp with hp; subst hp; show w.heap.size ≤ g; omega), (HK2.out.setCell (Nat.le_succ _) _).setCell (Nat.le_succ _) _⟩
end Go.Proofs.Ytfhihkogdnbghaa.spans
