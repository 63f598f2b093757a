/-
  The walk of DimsBad: of whatever choice the call answers true.
-/
import Derived.Test.YtkkgniigcfbakaaDimsUpWalk
namespace Go.Proofs.Ytkkgniigcfbakaa.dims
open Go.ChangeShapes Go.WideShapes Go.ChangeAt Go.RowKit Go.Deep
set_option linter.unusedVariables false

theorem soundL_val (a : Option Addr) (n cap : Nat) (ds : List Dm) (s : Bool) (w : World) (hI : DimsIn w a ds) (hn : ds.length = n) (hm : n ≤ 9223372036854775807) (hs : sndL ds = s) :
    Calls Try.prog 15 #[.slice a n cap] w fun e w' => e = .returned (.bool s) ∧ Below w.heap.size w w' := by
  rw [← hs]; exact soundL_any a n cap ds w hI hn hm

theorem dims_new (W : World) (ds : List Dm) (hI : ∀ i, i < ds.length → Ints W (dn ds i).a (dn ds i).l ∧ (dn ds i).l.length ≤ 9223372036854775807) : DimsIn (W.alloc (.cells (flatD ds).toArray 29)) (some ⟨W.heap.size, 0, none⟩) ds := by
  refine .inr ⟨W.heap.size, 0, rfl, fun i hi => ?_⟩
  have hb : Below W.heap.size W (W.alloc (.cells (flatD ds).toArray 29)) := (Below.refl _ _).alloc (Nat.le_refl _) _
  have c : ∀ j, (W.alloc (.cells (flatD ds).toArray 29)).cell? ⟨W.heap.size, j, none⟩ = (flatD ds)[j]? := fun j => by simp [go_sem]
  refine ⟨?_, ?_, (hI i hi).1.keep hb, (hI i hi).2⟩
  · rw [Nat.zero_add, c, show i * 2 = i * 2 + 0 by omega, flatD_get ds i 0 hi (by omega)]; rfl
  · rw [Nat.zero_add, c, flatD_get ds i 1 hi (by omega)]; rfl

/-- six that may not be -/
def bads (B : Nat) (y1 : Int) (y2 : Option Addr) (y4 : Nat) (y5 : List Int) : List Dm :=
  [⟨0, y2, y4, y5⟩, ⟨10001, y2, y4, y5⟩, ⟨y1, some ⟨B + 1, 0, none⟩, 2, [3, 7]⟩, ⟨y1, some ⟨B + 1 + 1, 0, none⟩, 1, [1]⟩, ⟨y1, some ⟨B + 1 + 1 + 1, 0, none⟩, 2, [4, 2]⟩, ⟨y1, some ⟨B + 1 + 1 + 1 + 1, 0, none⟩, 5, [2, 4, 8, 16, 32]⟩]

theorem bads_not (B : Nat) (y1 : Int) (y2 : Option Addr) (y4 : Nat) (y5 : List Int) {i : Nat} (hi : i < 6) : sndD (dn (bads B y1 y2 y4 y5) i) = false := by
  have : i = 0 ∨ i = 1 ∨ i = 2 ∨ i = 3 ∨ i = 4 ∨ i = 5 := by omega
  rcases this with rfl | rfl | rfl | rfl | rfl | rfl
  · exact sndB_false fun s => by have := s.1; simp [bads, dn] at this
  · exact sndB_false fun s => by have := s.2.1; simp [bads, dn] at this
  · exact sndB_false fun s => by have := (s.2.2.2 1 (by simp [bads, dn])).2.2; simp [bads, dn, nth, prev] at this
  · exact sndB_false fun s => by have := (s.2.2.2 0 (by simp [bads, dn])).1; simp [bads, dn, nth, prev] at this
  · exact sndB_false fun s => by have := (s.2.2.2 1 (by simp [bads, dn])).1; simp [bads, dn, nth, prev] at this
  · exact sndB_false fun s => by have := s.2.2.1; simp [bads, dn] at this

/-- the world in which they are laid -/
structure BW (w2 : World) (y1 : Int) (y2 : Option Addr) (y4 : Nat) (y5 : List Int) (W : World) : Prop where
  bel : Below w2.heap.size w2 W
  c0 : W.cell? ⟨w2.heap.size, 0, none⟩ = some (.int .i64 y1)
  c1 : W.cell? ⟨w2.heap.size, 1, none⟩ = some (.slice y2 y5.length y4)
  bad : DimsIn W (some ⟨w2.heap.size + 1 + 1 + 1 + 1 + 1, 0, none⟩) (bads w2.heap.size y1 y2 y4 y5)

theorem ints_lit (W : World) (c : Array Value) (t : TypeId) (l : List Int) (h : c = (vals l).toArray) : Ints (W.alloc (.cells c t)) (some ⟨W.heap.size, 0, none⟩) l := by
  subst h
  refine .inr ⟨_, _, rfl, fun i hi => ?_⟩
  simp [go_sem, vals, nth, hi]

theorem BW.start (w2 : World) (y1 : Int) (y2 : Option Addr) (y4 : Nat) (y5 : List Int) (hI : Ints w2 y2 y5) (hm : y5.length ≤ 9223372036854775807) : BW w2 y1 y2 y4 y5
    ((((((w2.alloc (.cells #[.int .i64 y1, .slice y2 y5.length y4] 29)).alloc (.cells #[.int .i64 3, .int .i64 7] 3)).alloc (.cells #[.int .i64 1] 3)).alloc (.cells #[.int .i64 4, .int .i64 2] 3)).alloc (.cells #[.int .i64 2, .int .i64 4, .int .i64 8, .int .i64 16, .int .i64 32] 3)).alloc
      (.cells #[.int .i64 0, .slice y2 y5.length y4, .int .i64 10001, .slice y2 y5.length y4, .int .i64 y1, .slice (some ⟨w2.heap.size + 1, 0, none⟩) 2 2, .int .i64 y1, .slice (some ⟨w2.heap.size + 1 + 1, 0, none⟩) 1 1, .int .i64 y1, .slice (some ⟨w2.heap.size + 1 + 1 + 1, 0, none⟩) 2 2, .int .i64 y1, .slice (some ⟨w2.heap.size + 1 + 1 + 1 + 1, 0, none⟩) 5 5] 29)) := by
  obtain ⟨W1, hW1⟩ : ∃ W, W = w2.alloc (.cells #[.int .i64 y1, .slice y2 y5.length y4] 29) := ⟨_, rfl⟩
  have b1 : Below w2.heap.size w2 W1 := by rw [hW1]; exact (Below.refl _ _).alloc (Nat.le_refl _) _
  have z1 : W1.heap.size = w2.heap.size + 1 := by rw [hW1]; simp
  have d0 : W1.cell? ⟨w2.heap.size, 0, none⟩ = some (.int .i64 y1) := by rw [hW1]; simp [go_sem]
  have d1 : W1.cell? ⟨w2.heap.size, 1, none⟩ = some (.slice y2 y5.length y4) := by rw [hW1]; simp [go_sem]
  rw [← hW1]
  clear hW1
  obtain ⟨W2, hW2⟩ : ∃ W, W = W1.alloc (.cells #[.int .i64 3, .int .i64 7] 3) := ⟨_, rfl⟩
  have b2 : Below W1.heap.size W1 W2 := by rw [hW2]; exact (Below.refl _ _).alloc (Nat.le_refl _) _
  have z2 : W2.heap.size = w2.heap.size + 1 + 1 := by rw [hW2]; simp [z1]
  have i2 : Ints W2 (some ⟨w2.heap.size + 1, 0, none⟩) [3, 7] := by rw [hW2, ← z1]; exact ints_lit _ _ _ _ rfl
  rw [← hW2]
  clear hW2
  obtain ⟨W3, hW3⟩ : ∃ W, W = W2.alloc (.cells #[.int .i64 1] 3) := ⟨_, rfl⟩
  have b3 : Below W2.heap.size W2 W3 := by rw [hW3]; exact (Below.refl _ _).alloc (Nat.le_refl _) _
  have z3 : W3.heap.size = w2.heap.size + 1 + 1 + 1 := by rw [hW3]; simp [z2]
  have i3 : Ints W3 (some ⟨w2.heap.size + 1 + 1, 0, none⟩) [1] := by rw [hW3, ← z2]; exact ints_lit _ _ _ _ rfl
  rw [← hW3]
  clear hW3
  obtain ⟨W4, hW4⟩ : ∃ W, W = W3.alloc (.cells #[.int .i64 4, .int .i64 2] 3) := ⟨_, rfl⟩
  have b4 : Below W3.heap.size W3 W4 := by rw [hW4]; exact (Below.refl _ _).alloc (Nat.le_refl _) _
  have z4 : W4.heap.size = w2.heap.size + 1 + 1 + 1 + 1 := by rw [hW4]; simp [z3]
  have i4 : Ints W4 (some ⟨w2.heap.size + 1 + 1 + 1, 0, none⟩) [4, 2] := by rw [hW4, ← z3]; exact ints_lit _ _ _ _ rfl
  rw [← hW4]
  clear hW4
  obtain ⟨W5, hW5⟩ : ∃ W, W = W4.alloc (.cells #[.int .i64 2, .int .i64 4, .int .i64 8, .int .i64 16, .int .i64 32] 3) := ⟨_, rfl⟩
  have b5 : Below W4.heap.size W4 W5 := by rw [hW5]; exact (Below.refl _ _).alloc (Nat.le_refl _) _
  have z5 : W5.heap.size = w2.heap.size + 1 + 1 + 1 + 1 + 1 := by rw [hW5]; simp [z4]
  have i5 : Ints W5 (some ⟨w2.heap.size + 1 + 1 + 1 + 1, 0, none⟩) [2, 4, 8, 16, 32] := by rw [hW5, ← z4]; exact ints_lit _ _ _ _ rfl
  rw [← hW5]
  clear hW5
  have b35 : Below W3.heap.size W3 W5 := b4.trans (b5.mono b4.size)
  have b25 : Below W2.heap.size W2 W5 := b3.trans (b35.mono b3.size)
  have b15 : Below W1.heap.size W1 W5 := b2.trans (b25.mono b2.size)
  have b05 : Below w2.heap.size w2 W5 := b1.trans (b15.mono b1.size)
  have hN := dims_new W5 (bads w2.heap.size y1 y2 y4 y5) (fun i hi => by
    have hi6 : i < 6 := hi
    have : i = 0 ∨ i = 1 ∨ i = 2 ∨ i = 3 ∨ i = 4 ∨ i = 5 := by omega
    rcases this with rfl | rfl | rfl | rfl | rfl | rfl
    · exact ⟨hI.keep b05, hm⟩
    · exact ⟨hI.keep b05, hm⟩
    · exact ⟨i2.keep b25, by show 2 ≤ _; omega⟩
    · exact ⟨i3.keep b35, by show 1 ≤ _; omega⟩
    · exact ⟨i4.keep b5, by show 2 ≤ _; omega⟩
    · exact ⟨i5, by show 5 ≤ _; omega⟩)
  rw [z5] at hN
  have b6 : Below W5.heap.size W5 (W5.alloc (.cells (flatD (bads w2.heap.size y1 y2 y4 y5)).toArray 29)) := (Below.refl _ _).alloc (Nat.le_refl _) _
  have b16 := b15.trans (b6.mono b15.size)
  exact ⟨b05.trans (b6.mono b05.size), (b16.cell (p := ⟨w2.heap.size, 0, none⟩) (by show w2.heap.size < _; omega)).trans d0, (b16.cell (p := ⟨w2.heap.size, 1, none⟩) (by show w2.heap.size < _; omega)).trans d1, hN⟩

theorem dn_rep (d : Dm) {i : Nat} (hi : i < 5) : dn (List.replicate 5 d) i = d := by
  have : i = 0 ∨ i = 1 ∨ i = 2 ∨ i = 3 ∨ i = 4 := by omega
  rcases this with rfl | rfl | rfl | rfl | rfl <;> rfl
theorem snd_one {d : Dm} (h : SoundD d.sz d.l) : sndL [d] = true := by simp [sndL, sndD, sndB_true h]
theorem snd_two {d x : Dm} (h : sndD x = false) : sndL [d, x] = false := by simp [sndL, h]
theorem snd_none : sndL [] = false := by simp [sndL]
theorem snd_five (d : Dm) : sndL [d, d, d, d, d] = false := by simp [sndL]

/-- two dimensions in boxes -/
structure BB (w : World) (B E : Nat) (D X : Dm) (W : World) : Prop where
  bel : Below w.heap.size w W
  d0 : W.cell? ⟨B, 0, none⟩ = some (.int .i64 D.sz)
  d1 : W.cell? ⟨B, 1, none⟩ = some (.slice D.a D.l.length D.cap)
  x0 : W.cell? ⟨E, 0, none⟩ = some (.int .i64 X.sz)
  x1 : W.cell? ⟨E, 1, none⟩ = some (.slice X.a X.l.length X.cap)
  iD : Ints W D.a D.l
  iX : Ints W X.a X.l

theorem BB.keep {w W W' : World} {B E : Nat} {D X : Dm} (h : BB w B E D X W) (hb : Below W.heap.size W W') : BB w B E D X W' := by
  have k : ∀ {c o : Nat} {v : Value}, W.cell? ⟨c, o, none⟩ = some v → W'.cell? ⟨c, o, none⟩ = some v := fun {c o v} hv => (hb.cell (p := ⟨c, o, none⟩) (cell_lt hv)).trans hv
  exact ⟨h.bel.trans (hb.mono h.bel.size), k h.d0, k h.d1, k h.x0, k h.x1, h.iD.keep hb, h.iX.keep hb⟩

set_option maxHeartbeats 8000000 in
theorem bad_walk (c : Dm) (kk : Int) (w : World) (nC : Nums .u8 w c.a c.l.length c.cap c.l) (wc : (Lit.int .u16 c.sz).wf = true) (wk : (Lit.int .u8 kk).wf = true) :
    Calls Try.prog 4 #[.agg #[.int .u16 c.sz, .slice c.a c.l.length c.cap], .int .u8 kk] w fun e w' => e = .returned (.bool true) ∧ Below w.heap.size w w' := by
  have hk := u8_of_wf wk
  have D2 := fun (W : World) (B : Nat) (h0 : W.cell? ⟨B, 0, none⟩ = some (.int .u16 c.sz)) (h1 : W.cell? ⟨B, 1, none⟩ = some (.slice c.a c.l.length c.cap)) (hb : Below w.heap.size w W) => of_any (some ⟨B, 0, none⟩) 1 1 [c] W (pairs_one h0 h1 (nC.keep hb) wc) rfl (by omega)
  clear nC wc wk
  generalize c.sz = q1 at *
  generalize c.l.length = q3 at *
  generalize c.cap = q4 at *
  generalize c.a = q2 at *
  go_enter Try.func4, Try.ntmps4
  go_wp2_with fail
  have hbn : Below w.heap.size w ((w.alloc (.cells #[.int .u16 q1, .slice q2 q3 q4] 36)).alloc (.cells #[.int .u16 q1, .slice q2 q3 q4] 36)) := by (repeat (first | with_reducible exact Below.refl _ _ | (with_reducible refine Below.drew ?_) | (with_reducible refine Below.alloc ?_ (by first | omega | (simp; done) | (simp; omega)) _) | (with_reducible refine Below.setCell ?_ (by first | exact Nat.le_refl _ | omega | (simp; done) | (simp; omega)) _)))
  refine (D2 _ _ (by simp [go_sem]) (by simp [go_sem]) hbn).mono ?_
  rintro e w2 ⟨v2, rfl, hres⟩
  obtain ⟨g, cap2, x, rfl, -, hSx, -, -, hb2, x0, x1, xI, x4⟩ := hres.one
  have B2 : Aside (Below w.heap.size w w2) := hbn.trans (hb2.mono hbn.size)
  have XI : Aside (Ints w2 x.a x.l) := xI
  have HSX : Aside (SoundD x.sz x.l) := hSx
  clear hres hb2 hbn D2 xI hSx
  generalize x.sz = y1 at *
  generalize x.cap = y4 at *
  generalize x.a = y2 at *
  generalize x.l = y5 at *
  go_upto_region 3 with fail
  have S0 : Aside (BW w2 y1 y2 y4 y5 _) := BW.start w2 y1 y2 y4 y5 XI.out (by omega)
  have HB : Aside (∀ W, BW w2 y1 y2 y4 y5 W → Below w.heap.size w W ∧ Ints W y2 y5) := fun W h => ⟨B2.out.trans (h.bel.mono B2.out.size), XI.out.keep h.bel⟩
  clear x0 x1 XI
  generalize hWW : ((((((w2.alloc (.cells #[.int .i64 y1, .slice y2 y5.length y4] 29)).alloc (.cells #[.int .i64 3, .int .i64 7] 3)).alloc (.cells #[.int .i64 1] 3)).alloc (.cells #[.int .i64 4, .int .i64 2] 3)).alloc (.cells #[.int .i64 2, .int .i64 4, .int .i64 8, .int .i64 16, .int .i64 32] 3)).alloc (.cells #[.int .i64 0, .slice y2 y5.length y4, .int .i64 10001, .slice y2 y5.length y4, .int .i64 y1, .slice (some ⟨w2.heap.size + 1, 0, none⟩) 2 2, .int .i64 y1, .slice (some ⟨w2.heap.size + 1 + 1, 0, none⟩) 1 1, .int .i64 y1, .slice (some ⟨w2.heap.size + 1 + 1 + 1, 0, none⟩) 2 2, .int .i64 y1, .slice (some ⟨w2.heap.size + 1 + 1 + 1 + 1, 0, none⟩) 5 5] 29)) = W at S0 ⊢
  clear hWW
  obtain ⟨i, hi⟩ : ∃ i : Nat, kk % 6 = (i : Int) := ⟨(kk % 6).toNat, by omega⟩
  have hi6 : i < 6 := by omega
  have hi6z : (i : Int) < 6 := by omega
  have h0 := S0.out.c0
  have h1 := S0.out.c1
  obtain ⟨b, off, hab, hcb⟩ := S0.out.bad.get (k := i) hi6
  simp only [Option.some.injEq, Addr.mk.injEq, and_true] at hab
  obtain ⟨e1, e2⟩ := hab
  subst e1
  subst e2
  obtain ⟨r0, r1, r2, r3⟩ := hcb i hi6
  have hnot := bads_not w2.heap.size y1 y2 y4 y5 hi6
  rw [Nat.zero_add] at r0 r1
  have RI : Aside (Ints W (dn (bads w2.heap.size y1 y2 y4 y5) i).a (dn (bads w2.heap.size y1 y2 y4 y5) i).l ∧ (dn (bads w2.heap.size y1 y2 y4 y5) i).l.length ≤ 9223372036854775807 ∧ sndD (dn (bads w2.heap.size y1 y2 y4 y5) i) = false) := ⟨r2, r3, hnot⟩
  clear hcb r2 r3 hnot
  generalize hX : dn (bads w2.heap.size y1 y2 y4 y5) i = X at r0 r1 RI
  clear hX
  have B0 := HB.out _ S0.out
  have WB : Aside _ := B0
  have S5 : Aside (5 = 5) := rfl
  clear B0 S0
  have hwB : w2.heap.size < W.heap.size := cell_lt h0
  go_wp2_with fail
  have SX : Aside (BB w w2.heap.size W.heap.size ⟨y1, y2, y4, y5⟩ X (W.alloc (.cells #[.int .i64 X.sz, .slice X.a X.l.length X.cap] 29))) := by
    have hb : Below W.heap.size W (W.alloc (.cells #[.int .i64 X.sz, .slice X.a X.l.length X.cap] 29)) := (Below.refl _ _).alloc (Nat.le_refl _) _
    exact ⟨WB.out.1.trans (hb.mono WB.out.1.size), (hb.cell (p := ⟨w2.heap.size, 0, none⟩) hwB).trans h0, (hb.cell (p := ⟨w2.heap.size, 1, none⟩) hwB).trans h1, by simp [go_sem], by simp [go_sem], WB.out.2.keep hb, RI.out.1.keep hb⟩
  have hXl := RI.out.2.1
  have HXN : Aside (sndD X = false) := RI.out.2.2
  have HDL : y5.length ≤ 9223372036854775807 := by omega
  refine (known_any _).mono ?_
  rintro e w3 ⟨rfl, hb3⟩
  have S3 : Aside (BB w w2.heap.size W.heap.size ⟨y1, y2, y4, y5⟩ X w3) := SX.out.keep hb3
  clear SX hb3 WB RI HB r0 r1 h0 h1 hwB S5
  generalize w2.heap.size = B at S3 ⊢
  generalize W.heap.size = E at S3 ⊢
  have H1 : ∀ W', BB w B E ⟨y1, y2, y4, y5⟩ X W' → ∀ i, i < [(⟨y1, y2, y4, y5⟩ : Dm)].length → Ints W' (dn [(⟨y1, y2, y4, y5⟩ : Dm)] i).a (dn [(⟨y1, y2, y4, y5⟩ : Dm)] i).l ∧ (dn [(⟨y1, y2, y4, y5⟩ : Dm)] i).l.length ≤ 9223372036854775807 := fun W' h i hi => by
    have e : i = 0 := by simp at hi; omega
    subst e; exact ⟨h.iD, HDL⟩
  have H2 : ∀ W', BB w B E ⟨y1, y2, y4, y5⟩ X W' → ∀ i, i < [(⟨y1, y2, y4, y5⟩ : Dm), X].length → Ints W' (dn [(⟨y1, y2, y4, y5⟩ : Dm), X] i).a (dn [(⟨y1, y2, y4, y5⟩ : Dm), X] i).l ∧ (dn [(⟨y1, y2, y4, y5⟩ : Dm), X] i).l.length ≤ 9223372036854775807 := fun W' h i hi => by
    have e : i = 0 ∨ i = 1 := by simp at hi; omega
    rcases e with rfl | rfl
    · exact ⟨h.iD, HDL⟩
    · exact ⟨h.iX, hXl⟩
  have H5 : ∀ W', BB w B E ⟨y1, y2, y4, y5⟩ X W' → ∀ i, i < (List.replicate 5 (⟨y1, y2, y4, y5⟩ : Dm)).length → Ints W' (dn (List.replicate 5 (⟨y1, y2, y4, y5⟩ : Dm)) i).a (dn (List.replicate 5 (⟨y1, y2, y4, y5⟩ : Dm)) i).l ∧ (dn (List.replicate 5 (⟨y1, y2, y4, y5⟩ : Dm)) i).l.length ≤ 9223372036854775807 := fun W' h i hi => by
    have e : dn (List.replicate 5 (⟨y1, y2, y4, y5⟩ : Dm)) i = ⟨y1, y2, y4, y5⟩ := dn_rep _ (by simpa using hi)
    rw [e]; exact ⟨h.iD, HDL⟩
  have HH1 : Aside _ := H1
  have HH2 : Aside _ := H2
  have HH5 : Aside _ := H5
  clear H1 H2 H5
  have d0 := S3.out.d0
  have d1 := S3.out.d1
  have x0 := S3.out.x0
  have x1 := S3.out.x1
  go_wp2_with fail
  refine (soundL_val _ 1 1 [(⟨y1, y2, y4, y5⟩ : Dm)] true _ (dims_new w3 _ (HH1.out _ S3.out)) rfl (by omega) (snd_one HSX.out)).mono ?_
  rintro e w4 ⟨rfl, hb4⟩
  have S4 : Aside (BB w B E ⟨y1, y2, y4, y5⟩ X w4) := S3.out.keep (((Below.refl w3.heap.size w3).alloc (Nat.le_refl _) _).trans (hb4.mono (by simp)))
  clear S3 hb4 d0 d1 x0 x1
  have d0 := S4.out.d0
  have d1 := S4.out.d1
  have x0 := S4.out.x0
  have x1 := S4.out.x1
  go_wp2_with fail
  refine (soundL_val _ 2 2 [(⟨y1, y2, y4, y5⟩ : Dm), X] false _ (dims_new w4 _ (HH2.out _ S4.out)) rfl (by omega) (snd_two HXN.out)).mono ?_
  rintro e w5 ⟨rfl, hb5⟩
  have S5 : Aside (BB w B E ⟨y1, y2, y4, y5⟩ X w5) := S4.out.keep (((Below.refl w4.heap.size w4).alloc (Nat.le_refl _) _).trans (hb5.mono (by simp)))
  clear S4 hb5 d0 d1 x0 x1
  have d0 := S5.out.d0
  have d1 := S5.out.d1
  have x0 := S5.out.x0
  have x1 := S5.out.x1
  go_wp2_with fail
  refine (soundL_val none 0 0 [] false _ (.inl rfl) rfl (by omega) snd_none).mono ?_
  rintro e w6 ⟨rfl, hb6⟩
  have S6 : Aside (BB w B E ⟨y1, y2, y4, y5⟩ X w6) := S5.out.keep (hb6)
  clear S5 hb6 d0 d1 x0 x1
  have d0 := S6.out.d0
  have d1 := S6.out.d1
  have x0 := S6.out.x0
  have x1 := S6.out.x1
  go_wp2_with fail
  refine (soundL_val _ 5 5 (List.replicate 5 (⟨y1, y2, y4, y5⟩ : Dm)) false _ (dims_new w6 _ (HH5.out _ S6.out)) rfl (by omega) (snd_five _)).mono ?_
  rintro e w7 ⟨rfl, hb7⟩
  have S7 : Aside (BB w B E ⟨y1, y2, y4, y5⟩ X w7) := S6.out.keep (((Below.refl w6.heap.size w6).alloc (Nat.le_refl _) _).trans (hb7.mono (by simp)))
  clear S6 hb7 d0 d1 x0 x1
  go_wp2
  go_ret
  exact ⟨rfl, S7.out.bel⟩
end Go.Proofs.Ytkkgniigcfbakaa.dims
