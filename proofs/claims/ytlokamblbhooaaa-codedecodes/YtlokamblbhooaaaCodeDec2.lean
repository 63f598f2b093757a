/-
  The program's Decode, of bytes that a record uses up.
-/
import Derived.Test.YtlokamblbhooaaaCodeDec
namespace Go.Proofs.Ytlokamblbhooaaa.code
open Go.ChangeShapes Go.WideShapes Go.ChangeAt Go.RowKit Go.Deep
open Go.Proofs.Ytlokamblbhooaaa.dims (nth Ints cell_lt vals vals_len vals_get vals_one vals_app own_below own_mono own_out own_apart RowOut ret_bool ret_int)
set_option linter.unusedVariables false
set_option maxRecDepth 100000
set_option linter.unusedSimpArgs false


set_option maxHeartbeats 8000000 in
theorem decode_bad (w : World) (a : Option Addr) (n c : Nat) (l : List UInt8) (hI : ByIn w a l) (hA : l ≠ [] → ∀ p, a = some p → p.block < w.heap.size) (hn : l.length = n) (hc : n ≤ c) (h6 : n ≤ 60000) (x : PRec) (rest : List UInt8) (hp : pRec l = some (x, rest)) (hr0 : rest.length = 0) (hsnd : sndRec x = false) :
    Calls Try.prog 16 #[.slice a n c] w fun e w' => e = .returned (.tuple #[.agg recZ, .int .u16 70]) ∧ Below w.heap.size w w' := by
  have hlow : l ≠ [] → ∀ p, a = some p → p.block < w.heap.size + 2 := fun h0 p hp => by have := hA h0 p hp; omega
  have hb0 : Below w.heap.size w (((w.alloc (.cells #[.int .u8 0, .int .u32 0, .int .u32 0, .slice none 0 0, .slice none 0 0, .int .u32 0, .slice none 0 0, .int .i64 0, .int .i64 0, .slice none 0 0] 30)).alloc (.cells #[.int .u16 0] 35)).alloc (.cells #[.slice a n c] 77)) := by (repeat (first | with_reducible exact Below.refl _ _ | (with_reducible refine Below.drew ?_) | (with_reducible refine Below.alloc ?_ (by first | omega | (simp; done) | (simp; omega)) _) | (with_reducible refine Below.setCell ?_ (by first | exact Nat.le_refl _ | omega | (simp; done) | (simp; omega)) _)))
  have hx0 : Boxed (((w.alloc (.cells #[.int .u8 0, .int .u32 0, .int .u32 0, .slice none 0 0, .slice none 0 0, .int .u32 0, .slice none 0 0, .int .i64 0, .int .i64 0, .slice none 0 0] 30)).alloc (.cells #[.int .u16 0] 35)).alloc (.cells #[.slice a n c] 77)) w.heap.size recZ 30 := ((Boxed.new w recZ 30).grown (World.grownBy_alloc _ _ none) (by simp)).grown (World.grownBy_alloc _ _ none) (by simp)
  have hy0 : Boxed (((w.alloc (.cells #[.int .u8 0, .int .u32 0, .int .u32 0, .slice none 0 0, .slice none 0 0, .int .u32 0, .slice none 0 0, .int .i64 0, .int .i64 0, .slice none 0 0] 30)).alloc (.cells #[.int .u16 0] 35)).alloc (.cells #[.slice a n c] 77)) (w.heap.size + 1) #[.int .u16 0] 35 := by
    have := (Boxed.new (w.alloc (.cells #[.int .u8 0, .int .u32 0, .int .u32 0, .slice none 0 0, .slice none 0 0, .int .u32 0, .slice none 0 0, .int .i64 0, .int .i64 0, .slice none 0 0] 30)) #[.int .u16 0] 35).grown (World.grownBy_alloc _ (.cells #[.slice a n c] 77) none) (by simp)
    simpa using this
  have hbx : Boxed (((w.alloc (.cells #[.int .u8 0, .int .u32 0, .int .u32 0, .slice none 0 0, .slice none 0 0, .int .u32 0, .slice none 0 0, .int .i64 0, .int .i64 0, .slice none 0 0] 30)).alloc (.cells #[.int .u16 0] 35)).alloc (.cells #[.slice a n c] 77)) (w.heap.size + 2) #[.slice a n c] 77 := by
    have := Boxed.new ((w.alloc (.cells #[.int .u8 0, .int .u32 0, .int .u32 0, .slice none 0 0, .slice none 0 0, .int .u32 0, .slice none 0 0, .int .i64 0, .int .i64 0, .slice none 0 0] 30)).alloc (.cells #[.int .u16 0] 35)) #[.slice a n c] 77
    simpa using this
  have hsz : (((w.alloc (.cells #[.int .u8 0, .int .u32 0, .int .u32 0, .slice none 0 0, .slice none 0 0, .int .u32 0, .slice none 0 0, .int .i64 0, .int .i64 0, .slice none 0 0] 30)).alloc (.cells #[.int .u16 0] 35)).alloc (.cells #[.slice a n c] 77)).heap.size = w.heap.size + 3 := by simp
  have hRd : RdL (w.heap.size + 2) (((w.alloc (.cells #[.int .u8 0, .int .u32 0, .int .u32 0, .slice none 0 0, .slice none 0 0, .int .u32 0, .slice none 0 0, .int .i64 0, .int .i64 0, .slice none 0 0] 30)).alloc (.cells #[.int .u16 0] 35)).alloc (.cells #[.slice a n c] 77)) l := ⟨a, n, c, hbx, hn, hc, hlow, hI.keep hb0⟩
  generalize hWW : ((w.alloc (.cells #[.int .u8 0, .int .u32 0, .int .u32 0, .slice none 0 0, .slice none 0 0, .int .u32 0, .slice none 0 0, .int .i64 0, .int .i64 0, .slice none 0 0] 30)).alloc (.cells #[.int .u16 0] 35)).alloc (.cells #[.slice a n c] 77) = W0 at hb0 hx0 hy0 hbx hRd hsz
  have HW : Hid (_ = W0) := hWW
  have hC1 := readRec_any (w.heap.size + 2) (w.heap.size + 3) (by omega) W0 l (by omega) hRd (by omega)
  have hlz : ¬ (60000 : Int) < (n : Int) := by omega
  have H0 : Aside (Below w.heap.size w W0) := hb0
  clear hWW hb0 hlow hRd hbx hI hA
  have hmf : ∀ (fn : Fn) (first cap : Array Value) (w : World), (Instr.makeFunc fn first cap).run Try.prog w = .ok (.func fn first cap) w := fun _ _ _ _ => rfl
  go_enter_defers Try.func16, Try.ntmps16
  go_wp2_with fail
  rw [HW.out]
  refine hC1.mono ?_
  intro e w1 hP
  obtain ⟨v1, rfl, ⟨r, rfl, hpr, hO⟩, hW1⟩ := hP.got hp
  have x1 := hx0.grown hW1.grown (by simp only [ne_eq, Option.some.injEq]; omega)
  have y1 := hy0.grown hW1.grown (by simp only [ne_eq, Option.some.injEq]; omega)
  have HB1 : Aside (Below w.heap.size w w1) := below_one H0.out H0.out.size hW1.grown (by omega)
  obtain ⟨a', n', c', hr⟩ := hW1.rdr
  have q0 := hr.cell
  have hn' : n' = rest.length := hr.len.symm
  have hs1 : w.heap.size + 3 ≤ w1.heap.size := by have := hW1.grown.size; omega
  have hl0 : w.heap.size < w1.heap.size := by omega
  have hl1 : w.heap.size + 1 < w1.heap.size := by omega
  have hl2 : w.heap.size + 2 < w1.heap.size := by omega
  have HO : Aside (RcOwn (w.heap.size + 3) w1 r ∧ pr r = x) := ⟨hO, hpr⟩
  have HX : Aside (Boxed w1 w.heap.size recZ 30 ∧ Boxed w1 (w.heap.size + 1) #[.int .u16 0] 35) := ⟨x1, y1⟩
  have cx0 := x1.cell (j := 0) rfl
  have zx0 := x1.frz 0
  have cx1 := x1.cell (j := 1) rfl
  have zx1 := x1.frz 1
  have cx2 := x1.cell (j := 2) rfl
  have zx2 := x1.frz 2
  have cx3 := x1.cell (j := 3) rfl
  have zx3 := x1.frz 3
  have cx4 := x1.cell (j := 4) rfl
  have zx4 := x1.frz 4
  have cx5 := x1.cell (j := 5) rfl
  have zx5 := x1.frz 5
  have cx6 := x1.cell (j := 6) rfl
  have zx6 := x1.frz 6
  have cx7 := x1.cell (j := 7) rfl
  have zx7 := x1.frz 7
  have cx8 := x1.cell (j := 8) rfl
  have zx8 := x1.frz 8
  have cx9 := x1.cell (j := 9) rfl
  have zx9 := x1.frz 9
  have cy0 := y1.cell (j := 0) rfl
  have zy0 := y1.frz 0
  clear hC1 hP HW hx0 hy0 H0 hW1 hr hO hpr x1 y1
  show _
  unfold rcV rcC
  have hnz : ¬ (0 : Int) < (n' : Int) := by omega
  have hga : w1.grownBy (w1.alloc (.cells #[.int .u8 r.kind, .int .u32 r.id, .int .u32 r.at_, .slice r.na r.nodes.length r.nc, .slice r.fa r.facts.length r.fc, .int .u32 r.epoch, .slice r.sa r.spans.length r.sc, .int .i64 r.frm, .int .i64 r.til, .slice r.ea r.ents.length r.ec] 30)) none := World.grownBy_alloc _ _ _
  have hRo : RcOwn (w.heap.size + 3) (w1.alloc (.cells #[.int .u8 r.kind, .int .u32 r.id, .int .u32 r.at_, .slice r.na r.nodes.length r.nc, .slice r.fa r.facts.length r.fc, .int .u32 r.epoch, .slice r.sa r.spans.length r.sc, .int .i64 r.frm, .int .i64 r.til, .slice r.ea r.ents.length r.ec] 30)) r := HO.out.1.far hga (far_none _ _) (far_none _ _) (far_none _ _) (far_none _ _)
  have x2 := HX.out.1.grown hga (by simp)
  have y2 := HX.out.2.grown hga (by simp)
  have b2 := Boxed.new w1 #[.int .u8 r.kind, .int .u32 r.id, .int .u32 r.at_, .slice r.na r.nodes.length r.nc, .slice r.fa r.facts.length r.fc, .int .u32 r.epoch, .slice r.sa r.spans.length r.sc, .int .i64 r.frm, .int .i64 r.til, .slice r.ea r.ents.length r.ec] 30
  have HB2 : Aside (Below w.heap.size w (w1.alloc (.cells #[.int .u8 r.kind, .int .u32 r.id, .int .u32 r.at_, .slice r.na r.nodes.length r.nc, .slice r.fa r.facts.length r.fc, .int .u32 r.epoch, .slice r.sa r.spans.length r.sc, .int .i64 r.frm, .int .i64 r.til, .slice r.ea r.ents.length r.ec] 30))) := HB1.out.alloc (by omega) _
  have hs2 : (w1.alloc (.cells #[.int .u8 r.kind, .int .u32 r.id, .int .u32 r.at_, .slice r.na r.nodes.length r.nc, .slice r.fa r.facts.length r.fc, .int .u32 r.epoch, .slice r.sa r.spans.length r.sc, .int .i64 r.frm, .int .i64 r.til, .slice r.ea r.ents.length r.ec] 30)).heap.size = w1.heap.size + 1 := by simp
  have hC2 := sound_any _ r hRo.recIn
  rw [HO.out.2, hsnd] at hC2
  generalize hW2 : w1.alloc (.cells #[.int .u8 r.kind, .int .u32 r.id, .int .u32 r.at_, .slice r.na r.nodes.length r.nc, .slice r.fa r.facts.length r.fc, .int .u32 r.epoch, .slice r.sa r.spans.length r.sc, .int .i64 r.frm, .int .i64 r.til, .slice r.ea r.ents.length r.ec] 30) = W2 at hga hRo x2 y2 b2 HB2 hs2 hC2
  have HW2 : Hid (w1.alloc (.cells #[.int .u8 r.kind, .int .u32 r.id, .int .u32 r.at_, .slice r.na r.nodes.length r.nc, .slice r.fa r.facts.length r.fc, .int .u32 r.epoch, .slice r.sa r.spans.length r.sc, .int .i64 r.frm, .int .i64 r.til, .slice r.ea r.ents.length r.ec] 30) = W2) := hW2
  clear hn' hW2 hga
  go_wp2_with fail
  change Calls _ _ #[rcV r] _ _
  rw [HW2.out]
  refine hC2.mono ?_
  rintro e w3 ⟨rfl, g3⟩
  have x3 := x2.below g3
  have y3 := y2.below g3
  have b3 := b2.below g3
  have hR3 : RcOwn (w.heap.size + 3) w3 r := hRo.far (grown_below g3) (far_none _ _) (far_none _ _) (far_none _ _) (far_none _ _)
  have HB1 : Aside (Below w.heap.size w w3) := HB2.out.trans (g3.mono HB2.out.size)
  have hs3 : w1.heap.size + 1 ≤ w3.heap.size := by have := g3.size; omega
  clear hC2 x2 y2 b2 hRo g3 HW2 q0 cy0 zy0
  clear cx0 zx0 cx1 zx1 cx2 zx2 cx3 zx3 cx4 zx4 cx5 zx5 cx6 zx6 cx7 zx7 cx8 zx8 cx9 zx9
  have cx0 := x3.cell (j := 0) rfl
  have zx0 := x3.frz 0
  have cb0 := b3.cell (j := 0) rfl
  have cx1 := x3.cell (j := 1) rfl
  have zx1 := x3.frz 1
  have cb1 := b3.cell (j := 1) rfl
  have cx2 := x3.cell (j := 2) rfl
  have zx2 := x3.frz 2
  have cb2 := b3.cell (j := 2) rfl
  have cx3 := x3.cell (j := 3) rfl
  have zx3 := x3.frz 3
  have cb3 := b3.cell (j := 3) rfl
  have cx4 := x3.cell (j := 4) rfl
  have zx4 := x3.frz 4
  have cb4 := b3.cell (j := 4) rfl
  have cx5 := x3.cell (j := 5) rfl
  have zx5 := x3.frz 5
  have cb5 := b3.cell (j := 5) rfl
  have cx6 := x3.cell (j := 6) rfl
  have zx6 := x3.frz 6
  have cb6 := b3.cell (j := 6) rfl
  have cx7 := x3.cell (j := 7) rfl
  have zx7 := x3.frz 7
  have cb7 := b3.cell (j := 7) rfl
  have cx8 := x3.cell (j := 8) rfl
  have zx8 := x3.frz 8
  have cb8 := b3.cell (j := 8) rfl
  have cx9 := x3.cell (j := 9) rfl
  have zx9 := x3.frz 9
  have cb9 := b3.cell (j := 9) rfl
  have cy0 := y3.cell (j := 0) rfl
  have zy0 := y3.frz 0
  clear x3 y3 b3 hR3
  go_wp2
  refine leaves_cons (f := 38) (args := #[.pointer (some ⟨w.heap.size, 0, none⟩), .pointer (some ⟨w.heap.size + 1, 0, none⟩)]) (by simp) (by simp [go_sem]) ?_
  refine (catch_idle ⟨w.heap.size, 0, none⟩ ⟨w.heap.size + 1, 0, none⟩ _).mono ?_
  rintro e u' w'' ⟨rfl, rfl, rfl⟩
  simp [Leaves, settle, results, Try.results16, go_sem, *]
  refine ⟨rfl, ?_⟩
  repeat (first | with_reducible exact HB1.out | (with_reducible refine Below.alloc ?_ (by first | omega | (simp; omega)) _) | (with_reducible refine Below.setCell ?_ (by first | exact Nat.le_refl _ | (simp; done) | omega | (simp; omega)) _))

set_option maxHeartbeats 8000000 in
theorem decode_good (w : World) (a : Option Addr) (n c : Nat) (l : List UInt8) (hI : ByIn w a l) (hA : l ≠ [] → ∀ p, a = some p → p.block < w.heap.size) (hn : l.length = n) (hc : n ≤ c) (h6 : n ≤ 60000) (x : PRec) (rest : List UInt8) (hp : pRec l = some (x, rest)) (hr0 : rest.length = 0) (hsnd : sndRec x = true) :
    Calls Try.prog 16 #[.slice a n c] w fun e w' => ∃ r, e = .returned (.tuple #[rcV r, .int .u16 0]) ∧ pr r = x ∧ RecIn w' r ∧ Below w.heap.size w w' := by
  have hlow : l ≠ [] → ∀ p, a = some p → p.block < w.heap.size + 2 := fun h0 p hp => by have := hA h0 p hp; omega
  have hb0 : Below w.heap.size w (((w.alloc (.cells #[.int .u8 0, .int .u32 0, .int .u32 0, .slice none 0 0, .slice none 0 0, .int .u32 0, .slice none 0 0, .int .i64 0, .int .i64 0, .slice none 0 0] 30)).alloc (.cells #[.int .u16 0] 35)).alloc (.cells #[.slice a n c] 77)) := by (repeat (first | with_reducible exact Below.refl _ _ | (with_reducible refine Below.drew ?_) | (with_reducible refine Below.alloc ?_ (by first | omega | (simp; done) | (simp; omega)) _) | (with_reducible refine Below.setCell ?_ (by first | exact Nat.le_refl _ | omega | (simp; done) | (simp; omega)) _)))
  have hx0 : Boxed (((w.alloc (.cells #[.int .u8 0, .int .u32 0, .int .u32 0, .slice none 0 0, .slice none 0 0, .int .u32 0, .slice none 0 0, .int .i64 0, .int .i64 0, .slice none 0 0] 30)).alloc (.cells #[.int .u16 0] 35)).alloc (.cells #[.slice a n c] 77)) w.heap.size recZ 30 := ((Boxed.new w recZ 30).grown (World.grownBy_alloc _ _ none) (by simp)).grown (World.grownBy_alloc _ _ none) (by simp)
  have hy0 : Boxed (((w.alloc (.cells #[.int .u8 0, .int .u32 0, .int .u32 0, .slice none 0 0, .slice none 0 0, .int .u32 0, .slice none 0 0, .int .i64 0, .int .i64 0, .slice none 0 0] 30)).alloc (.cells #[.int .u16 0] 35)).alloc (.cells #[.slice a n c] 77)) (w.heap.size + 1) #[.int .u16 0] 35 := by
    have := (Boxed.new (w.alloc (.cells #[.int .u8 0, .int .u32 0, .int .u32 0, .slice none 0 0, .slice none 0 0, .int .u32 0, .slice none 0 0, .int .i64 0, .int .i64 0, .slice none 0 0] 30)) #[.int .u16 0] 35).grown (World.grownBy_alloc _ (.cells #[.slice a n c] 77) none) (by simp)
    simpa using this
  have hbx : Boxed (((w.alloc (.cells #[.int .u8 0, .int .u32 0, .int .u32 0, .slice none 0 0, .slice none 0 0, .int .u32 0, .slice none 0 0, .int .i64 0, .int .i64 0, .slice none 0 0] 30)).alloc (.cells #[.int .u16 0] 35)).alloc (.cells #[.slice a n c] 77)) (w.heap.size + 2) #[.slice a n c] 77 := by
    have := Boxed.new ((w.alloc (.cells #[.int .u8 0, .int .u32 0, .int .u32 0, .slice none 0 0, .slice none 0 0, .int .u32 0, .slice none 0 0, .int .i64 0, .int .i64 0, .slice none 0 0] 30)).alloc (.cells #[.int .u16 0] 35)) #[.slice a n c] 77
    simpa using this
  have hsz : (((w.alloc (.cells #[.int .u8 0, .int .u32 0, .int .u32 0, .slice none 0 0, .slice none 0 0, .int .u32 0, .slice none 0 0, .int .i64 0, .int .i64 0, .slice none 0 0] 30)).alloc (.cells #[.int .u16 0] 35)).alloc (.cells #[.slice a n c] 77)).heap.size = w.heap.size + 3 := by simp
  have hRd : RdL (w.heap.size + 2) (((w.alloc (.cells #[.int .u8 0, .int .u32 0, .int .u32 0, .slice none 0 0, .slice none 0 0, .int .u32 0, .slice none 0 0, .int .i64 0, .int .i64 0, .slice none 0 0] 30)).alloc (.cells #[.int .u16 0] 35)).alloc (.cells #[.slice a n c] 77)) l := ⟨a, n, c, hbx, hn, hc, hlow, hI.keep hb0⟩
  generalize hWW : ((w.alloc (.cells #[.int .u8 0, .int .u32 0, .int .u32 0, .slice none 0 0, .slice none 0 0, .int .u32 0, .slice none 0 0, .int .i64 0, .int .i64 0, .slice none 0 0] 30)).alloc (.cells #[.int .u16 0] 35)).alloc (.cells #[.slice a n c] 77) = W0 at hb0 hx0 hy0 hbx hRd hsz
  have HW : Hid (_ = W0) := hWW
  have hC1 := readRec_any (w.heap.size + 2) (w.heap.size + 3) (by omega) W0 l (by omega) hRd (by omega)
  have hlz : ¬ (60000 : Int) < (n : Int) := by omega
  have H0 : Aside (Below w.heap.size w W0) := hb0
  clear hWW hb0 hlow hRd hbx hI hA
  have hmf : ∀ (fn : Fn) (first cap : Array Value) (w : World), (Instr.makeFunc fn first cap).run Try.prog w = .ok (.func fn first cap) w := fun _ _ _ _ => rfl
  go_enter_defers Try.func16, Try.ntmps16
  go_wp2_with fail
  rw [HW.out]
  refine hC1.mono ?_
  intro e w1 hP
  obtain ⟨v1, rfl, ⟨r, rfl, hpr, hO⟩, hW1⟩ := hP.got hp
  have x1 := hx0.grown hW1.grown (by simp only [ne_eq, Option.some.injEq]; omega)
  have y1 := hy0.grown hW1.grown (by simp only [ne_eq, Option.some.injEq]; omega)
  have HB1 : Aside (Below w.heap.size w w1) := below_one H0.out H0.out.size hW1.grown (by omega)
  obtain ⟨a', n', c', hr⟩ := hW1.rdr
  have q0 := hr.cell
  have hn' : n' = rest.length := hr.len.symm
  have hs1 : w.heap.size + 3 ≤ w1.heap.size := by have := hW1.grown.size; omega
  have hl0 : w.heap.size < w1.heap.size := by omega
  have hl1 : w.heap.size + 1 < w1.heap.size := by omega
  have hl2 : w.heap.size + 2 < w1.heap.size := by omega
  have HO : Aside (RcOwn (w.heap.size + 3) w1 r ∧ pr r = x) := ⟨hO, hpr⟩
  have HX : Aside (Boxed w1 w.heap.size recZ 30 ∧ Boxed w1 (w.heap.size + 1) #[.int .u16 0] 35) := ⟨x1, y1⟩
  have cx0 := x1.cell (j := 0) rfl
  have zx0 := x1.frz 0
  have cx1 := x1.cell (j := 1) rfl
  have zx1 := x1.frz 1
  have cx2 := x1.cell (j := 2) rfl
  have zx2 := x1.frz 2
  have cx3 := x1.cell (j := 3) rfl
  have zx3 := x1.frz 3
  have cx4 := x1.cell (j := 4) rfl
  have zx4 := x1.frz 4
  have cx5 := x1.cell (j := 5) rfl
  have zx5 := x1.frz 5
  have cx6 := x1.cell (j := 6) rfl
  have zx6 := x1.frz 6
  have cx7 := x1.cell (j := 7) rfl
  have zx7 := x1.frz 7
  have cx8 := x1.cell (j := 8) rfl
  have zx8 := x1.frz 8
  have cx9 := x1.cell (j := 9) rfl
  have zx9 := x1.frz 9
  have cy0 := y1.cell (j := 0) rfl
  have zy0 := y1.frz 0
  clear hC1 hP HW hx0 hy0 H0 hW1 hr hO hpr x1 y1
  show _
  unfold rcV rcC
  have hnz : ¬ (0 : Int) < (n' : Int) := by omega
  have hga : w1.grownBy (w1.alloc (.cells #[.int .u8 r.kind, .int .u32 r.id, .int .u32 r.at_, .slice r.na r.nodes.length r.nc, .slice r.fa r.facts.length r.fc, .int .u32 r.epoch, .slice r.sa r.spans.length r.sc, .int .i64 r.frm, .int .i64 r.til, .slice r.ea r.ents.length r.ec] 30)) none := World.grownBy_alloc _ _ _
  have hRo : RcOwn (w.heap.size + 3) (w1.alloc (.cells #[.int .u8 r.kind, .int .u32 r.id, .int .u32 r.at_, .slice r.na r.nodes.length r.nc, .slice r.fa r.facts.length r.fc, .int .u32 r.epoch, .slice r.sa r.spans.length r.sc, .int .i64 r.frm, .int .i64 r.til, .slice r.ea r.ents.length r.ec] 30)) r := HO.out.1.far hga (far_none _ _) (far_none _ _) (far_none _ _) (far_none _ _)
  have x2 := HX.out.1.grown hga (by simp)
  have y2 := HX.out.2.grown hga (by simp)
  have b2 := Boxed.new w1 #[.int .u8 r.kind, .int .u32 r.id, .int .u32 r.at_, .slice r.na r.nodes.length r.nc, .slice r.fa r.facts.length r.fc, .int .u32 r.epoch, .slice r.sa r.spans.length r.sc, .int .i64 r.frm, .int .i64 r.til, .slice r.ea r.ents.length r.ec] 30
  have HB2 : Aside (Below w.heap.size w (w1.alloc (.cells #[.int .u8 r.kind, .int .u32 r.id, .int .u32 r.at_, .slice r.na r.nodes.length r.nc, .slice r.fa r.facts.length r.fc, .int .u32 r.epoch, .slice r.sa r.spans.length r.sc, .int .i64 r.frm, .int .i64 r.til, .slice r.ea r.ents.length r.ec] 30))) := HB1.out.alloc (by omega) _
  have hs2 : (w1.alloc (.cells #[.int .u8 r.kind, .int .u32 r.id, .int .u32 r.at_, .slice r.na r.nodes.length r.nc, .slice r.fa r.facts.length r.fc, .int .u32 r.epoch, .slice r.sa r.spans.length r.sc, .int .i64 r.frm, .int .i64 r.til, .slice r.ea r.ents.length r.ec] 30)).heap.size = w1.heap.size + 1 := by simp
  have hC2 := sound_any _ r hRo.recIn
  rw [HO.out.2, hsnd] at hC2
  generalize hW2 : w1.alloc (.cells #[.int .u8 r.kind, .int .u32 r.id, .int .u32 r.at_, .slice r.na r.nodes.length r.nc, .slice r.fa r.facts.length r.fc, .int .u32 r.epoch, .slice r.sa r.spans.length r.sc, .int .i64 r.frm, .int .i64 r.til, .slice r.ea r.ents.length r.ec] 30) = W2 at hga hRo x2 y2 b2 HB2 hs2 hC2
  have HW2 : Hid (w1.alloc (.cells #[.int .u8 r.kind, .int .u32 r.id, .int .u32 r.at_, .slice r.na r.nodes.length r.nc, .slice r.fa r.facts.length r.fc, .int .u32 r.epoch, .slice r.sa r.spans.length r.sc, .int .i64 r.frm, .int .i64 r.til, .slice r.ea r.ents.length r.ec] 30) = W2) := hW2
  clear hn' hW2 hga
  go_wp2_with fail
  change Calls _ _ #[rcV r] _ _
  rw [HW2.out]
  refine hC2.mono ?_
  rintro e w3 ⟨rfl, g3⟩
  have x3 := x2.below g3
  have y3 := y2.below g3
  have b3 := b2.below g3
  have hR3 : RcOwn (w.heap.size + 3) w3 r := hRo.far (grown_below g3) (far_none _ _) (far_none _ _) (far_none _ _) (far_none _ _)
  have HB1 : Aside (Below w.heap.size w w3) := HB2.out.trans (g3.mono HB2.out.size)
  have hs3 : w1.heap.size + 1 ≤ w3.heap.size := by have := g3.size; omega
  clear hC2 x2 y2 b2 hRo g3 HW2 q0 cy0 zy0
  clear cx0 zx0 cx1 zx1 cx2 zx2 cx3 zx3 cx4 zx4 cx5 zx5 cx6 zx6 cx7 zx7 cx8 zx8 cx9 zx9
  have cx0 := x3.cell (j := 0) rfl
  have zx0 := x3.frz 0
  have cb0 := b3.cell (j := 0) rfl
  have cx1 := x3.cell (j := 1) rfl
  have zx1 := x3.frz 1
  have cb1 := b3.cell (j := 1) rfl
  have cx2 := x3.cell (j := 2) rfl
  have zx2 := x3.frz 2
  have cb2 := b3.cell (j := 2) rfl
  have cx3 := x3.cell (j := 3) rfl
  have zx3 := x3.frz 3
  have cb3 := b3.cell (j := 3) rfl
  have cx4 := x3.cell (j := 4) rfl
  have zx4 := x3.frz 4
  have cb4 := b3.cell (j := 4) rfl
  have cx5 := x3.cell (j := 5) rfl
  have zx5 := x3.frz 5
  have cb5 := b3.cell (j := 5) rfl
  have cx6 := x3.cell (j := 6) rfl
  have zx6 := x3.frz 6
  have cb6 := b3.cell (j := 6) rfl
  have cx7 := x3.cell (j := 7) rfl
  have zx7 := x3.frz 7
  have cb7 := b3.cell (j := 7) rfl
  have cx8 := x3.cell (j := 8) rfl
  have zx8 := x3.frz 8
  have cb8 := b3.cell (j := 8) rfl
  have cx9 := x3.cell (j := 9) rfl
  have zx9 := x3.frz 9
  have cb9 := b3.cell (j := 9) rfl
  have cy0 := y3.cell (j := 0) rfl
  have zy0 := y3.frz 0
  have HF : Aside (∀ W4 W5, w3.grownBy W4 (some w.heap.size) → W4.grownBy W5 (some (w.heap.size + 1)) → RecIn W5 r) := fun W4 W5 g1 g2 => by
    have h1 := hR3.far g1 (x3.far (by decide)) (x3.far (by decide)) (x3.far (by decide)) (x3.far (by decide))
    have y4 := y3.grown g1 (by simp)
    exact (h1.far g2 (y4.far (by decide)) (y4.far (by decide)) (y4.far (by decide)) (y4.far (by decide))).recIn
  clear x3 y3 b3 hR3
  go_wp2
  refine leaves_cons (f := 38) (args := #[.pointer (some ⟨w.heap.size, 0, none⟩), .pointer (some ⟨w.heap.size + 1, 0, none⟩)]) (by simp) (by simp [go_sem]) ?_
  refine (catch_idle ⟨w.heap.size, 0, none⟩ ⟨w.heap.size + 1, 0, none⟩ _).mono ?_
  rintro e u' w'' ⟨rfl, rfl, rfl⟩
  simp only [Leaves, settle, results, Try.results16]
  refine ⟨.tuple #[rcV r, .int .u16 0], ?_, ?_⟩
  · simp [rcV, rcC, go_sem, *]
  · refine ⟨r, rfl, HO.out.2, HF.out _ _ ?_ (grown_at _ _ _ _), ?_⟩
    · iterate 9 (refine grown_trans ?_ (grown_at _ _ _ _))
      exact grown_at _ _ _ _
    · repeat (first | with_reducible exact HB1.out | (with_reducible refine Below.alloc ?_ (by first | omega | (simp; omega)) _) | (with_reducible refine Below.setCell ?_ (by first | exact Nat.le_refl _ | (simp; done) | omega | (simp; omega)) _))

/-- what bytes tell -/
def dec (l : List UInt8) : Option PRec := (pRec l).bind fun y => if y.2.length = 0 ∧ sndRec y.1 = true then some y.1 else none
theorem decode_none (w : World) (a : Option Addr) (n c : Nat) (l : List UInt8) (hI : ByIn w a l) (hA : l ≠ [] → ∀ p, a = some p → p.block < w.heap.size) (hn : l.length = n) (hc : n ≤ c) (h6 : n ≤ 60000) (h : dec l = none) :
    Calls Try.prog 16 #[.slice a n c] w fun e w' => e = .returned (.tuple #[.agg recZ, .int .u16 70]) ∧ Below w.heap.size w w' := by
  cases hp : pRec l with
  | none => exact decode_miss w a n c l hI hA hn hc h6 hp
  | some q =>
    obtain ⟨x, rest⟩ := q
    by_cases hr : rest.length = 0
    · cases hs : sndRec x with
      | false => exact decode_bad w a n c l hI hA hn hc h6 x rest hp hr hs
      | true => unfold dec at h; rw [hp] at h; simp only [Option.bind_some] at h; rw [if_pos ⟨hr, hs⟩] at h; cases h
    · exact decode_rest w a n c l hI hA hn hc h6 x rest hp (by omega)
theorem decode_some (w : World) (a : Option Addr) (n c : Nat) (l : List UInt8) (hI : ByIn w a l) (hA : l ≠ [] → ∀ p, a = some p → p.block < w.heap.size) (hn : l.length = n) (hc : n ≤ c) (h6 : n ≤ 60000) (x : PRec) (h : dec l = some x) :
    Calls Try.prog 16 #[.slice a n c] w fun e w' => ∃ r, e = .returned (.tuple #[rcV r, .int .u16 0]) ∧ pr r = x ∧ RecIn w' r ∧ Below w.heap.size w w' := by
  cases hp : pRec l with
  | none => unfold dec at h; rw [hp] at h; cases h
  | some q =>
    obtain ⟨y, rest⟩ := q
    unfold dec at h
    rw [hp] at h
    simp only [Option.bind_some] at h
    split at h
    · rename_i hh
      injection h with h
      subst h
      exact decode_good w a n c l hI hA hn hc h6 y rest hp hh.1 hh.2
    · cases h
theorem dec_recB {x : PRec} (h : sndRec x = true) (ht : Typed x) : dec (recB x) = some x := by
  have := pRec_dec x h ht []
  rw [List.append_nil] at this
  unfold dec
  rw [this]
  simp [h]
theorem dec_is {l : List UInt8} {x : PRec} (h : dec l = some x) : l = recB x ∧ sndRec x = true := by
  unfold dec at h
  obtain ⟨⟨y, rest⟩, h1, h2⟩ := Option.bind_eq_some_iff.1 h
  split at h2
  · rename_i hh
    injection h2 with h2
    simp only at h2 hh
    subst h2
    have e := pRec_enc l y rest h1
    rw [List.eq_nil_of_length_eq_zero hh.1, List.append_nil] at e
    exact ⟨e, hh.2⟩
  · cases h2
end Go.Proofs.Ytlokamblbhooaaa.code
