/-
  The program's Decode.
-/
import Derived.Test.YtlokamblbhooaaaCodeReadRecK
import Derived.Test.YtlokamblbhooaaaCodeOut
import Derived.Test.YtlokamblbhooaaaCodeSound
import Derived.Test.YtlokamblbhooaaaCodeCatch
namespace Go.Proofs.Ytlokamblbhooaaa.code
open Go.ChangeShapes Go.WideShapes Go.ChangeAt Go.RowKit Go.Deep
open Go.Proofs.Ytlokamblbhooaaa.dims (nth Ints cell_lt vals vals_len vals_get vals_one vals_app own_below own_mono own_out own_apart RowOut ret_bool ret_int)
set_option linter.unusedVariables false
set_option maxRecDepth 100000
set_option linter.unusedSimpArgs false

theorem below_two {w w1 w2 w3 : World} {B h0 h1 : Nat} (hb : Below B w w1) (hB : B ≤ w1.heap.size) (g1 : w1.grownBy w2 (some h0)) (g2 : w2.grownBy w3 (some h1)) (e0 : B ≤ h0) (e1 : B ≤ h1) : Below B w w3 :=
  (hb.grown g1 hB fun q hq => by injection hq with hq; omega).grown g2 (Nat.le_trans hB g1.size) fun q hq => by injection hq with hq; omega
theorem below_one {w w1 w2 : World} {B h0 : Nat} (hb : Below B w w1) (hB : B ≤ w1.heap.size) (g1 : w1.grownBy w2 (some h0)) (e0 : B ≤ h0) : Below B w w2 :=
  hb.grown g1 hB fun q hq => by injection hq with hq; omega

set_option maxHeartbeats 8000000 in
theorem decode_miss (w : World) (a : Option Addr) (n c : Nat) (l : List UInt8) (hI : ByIn w a l) (hA : l ≠ [] → ∀ p, a = some p → p.block < w.heap.size) (hn : l.length = n) (hc : n ≤ c) (h6 : n ≤ 60000) (hp : pRec l = none) :
    Calls Try.prog 16 #[.slice a n c] w fun e w' => e = .returned (.tuple #[.agg recZ, .int .u16 70]) ∧ Below w.heap.size w w' := by
  have hlow : l ≠ [] → ∀ p, a = some p → p.block < w.heap.size + 2 := fun h0 p hp => by have := hA h0 p hp; omega
  have hb0 : Below w.heap.size w (((w.alloc (.cells #[.int .u8 0, .int .u32 0, .int .u32 0, .slice none 0 0, .slice none 0 0, .int .u32 0, .slice none 0 0, .int .i64 0, .int .i64 0, .slice none 0 0] 30)).alloc (.cells #[.int .u16 0] 35)).alloc (.cells #[.slice a n c] 77)) := by (repeat (first | with_reducible exact Below.refl _ _ | (with_reducible refine Below.drew ?_) | (with_reducible refine Below.alloc ?_ (by first | omega | (simp; done) | (simp; omega)) _) | (with_reducible refine Below.setCell ?_ (by first | exact Nat.le_refl _ | omega | (simp; done) | (simp; omega)) _)))
  have hx0 : Boxed (((w.alloc (.cells #[.int .u8 0, .int .u32 0, .int .u32 0, .slice none 0 0, .slice none 0 0, .int .u32 0, .slice none 0 0, .int .i64 0, .int .i64 0, .slice none 0 0] 30)).alloc (.cells #[.int .u16 0] 35)).alloc (.cells #[.slice a n c] 77)) w.heap.size recZ 30 := ((Boxed.new w recZ 30).grown (World.grownBy_alloc _ _ none) (by simp)).grown (World.grownBy_alloc _ _ none) (by simp)
  have hy0 : Boxed (((w.alloc (.cells #[.int .u8 0, .int .u32 0, .int .u32 0, .slice none 0 0, .slice none 0 0, .int .u32 0, .slice none 0 0, .int .i64 0, .int .i64 0, .slice none 0 0] 30)).alloc (.cells #[.int .u16 0] 35)).alloc (.cells #[.slice a n c] 77)) (w.heap.size + 1) #[.int .u16 0] 35 := by
    have := (Boxed.new (w.alloc (.cells #[.int .u8 0, .int .u32 0, .int .u32 0, .slice none 0 0, .slice none 0 0, .int .u32 0, .slice none 0 0, .int .i64 0, .int .i64 0, .slice none 0 0] 30)) #[.int .u16 0] 35).grown (World.grownBy_alloc _ (.cells #[.slice a n c] 77) none) (by simp)
    simpa using this
  have hr0 : Boxed (((w.alloc (.cells #[.int .u8 0, .int .u32 0, .int .u32 0, .slice none 0 0, .slice none 0 0, .int .u32 0, .slice none 0 0, .int .i64 0, .int .i64 0, .slice none 0 0] 30)).alloc (.cells #[.int .u16 0] 35)).alloc (.cells #[.slice a n c] 77)) (w.heap.size + 2) #[.slice a n c] 77 := by
    have := Boxed.new ((w.alloc (.cells #[.int .u8 0, .int .u32 0, .int .u32 0, .slice none 0 0, .slice none 0 0, .int .u32 0, .slice none 0 0, .int .i64 0, .int .i64 0, .slice none 0 0] 30)).alloc (.cells #[.int .u16 0] 35)) #[.slice a n c] 77
    simpa using this
  have hsz : (((w.alloc (.cells #[.int .u8 0, .int .u32 0, .int .u32 0, .slice none 0 0, .slice none 0 0, .int .u32 0, .slice none 0 0, .int .i64 0, .int .i64 0, .slice none 0 0] 30)).alloc (.cells #[.int .u16 0] 35)).alloc (.cells #[.slice a n c] 77)).heap.size = w.heap.size + 3 := by simp
  have hRd : RdL (w.heap.size + 2) (((w.alloc (.cells #[.int .u8 0, .int .u32 0, .int .u32 0, .slice none 0 0, .slice none 0 0, .int .u32 0, .slice none 0 0, .int .i64 0, .int .i64 0, .slice none 0 0] 30)).alloc (.cells #[.int .u16 0] 35)).alloc (.cells #[.slice a n c] 77)) l := ⟨a, n, c, hr0, hn, hc, hlow, hI.keep hb0⟩
  generalize hWW : ((w.alloc (.cells #[.int .u8 0, .int .u32 0, .int .u32 0, .slice none 0 0, .slice none 0 0, .int .u32 0, .slice none 0 0, .int .i64 0, .int .i64 0, .slice none 0 0] 30)).alloc (.cells #[.int .u16 0] 35)).alloc (.cells #[.slice a n c] 77) = W0 at hb0 hx0 hy0 hr0 hRd hsz
  have HW : Hid (_ = W0) := hWW
  have hC1 := readRec_any (w.heap.size + 2) (w.heap.size + 3) (by omega) W0 l (by omega) hRd (by omega)
  have hlz : ¬ (60000 : Int) < (n : Int) := by omega
  have H0 : Aside (Below w.heap.size w W0) := hb0
  clear hWW hb0 hlow hRd hr0 hI hA
  have hmf : ∀ (fn : Fn) (first cap : Array Value) (w : World), (Instr.makeFunc fn first cap).run Try.prog w = .ok (.func fn first cap) w := fun _ _ _ _ => rfl
  go_enter_defers Try.func16, Try.ntmps16
  go_wp2_with fail
  rw [HW.out]
  refine hC1.mono ?_
  intro e w1 hP
  obtain ⟨⟨m, rfl⟩, hgr⟩ := hP.miss hp
  have x1 := hx0.grown hgr (by simp only [ne_eq, Option.some.injEq]; omega)
  have y1 := hy0.grown hgr (by simp only [ne_eq, Option.some.injEq]; omega)
  have HB1 : Aside (Below w.heap.size w w1) := below_one H0.out H0.out.size hgr (by omega)
  refine leaves_cons (f := 38) (args := #[.pointer (some ⟨w.heap.size, 0, none⟩), .pointer (some ⟨w.heap.size + 1, 0, none⟩)]) (by simp) (by simp [go_sem]) ?_
  refine (catch_missing w.heap.size (w.heap.size + 1) m w1 _ x1 y1 (by omega)).mono ?_
  rintro e u' w2 ⟨rfl, rfl, hK⟩
  obtain ⟨⟨w3, g1, g2⟩, k0, k1⟩ := hK
  have HB2 : Aside (Below w.heap.size w w2) := below_two HB1.out HB1.out.size g1 g2 (by omega) (by omega)
  have c0 := k0.cell (j := 0) rfl
  have c1 := k0.cell (j := 1) rfl
  have c2 := k0.cell (j := 2) rfl
  have c3 := k0.cell (j := 3) rfl
  have c4 := k0.cell (j := 4) rfl
  have c5 := k0.cell (j := 5) rfl
  have c6 := k0.cell (j := 6) rfl
  have c7 := k0.cell (j := 7) rfl
  have c8 := k0.cell (j := 8) rfl
  have c9 := k0.cell (j := 9) rfl
  have d0 := k1.cell (j := 0) rfl
  simp [Leaves, settle, results, Try.results16, go_sem, *]
  exact ⟨rfl, HB2.out⟩

set_option maxHeartbeats 8000000 in
theorem decode_rest (w : World) (a : Option Addr) (n c : Nat) (l : List UInt8) (hI : ByIn w a l) (hA : l ≠ [] → ∀ p, a = some p → p.block < w.heap.size) (hn : l.length = n) (hc : n ≤ c) (h6 : n ≤ 60000) (x : PRec) (rest : List UInt8) (hp : pRec l = some (x, rest)) (hr0 : 0 < rest.length) :
    Calls Try.prog 16 #[.slice a n c] w fun e w' => e = .returned (.tuple #[.agg recZ, .int .u16 70]) ∧ Below w.heap.size w w' := by
  have hlow : l ≠ [] → ∀ p, a = some p → p.block < w.heap.size + 2 := fun h0 p hp => by have := hA h0 p hp; omega
  have hb0 : Below w.heap.size w (((w.alloc (.cells #[.int .u8 0, .int .u32 0, .int .u32 0, .slice none 0 0, .slice none 0 0, .int .u32 0, .slice none 0 0, .int .i64 0, .int .i64 0, .slice none 0 0] 30)).alloc (.cells #[.int .u16 0] 35)).alloc (.cells #[.slice a n c] 77)) := by (repeat (first | with_reducible exact Below.refl _ _ | (with_reducible refine Below.drew ?_) | (with_reducible refine Below.alloc ?_ (by first | omega | (simp; done) | (simp; omega)) _) | (with_reducible refine Below.setCell ?_ (by first | exact Nat.le_refl _ | omega | (simp; done) | (simp; omega)) _)))
  have hx0 : Boxed (((w.alloc (.cells #[.int .u8 0, .int .u32 0, .int .u32 0, .slice none 0 0, .slice none 0 0, .int .u32 0, .slice none 0 0, .int .i64 0, .int .i64 0, .slice none 0 0] 30)).alloc (.cells #[.int .u16 0] 35)).alloc (.cells #[.slice a n c] 77)) w.heap.size recZ 30 := ((Boxed.new w recZ 30).grown (World.grownBy_alloc _ _ none) (by simp)).grown (World.grownBy_alloc _ _ none) (by simp)
  have hy0 : Boxed (((w.alloc (.cells #[.int .u8 0, .int .u32 0, .int .u32 0, .slice none 0 0, .slice none 0 0, .int .u32 0, .slice none 0 0, .int .i64 0, .int .i64 0, .slice none 0 0] 30)).alloc (.cells #[.int .u16 0] 35)).alloc (.cells #[.slice a n c] 77)) (w.heap.size + 1) #[.int .u16 0] 35 := by
    have := (Boxed.new (w.alloc (.cells #[.int .u8 0, .int .u32 0, .int .u32 0, .slice none 0 0, .slice none 0 0, .int .u32 0, .slice none 0 0, .int .i64 0, .int .i64 0, .slice none 0 0] 30)) #[.int .u16 0] 35).grown (World.grownBy_alloc _ (.cells #[.slice a n c] 77) none) (by simp)
    simpa using this
  have hbx : Boxed (((w.alloc (.cells #[.int .u8 0, .int .u32 0, .int .u32 0, .slice none 0 0, .slice none 0 0, .int .u32 0, .slice none 0 0, .int .i64 0, .int .i64 0, .slice none 0 0] 30)).alloc (.cells #[.int .u16 0] 35)).alloc (.cells #[.slice a n c] 77)) (w.heap.size + 2) #[.slice a n c] 77 := by
    have := Boxed.new ((w.alloc (.cells #[.int .u8 0, .int .u32 0, .int .u32 0, .slice none 0 0, .slice none 0 0, .int .u32 0, .slice none 0 0, .int .i64 0, .int .i64 0, .slice none 0 0] 30)).alloc (.cells #[.int .u16 0] 35)) #[.slice a n c] 77
    simpa using this
  have hsz : (((w.alloc (.cells #[.int .u8 0, .int .u32 0, .int .u32 0, .slice none 0 0, .slice none 0 0, .int .u32 0, .slice none 0 0, .int .i64 0, .int .i64 0, .slice none 0 0] 30)).alloc (.cells #[.int .u16 0] 35)).alloc (.cells #[.slice a n c] 77)).heap.size = w.heap.size + 3 := by simp
  have hRd : RdL (w.heap.size + 2) (((w.alloc (.cells #[.int .u8 0, .int .u32 0, .int .u32 0, .slice none 0 0, .slice none 0 0, .int .u32 0, .slice none 0 0, .int .i64 0, .int .i64 0, .slice none 0 0] 30)).alloc (.cells #[.int .u16 0] 35)).alloc (.cells #[.slice a n c] 77)) l := ⟨a, n, c, hbx, hn, hc, hlow, hI.keep hb0⟩
  generalize hWW : ((w.alloc (.cells #[.int .u8 0, .int .u32 0, .int .u32 0, .slice none 0 0, .slice none 0 0, .int .u32 0, .slice none 0 0, .int .i64 0, .int .i64 0, .slice none 0 0] 30)).alloc (.cells #[.int .u16 0] 35)).alloc (.cells #[.slice a n c] 77) = W0 at hb0 hx0 hy0 hbx hRd hsz
  have HW : Hid (_ = W0) := hWW
  have hC1 := readRec_any (w.heap.size + 2) (w.heap.size + 3) (by omega) W0 l (by omega) hRd (by omega)
  have hlz : ¬ (60000 : Int) < (n : Int) := by omega
  have H0 : Aside (Below w.heap.size w W0) := hb0
  clear hWW hb0 hlow hRd hbx hI hA
  have hmf : ∀ (fn : Fn) (first cap : Array Value) (w : World), (Instr.makeFunc fn first cap).run Try.prog w = .ok (.func fn first cap) w := fun _ _ _ _ => rfl
  go_enter_defers Try.func16, Try.ntmps16
  go_wp2_with fail
  rw [HW.out]
  refine hC1.mono ?_
  intro e w1 hP
  obtain ⟨v1, rfl, ⟨r, rfl, hpr, hO⟩, hW1⟩ := hP.got hp
  have x1 := hx0.grown hW1.grown (by simp only [ne_eq, Option.some.injEq]; omega)
  have y1 := hy0.grown hW1.grown (by simp only [ne_eq, Option.some.injEq]; omega)
  have HB1 : Aside (Below w.heap.size w w1) := below_one H0.out H0.out.size hW1.grown (by omega)
  obtain ⟨a', n', c', hr⟩ := hW1.rdr
  have q0 := hr.cell
  have hn' : n' = rest.length := hr.len.symm
  have hs1 : w.heap.size + 3 ≤ w1.heap.size := by have := hW1.grown.size; omega
  have hl0 : w.heap.size < w1.heap.size := by omega
  have hl1 : w.heap.size + 1 < w1.heap.size := by omega
  have hl2 : w.heap.size + 2 < w1.heap.size := by omega
  have HO : Aside (RcOwn (w.heap.size + 3) w1 r ∧ pr r = x) := ⟨hO, hpr⟩
  have HX : Aside (Boxed w1 w.heap.size recZ 30 ∧ Boxed w1 (w.heap.size + 1) #[.int .u16 0] 35) := ⟨x1, y1⟩
  have cx0 := x1.cell (j := 0) rfl
  have zx0 := x1.frz 0
  have cx1 := x1.cell (j := 1) rfl
  have zx1 := x1.frz 1
  have cx2 := x1.cell (j := 2) rfl
  have zx2 := x1.frz 2
  have cx3 := x1.cell (j := 3) rfl
  have zx3 := x1.frz 3
  have cx4 := x1.cell (j := 4) rfl
  have zx4 := x1.frz 4
  have cx5 := x1.cell (j := 5) rfl
  have zx5 := x1.frz 5
  have cx6 := x1.cell (j := 6) rfl
  have zx6 := x1.frz 6
  have cx7 := x1.cell (j := 7) rfl
  have zx7 := x1.frz 7
  have cx8 := x1.cell (j := 8) rfl
  have zx8 := x1.frz 8
  have cx9 := x1.cell (j := 9) rfl
  have zx9 := x1.frz 9
  have cy0 := y1.cell (j := 0) rfl
  have zy0 := y1.frz 0
  clear hC1 hP HW hx0 hy0 H0 hW1 hr hO hpr x1 y1
  show _
  unfold rcV rcC
  have hnz : (0 : Int) < (n' : Int) := by omega
  clear hn'
  go_wp2
  refine leaves_cons (f := 38) (args := #[.pointer (some ⟨w.heap.size, 0, none⟩), .pointer (some ⟨w.heap.size + 1, 0, none⟩)]) (by simp) (by simp [go_sem]) ?_
  refine (catch_idle ⟨w.heap.size, 0, none⟩ ⟨w.heap.size + 1, 0, none⟩ _).mono ?_
  rintro e u' w'' ⟨rfl, rfl, rfl⟩
  simp [Leaves, settle, results, Try.results16, go_sem, *]
  refine ⟨rfl, ?_⟩
  repeat (first | with_reducible exact HB1.out | (with_reducible refine Below.alloc ?_ (by first | omega | (simp; omega)) _) | (with_reducible refine Below.setCell ?_ (by first | exact Nat.le_refl _ | (simp; done) | omega | (simp; omega)) _))
end Go.Proofs.Ytlokamblbhooaaa.code
