/-
 The program's Decode.
 The program's Decode, of bytes that a record uses up.
 Numbers laid behind bytes: the chapter's Put, the program's lay at each of its types.
-/
import Derived.Test.YtlcjllgfpfldlaaWalJ23K
import Derived.Test.YtlcjllgfpfldlaaWalJ21K
import Derived.Test.YtlcjllgfpfldlaaWalJ27K
import Derived.Test.YtlcjllgfpfldlaaWalJ19K
namespace Go.Proofs.Ytlcjllgfpfldlaa.code
open Go.ChangeShapes Go.WideShapes Go.ChangeAt Go.RowKit Go.Deep
open Go.Proofs.Ytlcjllgfpfldlaa.dims (nth Ints cell_lt vals vals_len vals_get own_below own_mono own_out RowOut ret_bool)
set_option linter.unusedVariables false
set_option maxRecDepth 100000
set_option linter.unusedSimpArgs false

theorem below_two {w w1 w2 w3 : World} {B h0 h1 : Nat} (hb : Below B w w1) (hB : B ≤ w1.heap.size) (g1 : w1.grownBy w2 (some h0)) (g2 : w2.grownBy w3 (some h1)) (e0 : B ≤ h0) (e1 : B ≤ h1) : Below B w w3 :=
 (hb.grown g1 hB fun q hq => by injection hq with hq; omega).grown g2 (Nat.le_trans hB g1.size) fun q hq => by injection hq with hq; omega
theorem below_one {w w1 w2 : World} {B h0 : Nat} (hb : Below B w w1) (hB : B ≤ w1.heap.size) (g1 : w1.grownBy w2 (some h0)) (e0 : B ≤ h0) : Below B w w2 :=
 hb.grown g1 hB fun q hq => by injection hq with hq; omega

set_option maxHeartbeats 8000000 in
theorem decode_miss (w : World) (a : Option Addr) (n c : Nat) (l : List UInt8) (hI : ByIn w a l) (hA : l ≠ [] → ∀ p, a = some p → p.block < w.heap.size) (hn : l.length = n) (hc : n ≤ c) (h6 : n ≤ 60000) (hp : pRec l = none) :
  Calls Try.prog 36 #[.slice a n c] w fun e w' => e = .returned (.tuple #[.agg recZ, .int .u16 70]) ∧ Below w.heap.size w w' := by
 have hlow : l ≠ [] → ∀ p, a = some p → p.block < w.heap.size + 2 := fun h0 p hp => by have := hA h0 p hp; omega
 have hb0 : Below w.heap.size w (((w.alloc (.cells #[.int .u8 0, .int .u32 0, .int .u32 0, .slice none 0 0, .slice none 0 0, .int .u32 0, .slice none 0 0, .int .i64 0, .int .i64 0, .slice none 0 0] 44)).alloc (.cells #[.int .u16 0] 30)).alloc (.cells #[.slice a n c] 104)) := by (repeat (first | with_reducible exact Below.refl _ _ | (with_reducible refine Below.drew ?_) | (with_reducible refine Below.alloc ?_ (by first | omega | (simp; done) | (simp; omega)) _) | (with_reducible refine Below.setCell ?_ (by first | exact Nat.le_refl _ | omega | (simp; done) | (simp; omega)) _)))
 have hx0 : Boxed (((w.alloc (.cells #[.int .u8 0, .int .u32 0, .int .u32 0, .slice none 0 0, .slice none 0 0, .int .u32 0, .slice none 0 0, .int .i64 0, .int .i64 0, .slice none 0 0] 44)).alloc (.cells #[.int .u16 0] 30)).alloc (.cells #[.slice a n c] 104)) w.heap.size recZ 44 := ((Boxed.new w recZ 44).grown (World.grownBy_alloc _ _ none) (by simp)).grown (World.grownBy_alloc _ _ none) (by simp)
 have hy0 : Boxed (((w.alloc (.cells #[.int .u8 0, .int .u32 0, .int .u32 0, .slice none 0 0, .slice none 0 0, .int .u32 0, .slice none 0 0, .int .i64 0, .int .i64 0, .slice none 0 0] 44)).alloc (.cells #[.int .u16 0] 30)).alloc (.cells #[.slice a n c] 104)) (w.heap.size + 1) #[.int .u16 0] 30 := by
  have := (Boxed.new (w.alloc (.cells #[.int .u8 0, .int .u32 0, .int .u32 0, .slice none 0 0, .slice none 0 0, .int .u32 0, .slice none 0 0, .int .i64 0, .int .i64 0, .slice none 0 0] 44)) #[.int .u16 0] 30).grown (World.grownBy_alloc _ (.cells #[.slice a n c] 104) none) (by simp)
  simpa using this
 have hr0 : Boxed (((w.alloc (.cells #[.int .u8 0, .int .u32 0, .int .u32 0, .slice none 0 0, .slice none 0 0, .int .u32 0, .slice none 0 0, .int .i64 0, .int .i64 0, .slice none 0 0] 44)).alloc (.cells #[.int .u16 0] 30)).alloc (.cells #[.slice a n c] 104)) (w.heap.size + 2) #[.slice a n c] 104 := by
  have := Boxed.new ((w.alloc (.cells #[.int .u8 0, .int .u32 0, .int .u32 0, .slice none 0 0, .slice none 0 0, .int .u32 0, .slice none 0 0, .int .i64 0, .int .i64 0, .slice none 0 0] 44)).alloc (.cells #[.int .u16 0] 30)) #[.slice a n c] 104
  simpa using this
 have hsz : (((w.alloc (.cells #[.int .u8 0, .int .u32 0, .int .u32 0, .slice none 0 0, .slice none 0 0, .int .u32 0, .slice none 0 0, .int .i64 0, .int .i64 0, .slice none 0 0] 44)).alloc (.cells #[.int .u16 0] 30)).alloc (.cells #[.slice a n c] 104)).heap.size = w.heap.size + 3 := by simp
 have hRd : RdL (w.heap.size + 2) (((w.alloc (.cells #[.int .u8 0, .int .u32 0, .int .u32 0, .slice none 0 0, .slice none 0 0, .int .u32 0, .slice none 0 0, .int .i64 0, .int .i64 0, .slice none 0 0] 44)).alloc (.cells #[.int .u16 0] 30)).alloc (.cells #[.slice a n c] 104)) l := ⟨a, n, c, hr0, hn, hc, hlow, hI.keep hb0⟩
 generalize hWW : ((w.alloc (.cells #[.int .u8 0, .int .u32 0, .int .u32 0, .slice none 0 0, .slice none 0 0, .int .u32 0, .slice none 0 0, .int .i64 0, .int .i64 0, .slice none 0 0] 44)).alloc (.cells #[.int .u16 0] 30)).alloc (.cells #[.slice a n c] 104) = W0 at hb0 hx0 hy0 hr0 hRd hsz
 have HW : Hid (_ = W0) := hWW
 have hC1 := readRec_any (w.heap.size + 2) (w.heap.size + 3) (by omega) W0 l (by omega) hRd (by omega)
 have hlz : ¬ (60000 : Int) < (n : Int) := by omega
 have H0 : Aside (Below w.heap.size w W0) := hb0
 clear hWW hb0 hlow hRd hr0 hI hA
 have hmf : ∀ (fn : Fn) (first cap : Array Value) (w : World), (Instr.makeFunc fn first cap).run Try.prog w = .ok (.func fn first cap) w := fun _ _ _ _ => rfl
 go_enter_defers Try.func36, Try.ntmps36
 go_wp2_with fail
 rw [HW.out]
 refine hC1.mono ?_
 intro e w1 hP
 obtain ⟨⟨m, rfl⟩, hgr⟩ := hP.miss hp
 have x1 := hx0.grown hgr (by simp only [ne_eq, Option.some.injEq]; omega)
 have y1 := hy0.grown hgr (by simp only [ne_eq, Option.some.injEq]; omega)
 have HB1 : Aside (Below w.heap.size w w1) := below_one H0.out H0.out.size hgr (by omega)
 refine leaves_cons (f := 48) (args := #[.pointer (some ⟨w.heap.size, 0, none⟩), .pointer (some ⟨w.heap.size + 1, 0, none⟩)]) (by simp) (by simp [go_sem]) ?_
 refine (catch_missing w.heap.size (w.heap.size + 1) m w1 _ x1 y1 (by omega)).mono ?_
 rintro e u' w2 ⟨rfl, rfl, hK⟩
 obtain ⟨⟨w3, g1, g2⟩, k0, k1⟩ := hK
 have HB2 : Aside (Below w.heap.size w w2) := below_two HB1.out HB1.out.size g1 g2 (by omega) (by omega)
 have c0 := k0.cell (j := 0) rfl
 have c1 := k0.cell (j := 1) rfl
 have c2 := k0.cell (j := 2) rfl
 have c3 := k0.cell (j := 3) rfl
 have c4 := k0.cell (j := 4) rfl
 have c5 := k0.cell (j := 5) rfl
 have c6 := k0.cell (j := 6) rfl
 have c7 := k0.cell (j := 7) rfl
 have c8 := k0.cell (j := 8) rfl
 have c9 := k0.cell (j := 9) rfl
 have d0 := k1.cell (j := 0) rfl
 simp [Leaves, settle, results, Try.results36, go_sem, *]
 exact ⟨rfl, HB2.out⟩

set_option maxHeartbeats 8000000 in
theorem decode_rest (w : World) (a : Option Addr) (n c : Nat) (l : List UInt8) (hI : ByIn w a l) (hA : l ≠ [] → ∀ p, a = some p → p.block < w.heap.size) (hn : l.length = n) (hc : n ≤ c) (h6 : n ≤ 60000) (x : PRec) (rest : List UInt8) (hp : pRec l = some (x, rest)) (hr0 : 0 < rest.length) :
  Calls Try.prog 36 #[.slice a n c] w fun e w' => e = .returned (.tuple #[.agg recZ, .int .u16 70]) ∧ Below w.heap.size w w' := by
 have hlow : l ≠ [] → ∀ p, a = some p → p.block < w.heap.size + 2 := fun h0 p hp => by have := hA h0 p hp; omega
 have hb0 : Below w.heap.size w (((w.alloc (.cells #[.int .u8 0, .int .u32 0, .int .u32 0, .slice none 0 0, .slice none 0 0, .int .u32 0, .slice none 0 0, .int .i64 0, .int .i64 0, .slice none 0 0] 44)).alloc (.cells #[.int .u16 0] 30)).alloc (.cells #[.slice a n c] 104)) := by (repeat (first | with_reducible exact Below.refl _ _ | (with_reducible refine Below.drew ?_) | (with_reducible refine Below.alloc ?_ (by first | omega | (simp; done) | (simp; omega)) _) | (with_reducible refine Below.setCell ?_ (by first | exact Nat.le_refl _ | omega | (simp; done) | (simp; omega)) _)))
 have hx0 : Boxed (((w.alloc (.cells #[.int .u8 0, .int .u32 0, .int .u32 0, .slice none 0 0, .slice none 0 0, .int .u32 0, .slice none 0 0, .int .i64 0, .int .i64 0, .slice none 0 0] 44)).alloc (.cells #[.int .u16 0] 30)).alloc (.cells #[.slice a n c] 104)) w.heap.size recZ 44 := ((Boxed.new w recZ 44).grown (World.grownBy_alloc _ _ none) (by simp)).grown (World.grownBy_alloc _ _ none) (by simp)
 have hy0 : Boxed (((w.alloc (.cells #[.int .u8 0, .int .u32 0, .int .u32 0, .slice none 0 0, .slice none 0 0, .int .u32 0, .slice none 0 0, .int .i64 0, .int .i64 0, .slice none 0 0] 44)).alloc (.cells #[.int .u16 0] 30)).alloc (.cells #[.slice a n c] 104)) (w.heap.size + 1) #[.int .u16 0] 30 := by
  have := (Boxed.new (w.alloc (.cells #[.int .u8 0, .int .u32 0, .int .u32 0, .slice none 0 0, .slice none 0 0, .int .u32 0, .slice none 0 0, .int .i64 0, .int .i64 0, .slice none 0 0] 44)) #[.int .u16 0] 30).grown (World.grownBy_alloc _ (.cells #[.slice a n c] 104) none) (by simp)
  simpa using this
 have hbx : Boxed (((w.alloc (.cells #[.int .u8 0, .int .u32 0, .int .u32 0, .slice none 0 0, .slice none 0 0, .int .u32 0, .slice none 0 0, .int .i64 0, .int .i64 0, .slice none 0 0] 44)).alloc (.cells #[.int .u16 0] 30)).alloc (.cells #[.slice a n c] 104)) (w.heap.size + 2) #[.slice a n c] 104 := by
  have := Boxed.new ((w.alloc (.cells #[.int .u8 0, .int .u32 0, .int .u32 0, .slice none 0 0, .slice none 0 0, .int .u32 0, .slice none 0 0, .int .i64 0, .int .i64 0, .slice none 0 0] 44)).alloc (.cells #[.int .u16 0] 30)) #[.slice a n c] 104
  simpa using this
 have hsz : (((w.alloc (.cells #[.int .u8 0, .int .u32 0, .int .u32 0, .slice none 0 0, .slice none 0 0, .int .u32 0, .slice none 0 0, .int .i64 0, .int .i64 0, .slice none 0 0] 44)).alloc (.cells #[.int .u16 0] 30)).alloc (.cells #[.slice a n c] 104)).heap.size = w.heap.size + 3 := by simp
 have hRd : RdL (w.heap.size + 2) (((w.alloc (.cells #[.int .u8 0, .int .u32 0, .int .u32 0, .slice none 0 0, .slice none 0 0, .int .u32 0, .slice none 0 0, .int .i64 0, .int .i64 0, .slice none 0 0] 44)).alloc (.cells #[.int .u16 0] 30)).alloc (.cells #[.slice a n c] 104)) l := ⟨a, n, c, hbx, hn, hc, hlow, hI.keep hb0⟩
 generalize hWW : ((w.alloc (.cells #[.int .u8 0, .int .u32 0, .int .u32 0, .slice none 0 0, .slice none 0 0, .int .u32 0, .slice none 0 0, .int .i64 0, .int .i64 0, .slice none 0 0] 44)).alloc (.cells #[.int .u16 0] 30)).alloc (.cells #[.slice a n c] 104) = W0 at hb0 hx0 hy0 hbx hRd hsz
 have HW : Hid (_ = W0) := hWW
 have hC1 := readRec_any (w.heap.size + 2) (w.heap.size + 3) (by omega) W0 l (by omega) hRd (by omega)
 have hlz : ¬ (60000 : Int) < (n : Int) := by omega
 have H0 : Aside (Below w.heap.size w W0) := hb0
 clear hWW hb0 hlow hRd hbx hI hA
 have hmf : ∀ (fn : Fn) (first cap : Array Value) (w : World), (Instr.makeFunc fn first cap).run Try.prog w = .ok (.func fn first cap) w := fun _ _ _ _ => rfl
 go_enter_defers Try.func36, Try.ntmps36
 go_wp2_with fail
 rw [HW.out]
 refine hC1.mono ?_
 intro e w1 hP
 obtain ⟨v1, rfl, ⟨r, rfl, hpr, hO⟩, hW1⟩ := hP.got hp
 have x1 := hx0.grown hW1.grown (by simp only [ne_eq, Option.some.injEq]; omega)
 have y1 := hy0.grown hW1.grown (by simp only [ne_eq, Option.some.injEq]; omega)
 have HB1 : Aside (Below w.heap.size w w1) := below_one H0.out H0.out.size hW1.grown (by omega)
 obtain ⟨a', n', c', hr⟩ := hW1.rdr
 have q0 := hr.cell
 have hn' : n' = rest.length := hr.len.symm
 have hs1 : w.heap.size + 3 ≤ w1.heap.size := by have := hW1.grown.size; omega
 have hl0 : w.heap.size < w1.heap.size := by omega
 have hl1 : w.heap.size + 1 < w1.heap.size := by omega
 have hl2 : w.heap.size + 2 < w1.heap.size := by omega
 have HO : Aside (RcOwn (w.heap.size + 3) w1 r ∧ pr r = x) := ⟨hO, hpr⟩
 have HX : Aside (Boxed w1 w.heap.size recZ 44 ∧ Boxed w1 (w.heap.size + 1) #[.int .u16 0] 30) := ⟨x1, y1⟩
 have cx0 := x1.cell (j := 0) rfl
 have zx0 := x1.frz 0
 have cx1 := x1.cell (j := 1) rfl
 have zx1 := x1.frz 1
 have cx2 := x1.cell (j := 2) rfl
 have zx2 := x1.frz 2
 have cx3 := x1.cell (j := 3) rfl
 have zx3 := x1.frz 3
 have cx4 := x1.cell (j := 4) rfl
 have zx4 := x1.frz 4
 have cx5 := x1.cell (j := 5) rfl
 have zx5 := x1.frz 5
 have cx6 := x1.cell (j := 6) rfl
 have zx6 := x1.frz 6
 have cx7 := x1.cell (j := 7) rfl
 have zx7 := x1.frz 7
 have cx8 := x1.cell (j := 8) rfl
 have zx8 := x1.frz 8
 have cx9 := x1.cell (j := 9) rfl
 have zx9 := x1.frz 9
 have cy0 := y1.cell (j := 0) rfl
 have zy0 := y1.frz 0
 clear hC1 hP HW hx0 hy0 H0 hW1 hr hO hpr x1 y1
 show _
 unfold rcV rcC
 have hnz : (0 : Int) < (n' : Int) := by omega
 clear hn'
 go_wp2
 refine leaves_cons (f := 48) (args := #[.pointer (some ⟨w.heap.size, 0, none⟩), .pointer (some ⟨w.heap.size + 1, 0, none⟩)]) (by simp) (by simp [go_sem]) ?_
 refine (catch_idle ⟨w.heap.size, 0, none⟩ ⟨w.heap.size + 1, 0, none⟩ _).mono ?_
 rintro e u' w'' ⟨rfl, rfl, rfl⟩
 simp [Leaves, settle, results, Try.results36, go_sem, *]
 refine ⟨rfl, ?_⟩
 repeat (first | with_reducible exact HB1.out | (with_reducible refine Below.alloc ?_ (by first | omega | (simp; omega)) _) | (with_reducible refine Below.setCell ?_ (by first | exact Nat.le_refl _ | (simp; done) | omega | (simp; omega)) _))
end Go.Proofs.Ytlcjllgfpfldlaa.code

namespace Go.Proofs.Ytlcjllgfpfldlaa.code
open Go.ChangeShapes Go.WideShapes Go.ChangeAt Go.RowKit Go.Deep
open Go.Proofs.Ytlcjllgfpfldlaa.dims (nth Ints cell_lt vals vals_len vals_get own_below own_mono own_out RowOut ret_bool)
set_option linter.unusedVariables false
set_option maxRecDepth 100000
set_option linter.unusedSimpArgs false


set_option maxHeartbeats 8000000 in
theorem decode_bad (w : World) (a : Option Addr) (n c : Nat) (l : List UInt8) (hI : ByIn w a l) (hA : l ≠ [] → ∀ p, a = some p → p.block < w.heap.size) (hn : l.length = n) (hc : n ≤ c) (h6 : n ≤ 60000) (x : PRec) (rest : List UInt8) (hp : pRec l = some (x, rest)) (hr0 : rest.length = 0) (hsnd : sndRec x = false) :
  Calls Try.prog 36 #[.slice a n c] w fun e w' => e = .returned (.tuple #[.agg recZ, .int .u16 70]) ∧ Below w.heap.size w w' := by
 have hlow : l ≠ [] → ∀ p, a = some p → p.block < w.heap.size + 2 := fun h0 p hp => by have := hA h0 p hp; omega
 have hb0 : Below w.heap.size w (((w.alloc (.cells #[.int .u8 0, .int .u32 0, .int .u32 0, .slice none 0 0, .slice none 0 0, .int .u32 0, .slice none 0 0, .int .i64 0, .int .i64 0, .slice none 0 0] 44)).alloc (.cells #[.int .u16 0] 30)).alloc (.cells #[.slice a n c] 104)) := by (repeat (first | with_reducible exact Below.refl _ _ | (with_reducible refine Below.drew ?_) | (with_reducible refine Below.alloc ?_ (by first | omega | (simp; done) | (simp; omega)) _) | (with_reducible refine Below.setCell ?_ (by first | exact Nat.le_refl _ | omega | (simp; done) | (simp; omega)) _)))
 have hx0 : Boxed (((w.alloc (.cells #[.int .u8 0, .int .u32 0, .int .u32 0, .slice none 0 0, .slice none 0 0, .int .u32 0, .slice none 0 0, .int .i64 0, .int .i64 0, .slice none 0 0] 44)).alloc (.cells #[.int .u16 0] 30)).alloc (.cells #[.slice a n c] 104)) w.heap.size recZ 44 := ((Boxed.new w recZ 44).grown (World.grownBy_alloc _ _ none) (by simp)).grown (World.grownBy_alloc _ _ none) (by simp)
 have hy0 : Boxed (((w.alloc (.cells #[.int .u8 0, .int .u32 0, .int .u32 0, .slice none 0 0, .slice none 0 0, .int .u32 0, .slice none 0 0, .int .i64 0, .int .i64 0, .slice none 0 0] 44)).alloc (.cells #[.int .u16 0] 30)).alloc (.cells #[.slice a n c] 104)) (w.heap.size + 1) #[.int .u16 0] 30 := by
  have := (Boxed.new (w.alloc (.cells #[.int .u8 0, .int .u32 0, .int .u32 0, .slice none 0 0, .slice none 0 0, .int .u32 0, .slice none 0 0, .int .i64 0, .int .i64 0, .slice none 0 0] 44)) #[.int .u16 0] 30).grown (World.grownBy_alloc _ (.cells #[.slice a n c] 104) none) (by simp)
  simpa using this
 have hbx : Boxed (((w.alloc (.cells #[.int .u8 0, .int .u32 0, .int .u32 0, .slice none 0 0, .slice none 0 0, .int .u32 0, .slice none 0 0, .int .i64 0, .int .i64 0, .slice none 0 0] 44)).alloc (.cells #[.int .u16 0] 30)).alloc (.cells #[.slice a n c] 104)) (w.heap.size + 2) #[.slice a n c] 104 := by
  have := Boxed.new ((w.alloc (.cells #[.int .u8 0, .int .u32 0, .int .u32 0, .slice none 0 0, .slice none 0 0, .int .u32 0, .slice none 0 0, .int .i64 0, .int .i64 0, .slice none 0 0] 44)).alloc (.cells #[.int .u16 0] 30)) #[.slice a n c] 104
  simpa using this
 have hsz : (((w.alloc (.cells #[.int .u8 0, .int .u32 0, .int .u32 0, .slice none 0 0, .slice none 0 0, .int .u32 0, .slice none 0 0, .int .i64 0, .int .i64 0, .slice none 0 0] 44)).alloc (.cells #[.int .u16 0] 30)).alloc (.cells #[.slice a n c] 104)).heap.size = w.heap.size + 3 := by simp
 have hRd : RdL (w.heap.size + 2) (((w.alloc (.cells #[.int .u8 0, .int .u32 0, .int .u32 0, .slice none 0 0, .slice none 0 0, .int .u32 0, .slice none 0 0, .int .i64 0, .int .i64 0, .slice none 0 0] 44)).alloc (.cells #[.int .u16 0] 30)).alloc (.cells #[.slice a n c] 104)) l := ⟨a, n, c, hbx, hn, hc, hlow, hI.keep hb0⟩
 generalize hWW : ((w.alloc (.cells #[.int .u8 0, .int .u32 0, .int .u32 0, .slice none 0 0, .slice none 0 0, .int .u32 0, .slice none 0 0, .int .i64 0, .int .i64 0, .slice none 0 0] 44)).alloc (.cells #[.int .u16 0] 30)).alloc (.cells #[.slice a n c] 104) = W0 at hb0 hx0 hy0 hbx hRd hsz
 have HW : Hid (_ = W0) := hWW
 have hC1 := readRec_any (w.heap.size + 2) (w.heap.size + 3) (by omega) W0 l (by omega) hRd (by omega)
 have hlz : ¬ (60000 : Int) < (n : Int) := by omega
 have H0 : Aside (Below w.heap.size w W0) := hb0
 clear hWW hb0 hlow hRd hbx hI hA
 have hmf : ∀ (fn : Fn) (first cap : Array Value) (w : World), (Instr.makeFunc fn first cap).run Try.prog w = .ok (.func fn first cap) w := fun _ _ _ _ => rfl
 go_enter_defers Try.func36, Try.ntmps36
 go_wp2_with fail
 rw [HW.out]
 refine hC1.mono ?_
 intro e w1 hP
 obtain ⟨v1, rfl, ⟨r, rfl, hpr, hO⟩, hW1⟩ := hP.got hp
 have x1 := hx0.grown hW1.grown (by simp only [ne_eq, Option.some.injEq]; omega)
 have y1 := hy0.grown hW1.grown (by simp only [ne_eq, Option.some.injEq]; omega)
 have HB1 : Aside (Below w.heap.size w w1) := below_one H0.out H0.out.size hW1.grown (by omega)
 obtain ⟨a', n', c', hr⟩ := hW1.rdr
 have q0 := hr.cell
 have hn' : n' = rest.length := hr.len.symm
 have hs1 : w.heap.size + 3 ≤ w1.heap.size := by have := hW1.grown.size; omega
 have hl0 : w.heap.size < w1.heap.size := by omega
 have hl1 : w.heap.size + 1 < w1.heap.size := by omega
 have hl2 : w.heap.size + 2 < w1.heap.size := by omega
 have HO : Aside (RcOwn (w.heap.size + 3) w1 r ∧ pr r = x) := ⟨hO, hpr⟩
 have HX : Aside (Boxed w1 w.heap.size recZ 44 ∧ Boxed w1 (w.heap.size + 1) #[.int .u16 0] 30) := ⟨x1, y1⟩
 have cx0 := x1.cell (j := 0) rfl
 have zx0 := x1.frz 0
 have cx1 := x1.cell (j := 1) rfl
 have zx1 := x1.frz 1
 have cx2 := x1.cell (j := 2) rfl
 have zx2 := x1.frz 2
 have cx3 := x1.cell (j := 3) rfl
 have zx3 := x1.frz 3
 have cx4 := x1.cell (j := 4) rfl
 have zx4 := x1.frz 4
 have cx5 := x1.cell (j := 5) rfl
 have zx5 := x1.frz 5
 have cx6 := x1.cell (j := 6) rfl
 have zx6 := x1.frz 6
 have cx7 := x1.cell (j := 7) rfl
 have zx7 := x1.frz 7
 have cx8 := x1.cell (j := 8) rfl
 have zx8 := x1.frz 8
 have cx9 := x1.cell (j := 9) rfl
 have zx9 := x1.frz 9
 have cy0 := y1.cell (j := 0) rfl
 have zy0 := y1.frz 0
 clear hC1 hP HW hx0 hy0 H0 hW1 hr hO hpr x1 y1
 show _
 unfold rcV rcC
 have hnz : ¬ (0 : Int) < (n' : Int) := by omega
 have hga : w1.grownBy (w1.alloc (.cells #[.int .u8 r.kind, .int .u32 r.id, .int .u32 r.at_, .slice r.na r.nodes.length r.nc, .slice r.fa r.facts.length r.fc, .int .u32 r.epoch, .slice r.sa r.spans.length r.sc, .int .i64 r.frm, .int .i64 r.til, .slice r.ea r.ents.length r.ec] 44)) none := World.grownBy_alloc _ _ _
 have hRo : RcOwn (w.heap.size + 3) (w1.alloc (.cells #[.int .u8 r.kind, .int .u32 r.id, .int .u32 r.at_, .slice r.na r.nodes.length r.nc, .slice r.fa r.facts.length r.fc, .int .u32 r.epoch, .slice r.sa r.spans.length r.sc, .int .i64 r.frm, .int .i64 r.til, .slice r.ea r.ents.length r.ec] 44)) r := HO.out.1.far hga (far_none _ _) (far_none _ _) (far_none _ _) (far_none _ _)
 have x2 := HX.out.1.grown hga (by simp)
 have y2 := HX.out.2.grown hga (by simp)
 have b2 := Boxed.new w1 #[.int .u8 r.kind, .int .u32 r.id, .int .u32 r.at_, .slice r.na r.nodes.length r.nc, .slice r.fa r.facts.length r.fc, .int .u32 r.epoch, .slice r.sa r.spans.length r.sc, .int .i64 r.frm, .int .i64 r.til, .slice r.ea r.ents.length r.ec] 44
 have HB2 : Aside (Below w.heap.size w (w1.alloc (.cells #[.int .u8 r.kind, .int .u32 r.id, .int .u32 r.at_, .slice r.na r.nodes.length r.nc, .slice r.fa r.facts.length r.fc, .int .u32 r.epoch, .slice r.sa r.spans.length r.sc, .int .i64 r.frm, .int .i64 r.til, .slice r.ea r.ents.length r.ec] 44))) := HB1.out.alloc (by omega) _
 have hs2 : (w1.alloc (.cells #[.int .u8 r.kind, .int .u32 r.id, .int .u32 r.at_, .slice r.na r.nodes.length r.nc, .slice r.fa r.facts.length r.fc, .int .u32 r.epoch, .slice r.sa r.spans.length r.sc, .int .i64 r.frm, .int .i64 r.til, .slice r.ea r.ents.length r.ec] 44)).heap.size = w1.heap.size + 1 := by simp
 have hC2 := sound_any _ r hRo.recIn
 rw [HO.out.2, hsnd] at hC2
 generalize hW2 : w1.alloc (.cells #[.int .u8 r.kind, .int .u32 r.id, .int .u32 r.at_, .slice r.na r.nodes.length r.nc, .slice r.fa r.facts.length r.fc, .int .u32 r.epoch, .slice r.sa r.spans.length r.sc, .int .i64 r.frm, .int .i64 r.til, .slice r.ea r.ents.length r.ec] 44) = W2 at hga hRo x2 y2 b2 HB2 hs2 hC2
 have HW2 : Hid (w1.alloc (.cells #[.int .u8 r.kind, .int .u32 r.id, .int .u32 r.at_, .slice r.na r.nodes.length r.nc, .slice r.fa r.facts.length r.fc, .int .u32 r.epoch, .slice r.sa r.spans.length r.sc, .int .i64 r.frm, .int .i64 r.til, .slice r.ea r.ents.length r.ec] 44) = W2) := hW2
 clear hn' hW2 hga
 go_wp2_with fail
 change Calls _ _ #[rcV r] _ _
 rw [HW2.out]
 refine hC2.mono ?_
 rintro e w3 ⟨rfl, g3⟩
 have x3 := x2.below g3
 have y3 := y2.below g3
 have b3 := b2.below g3
 have hR3 : RcOwn (w.heap.size + 3) w3 r := hRo.far (grown_below g3) (far_none _ _) (far_none _ _) (far_none _ _) (far_none _ _)
 have HB1 : Aside (Below w.heap.size w w3) := HB2.out.trans (g3.mono HB2.out.size)
 have hs3 : w1.heap.size + 1 ≤ w3.heap.size := by have := g3.size; omega
 clear hC2 x2 y2 b2 hRo g3 HW2 q0 cy0 zy0
 clear cx0 zx0 cx1 zx1 cx2 zx2 cx3 zx3 cx4 zx4 cx5 zx5 cx6 zx6 cx7 zx7 cx8 zx8 cx9 zx9
 have cx0 := x3.cell (j := 0) rfl
 have zx0 := x3.frz 0
 have cb0 := b3.cell (j := 0) rfl
 have cx1 := x3.cell (j := 1) rfl
 have zx1 := x3.frz 1
 have cb1 := b3.cell (j := 1) rfl
 have cx2 := x3.cell (j := 2) rfl
 have zx2 := x3.frz 2
 have cb2 := b3.cell (j := 2) rfl
 have cx3 := x3.cell (j := 3) rfl
 have zx3 := x3.frz 3
 have cb3 := b3.cell (j := 3) rfl
 have cx4 := x3.cell (j := 4) rfl
 have zx4 := x3.frz 4
 have cb4 := b3.cell (j := 4) rfl
 have cx5 := x3.cell (j := 5) rfl
 have zx5 := x3.frz 5
 have cb5 := b3.cell (j := 5) rfl
 have cx6 := x3.cell (j := 6) rfl
 have zx6 := x3.frz 6
 have cb6 := b3.cell (j := 6) rfl
 have cx7 := x3.cell (j := 7) rfl
 have zx7 := x3.frz 7
 have cb7 := b3.cell (j := 7) rfl
 have cx8 := x3.cell (j := 8) rfl
 have zx8 := x3.frz 8
 have cb8 := b3.cell (j := 8) rfl
 have cx9 := x3.cell (j := 9) rfl
 have zx9 := x3.frz 9
 have cb9 := b3.cell (j := 9) rfl
 have cy0 := y3.cell (j := 0) rfl
 have zy0 := y3.frz 0
 clear x3 y3 b3 hR3
 go_wp2
 refine leaves_cons (f := 48) (args := #[.pointer (some ⟨w.heap.size, 0, none⟩), .pointer (some ⟨w.heap.size + 1, 0, none⟩)]) (by simp) (by simp [go_sem]) ?_
 refine (catch_idle ⟨w.heap.size, 0, none⟩ ⟨w.heap.size + 1, 0, none⟩ _).mono ?_
 rintro e u' w'' ⟨rfl, rfl, rfl⟩
 simp [Leaves, settle, results, Try.results36, go_sem, *]
 refine ⟨rfl, ?_⟩
 repeat (first | with_reducible exact HB1.out | (with_reducible refine Below.alloc ?_ (by first | omega | (simp; omega)) _) | (with_reducible refine Below.setCell ?_ (by first | exact Nat.le_refl _ | (simp; done) | omega | (simp; omega)) _))

set_option maxHeartbeats 8000000 in
theorem decode_good (w : World) (a : Option Addr) (n c : Nat) (l : List UInt8) (hI : ByIn w a l) (hA : l ≠ [] → ∀ p, a = some p → p.block < w.heap.size) (hn : l.length = n) (hc : n ≤ c) (h6 : n ≤ 60000) (x : PRec) (rest : List UInt8) (hp : pRec l = some (x, rest)) (hr0 : rest.length = 0) (hsnd : sndRec x = true) :
  Calls Try.prog 36 #[.slice a n c] w fun e w' => ∃ r, e = .returned (.tuple #[rcV r, .int .u16 0]) ∧ pr r = x ∧ OwnIn w' r ∧ Below w.heap.size w w' := by
 have hlow : l ≠ [] → ∀ p, a = some p → p.block < w.heap.size + 2 := fun h0 p hp => by have := hA h0 p hp; omega
 have hb0 : Below w.heap.size w (((w.alloc (.cells #[.int .u8 0, .int .u32 0, .int .u32 0, .slice none 0 0, .slice none 0 0, .int .u32 0, .slice none 0 0, .int .i64 0, .int .i64 0, .slice none 0 0] 44)).alloc (.cells #[.int .u16 0] 30)).alloc (.cells #[.slice a n c] 104)) := by (repeat (first | with_reducible exact Below.refl _ _ | (with_reducible refine Below.drew ?_) | (with_reducible refine Below.alloc ?_ (by first | omega | (simp; done) | (simp; omega)) _) | (with_reducible refine Below.setCell ?_ (by first | exact Nat.le_refl _ | omega | (simp; done) | (simp; omega)) _)))
 have hx0 : Boxed (((w.alloc (.cells #[.int .u8 0, .int .u32 0, .int .u32 0, .slice none 0 0, .slice none 0 0, .int .u32 0, .slice none 0 0, .int .i64 0, .int .i64 0, .slice none 0 0] 44)).alloc (.cells #[.int .u16 0] 30)).alloc (.cells #[.slice a n c] 104)) w.heap.size recZ 44 := ((Boxed.new w recZ 44).grown (World.grownBy_alloc _ _ none) (by simp)).grown (World.grownBy_alloc _ _ none) (by simp)
 have hy0 : Boxed (((w.alloc (.cells #[.int .u8 0, .int .u32 0, .int .u32 0, .slice none 0 0, .slice none 0 0, .int .u32 0, .slice none 0 0, .int .i64 0, .int .i64 0, .slice none 0 0] 44)).alloc (.cells #[.int .u16 0] 30)).alloc (.cells #[.slice a n c] 104)) (w.heap.size + 1) #[.int .u16 0] 30 := by
  have := (Boxed.new (w.alloc (.cells #[.int .u8 0, .int .u32 0, .int .u32 0, .slice none 0 0, .slice none 0 0, .int .u32 0, .slice none 0 0, .int .i64 0, .int .i64 0, .slice none 0 0] 44)) #[.int .u16 0] 30).grown (World.grownBy_alloc _ (.cells #[.slice a n c] 104) none) (by simp)
  simpa using this
 have hbx : Boxed (((w.alloc (.cells #[.int .u8 0, .int .u32 0, .int .u32 0, .slice none 0 0, .slice none 0 0, .int .u32 0, .slice none 0 0, .int .i64 0, .int .i64 0, .slice none 0 0] 44)).alloc (.cells #[.int .u16 0] 30)).alloc (.cells #[.slice a n c] 104)) (w.heap.size + 2) #[.slice a n c] 104 := by
  have := Boxed.new ((w.alloc (.cells #[.int .u8 0, .int .u32 0, .int .u32 0, .slice none 0 0, .slice none 0 0, .int .u32 0, .slice none 0 0, .int .i64 0, .int .i64 0, .slice none 0 0] 44)).alloc (.cells #[.int .u16 0] 30)) #[.slice a n c] 104
  simpa using this
 have hsz : (((w.alloc (.cells #[.int .u8 0, .int .u32 0, .int .u32 0, .slice none 0 0, .slice none 0 0, .int .u32 0, .slice none 0 0, .int .i64 0, .int .i64 0, .slice none 0 0] 44)).alloc (.cells #[.int .u16 0] 30)).alloc (.cells #[.slice a n c] 104)).heap.size = w.heap.size + 3 := by simp
 have hRd : RdL (w.heap.size + 2) (((w.alloc (.cells #[.int .u8 0, .int .u32 0, .int .u32 0, .slice none 0 0, .slice none 0 0, .int .u32 0, .slice none 0 0, .int .i64 0, .int .i64 0, .slice none 0 0] 44)).alloc (.cells #[.int .u16 0] 30)).alloc (.cells #[.slice a n c] 104)) l := ⟨a, n, c, hbx, hn, hc, hlow, hI.keep hb0⟩
 generalize hWW : ((w.alloc (.cells #[.int .u8 0, .int .u32 0, .int .u32 0, .slice none 0 0, .slice none 0 0, .int .u32 0, .slice none 0 0, .int .i64 0, .int .i64 0, .slice none 0 0] 44)).alloc (.cells #[.int .u16 0] 30)).alloc (.cells #[.slice a n c] 104) = W0 at hb0 hx0 hy0 hbx hRd hsz
 have HW : Hid (_ = W0) := hWW
 have hC1 := readRec_any (w.heap.size + 2) (w.heap.size + 3) (by omega) W0 l (by omega) hRd (by omega)
 have hlz : ¬ (60000 : Int) < (n : Int) := by omega
 have H0 : Aside (Below w.heap.size w W0) := hb0
 clear hWW hb0 hlow hRd hbx hI hA
 have hmf : ∀ (fn : Fn) (first cap : Array Value) (w : World), (Instr.makeFunc fn first cap).run Try.prog w = .ok (.func fn first cap) w := fun _ _ _ _ => rfl
 go_enter_defers Try.func36, Try.ntmps36
 go_wp2_with fail
 rw [HW.out]
 refine hC1.mono ?_
 intro e w1 hP
 obtain ⟨v1, rfl, ⟨r, rfl, hpr, hO⟩, hW1⟩ := hP.got hp
 have x1 := hx0.grown hW1.grown (by simp only [ne_eq, Option.some.injEq]; omega)
 have y1 := hy0.grown hW1.grown (by simp only [ne_eq, Option.some.injEq]; omega)
 have HB1 : Aside (Below w.heap.size w w1) := below_one H0.out H0.out.size hW1.grown (by omega)
 obtain ⟨a', n', c', hr⟩ := hW1.rdr
 have q0 := hr.cell
 have hn' : n' = rest.length := hr.len.symm
 have hs1 : w.heap.size + 3 ≤ w1.heap.size := by have := hW1.grown.size; omega
 have hl0 : w.heap.size < w1.heap.size := by omega
 have hl1 : w.heap.size + 1 < w1.heap.size := by omega
 have hl2 : w.heap.size + 2 < w1.heap.size := by omega
 have HO : Aside (RcOwn (w.heap.size + 3) w1 r ∧ pr r = x) := ⟨hO, hpr⟩
 have HX : Aside (Boxed w1 w.heap.size recZ 44 ∧ Boxed w1 (w.heap.size + 1) #[.int .u16 0] 30) := ⟨x1, y1⟩
 have cx0 := x1.cell (j := 0) rfl
 have zx0 := x1.frz 0
 have cx1 := x1.cell (j := 1) rfl
 have zx1 := x1.frz 1
 have cx2 := x1.cell (j := 2) rfl
 have zx2 := x1.frz 2
 have cx3 := x1.cell (j := 3) rfl
 have zx3 := x1.frz 3
 have cx4 := x1.cell (j := 4) rfl
 have zx4 := x1.frz 4
 have cx5 := x1.cell (j := 5) rfl
 have zx5 := x1.frz 5
 have cx6 := x1.cell (j := 6) rfl
 have zx6 := x1.frz 6
 have cx7 := x1.cell (j := 7) rfl
 have zx7 := x1.frz 7
 have cx8 := x1.cell (j := 8) rfl
 have zx8 := x1.frz 8
 have cx9 := x1.cell (j := 9) rfl
 have zx9 := x1.frz 9
 have cy0 := y1.cell (j := 0) rfl
 have zy0 := y1.frz 0
 clear hC1 hP HW hx0 hy0 H0 hW1 hr hO hpr x1 y1
 show _
 unfold rcV rcC
 have hnz : ¬ (0 : Int) < (n' : Int) := by omega
 have hga : w1.grownBy (w1.alloc (.cells #[.int .u8 r.kind, .int .u32 r.id, .int .u32 r.at_, .slice r.na r.nodes.length r.nc, .slice r.fa r.facts.length r.fc, .int .u32 r.epoch, .slice r.sa r.spans.length r.sc, .int .i64 r.frm, .int .i64 r.til, .slice r.ea r.ents.length r.ec] 44)) none := World.grownBy_alloc _ _ _
 have hRo : RcOwn (w.heap.size + 3) (w1.alloc (.cells #[.int .u8 r.kind, .int .u32 r.id, .int .u32 r.at_, .slice r.na r.nodes.length r.nc, .slice r.fa r.facts.length r.fc, .int .u32 r.epoch, .slice r.sa r.spans.length r.sc, .int .i64 r.frm, .int .i64 r.til, .slice r.ea r.ents.length r.ec] 44)) r := HO.out.1.far hga (far_none _ _) (far_none _ _) (far_none _ _) (far_none _ _)
 have x2 := HX.out.1.grown hga (by simp)
 have y2 := HX.out.2.grown hga (by simp)
 have b2 := Boxed.new w1 #[.int .u8 r.kind, .int .u32 r.id, .int .u32 r.at_, .slice r.na r.nodes.length r.nc, .slice r.fa r.facts.length r.fc, .int .u32 r.epoch, .slice r.sa r.spans.length r.sc, .int .i64 r.frm, .int .i64 r.til, .slice r.ea r.ents.length r.ec] 44
 have HB2 : Aside (Below w.heap.size w (w1.alloc (.cells #[.int .u8 r.kind, .int .u32 r.id, .int .u32 r.at_, .slice r.na r.nodes.length r.nc, .slice r.fa r.facts.length r.fc, .int .u32 r.epoch, .slice r.sa r.spans.length r.sc, .int .i64 r.frm, .int .i64 r.til, .slice r.ea r.ents.length r.ec] 44))) := HB1.out.alloc (by omega) _
 have hs2 : (w1.alloc (.cells #[.int .u8 r.kind, .int .u32 r.id, .int .u32 r.at_, .slice r.na r.nodes.length r.nc, .slice r.fa r.facts.length r.fc, .int .u32 r.epoch, .slice r.sa r.spans.length r.sc, .int .i64 r.frm, .int .i64 r.til, .slice r.ea r.ents.length r.ec] 44)).heap.size = w1.heap.size + 1 := by simp
 have hC2 := sound_any _ r hRo.recIn
 rw [HO.out.2, hsnd] at hC2
 generalize hW2 : w1.alloc (.cells #[.int .u8 r.kind, .int .u32 r.id, .int .u32 r.at_, .slice r.na r.nodes.length r.nc, .slice r.fa r.facts.length r.fc, .int .u32 r.epoch, .slice r.sa r.spans.length r.sc, .int .i64 r.frm, .int .i64 r.til, .slice r.ea r.ents.length r.ec] 44) = W2 at hga hRo x2 y2 b2 HB2 hs2 hC2
 have HW2 : Hid (w1.alloc (.cells #[.int .u8 r.kind, .int .u32 r.id, .int .u32 r.at_, .slice r.na r.nodes.length r.nc, .slice r.fa r.facts.length r.fc, .int .u32 r.epoch, .slice r.sa r.spans.length r.sc, .int .i64 r.frm, .int .i64 r.til, .slice r.ea r.ents.length r.ec] 44) = W2) := hW2
 clear hn' hW2 hga
 go_wp2_with fail
 change Calls _ _ #[rcV r] _ _
 rw [HW2.out]
 refine hC2.mono ?_
 rintro e w3 ⟨rfl, g3⟩
 have x3 := x2.below g3
 have y3 := y2.below g3
 have b3 := b2.below g3
 have hR3 : RcOwn (w.heap.size + 3) w3 r := hRo.far (grown_below g3) (far_none _ _) (far_none _ _) (far_none _ _) (far_none _ _)
 have HB1 : Aside (Below w.heap.size w w3) := HB2.out.trans (g3.mono HB2.out.size)
 have hs3 : w1.heap.size + 1 ≤ w3.heap.size := by have := g3.size; omega
 clear hC2 x2 y2 b2 hRo g3 HW2 q0 cy0 zy0
 clear cx0 zx0 cx1 zx1 cx2 zx2 cx3 zx3 cx4 zx4 cx5 zx5 cx6 zx6 cx7 zx7 cx8 zx8 cx9 zx9
 have cx0 := x3.cell (j := 0) rfl
 have zx0 := x3.frz 0
 have cb0 := b3.cell (j := 0) rfl
 have cx1 := x3.cell (j := 1) rfl
 have zx1 := x3.frz 1
 have cb1 := b3.cell (j := 1) rfl
 have cx2 := x3.cell (j := 2) rfl
 have zx2 := x3.frz 2
 have cb2 := b3.cell (j := 2) rfl
 have cx3 := x3.cell (j := 3) rfl
 have zx3 := x3.frz 3
 have cb3 := b3.cell (j := 3) rfl
 have cx4 := x3.cell (j := 4) rfl
 have zx4 := x3.frz 4
 have cb4 := b3.cell (j := 4) rfl
 have cx5 := x3.cell (j := 5) rfl
 have zx5 := x3.frz 5
 have cb5 := b3.cell (j := 5) rfl
 have cx6 := x3.cell (j := 6) rfl
 have zx6 := x3.frz 6
 have cb6 := b3.cell (j := 6) rfl
 have cx7 := x3.cell (j := 7) rfl
 have zx7 := x3.frz 7
 have cb7 := b3.cell (j := 7) rfl
 have cx8 := x3.cell (j := 8) rfl
 have zx8 := x3.frz 8
 have cb8 := b3.cell (j := 8) rfl
 have cx9 := x3.cell (j := 9) rfl
 have zx9 := x3.frz 9
 have cb9 := b3.cell (j := 9) rfl
 have cy0 := y3.cell (j := 0) rfl
 have zy0 := y3.frz 0
 have HF : Aside (∀ W4 W5, w3.grownBy W4 (some w.heap.size) → W4.grownBy W5 (some (w.heap.size + 1)) → OwnIn W5 r) := fun W4 W5 g1 g2 => by
  have h1 := hR3.far g1 (x3.far (by decide)) (x3.far (by decide)) (x3.far (by decide)) (x3.far (by decide))
  have y4 := y3.grown g1 (by simp)
  exact ⟨_, h1.far g2 (y4.far (by decide)) (y4.far (by decide)) (y4.far (by decide)) (y4.far (by decide))⟩
 clear x3 y3 b3 hR3
 go_wp2
 refine leaves_cons (f := 48) (args := #[.pointer (some ⟨w.heap.size, 0, none⟩), .pointer (some ⟨w.heap.size + 1, 0, none⟩)]) (by simp) (by simp [go_sem]) ?_
 refine (catch_idle ⟨w.heap.size, 0, none⟩ ⟨w.heap.size + 1, 0, none⟩ _).mono ?_
 rintro e u' w'' ⟨rfl, rfl, rfl⟩
 simp only [Leaves, settle, results, Try.results36]
 refine ⟨.tuple #[rcV r, .int .u16 0], ?_, ?_⟩
 ·simp [rcV, rcC, go_sem, *]
 ·refine ⟨r, rfl, HO.out.2, HF.out _ _ ?_ (grown_at _ _ _ _), ?_⟩
  ·iterate 9 (refine grown_trans ?_ (grown_at _ _ _ _))
   exact grown_at _ _ _ _
  ·repeat (first | with_reducible exact HB1.out | (with_reducible refine Below.alloc ?_ (by first | omega | (simp; omega)) _) | (with_reducible refine Below.setCell ?_ (by first | exact Nat.le_refl _ | (simp; done) | omega | (simp; omega)) _))

/-- what bytes tell -/
def dec (l : List UInt8) : Option PRec := (pRec l).bind fun y => if y.2.length = 0 ∧ sndRec y.1 = true then some y.1 else none
theorem decode_none (w : World) (a : Option Addr) (n c : Nat) (l : List UInt8) (hI : ByIn w a l) (hA : l ≠ [] → ∀ p, a = some p → p.block < w.heap.size) (hn : l.length = n) (hc : n ≤ c) (h6 : n ≤ 60000) (h : dec l = none) :
  Calls Try.prog 36 #[.slice a n c] w fun e w' => e = .returned (.tuple #[.agg recZ, .int .u16 70]) ∧ Below w.heap.size w w' := by
 cases hp : pRec l with
 | none => exact decode_miss w a n c l hI hA hn hc h6 hp
 | some q =>
  obtain ⟨x, rest⟩ := q
  by_cases hr : rest.length = 0
  ·cases hs : sndRec x with
   | false => exact decode_bad w a n c l hI hA hn hc h6 x rest hp hr hs
   | true => unfold dec at h; rw [hp] at h; simp only [Option.bind_some] at h; rw [if_pos ⟨hr, hs⟩] at h; cases h
  ·exact decode_rest w a n c l hI hA hn hc h6 x rest hp (by omega)
theorem decode_own (w : World) (a : Option Addr) (n c : Nat) (l : List UInt8) (hI : ByIn w a l) (hA : l ≠ [] → ∀ p, a = some p → p.block < w.heap.size) (hn : l.length = n) (hc : n ≤ c) (h6 : n ≤ 60000) (x : PRec) (h : dec l = some x) :
  Calls Try.prog 36 #[.slice a n c] w fun e w' => ∃ r, e = .returned (.tuple #[rcV r, .int .u16 0]) ∧ pr r = x ∧ OwnIn w' r ∧ Below w.heap.size w w' := by
 cases hp : pRec l with
 | none => unfold dec at h; rw [hp] at h; cases h
 | some q =>
  obtain ⟨y, rest⟩ := q
  unfold dec at h
  rw [hp] at h
  simp only [Option.bind_some] at h
  split at h
  ·rename_i hh
   injection h with h
   subst h
   exact decode_good w a n c l hI hA hn hc h6 y rest hp hh.1 hh.2
  ·cases h
theorem dec_recB {x : PRec} (h : sndRec x = true) (ht : Typed x) : dec (recB x) = some x := by
 have := pRec_dec x h ht []
 rw [List.append_nil] at this
 unfold dec
 rw [this]
 simp [h]
end Go.Proofs.Ytlcjllgfpfldlaa.code

namespace Go.Proofs.Ytlcjllgfpfldlaa.code
open Go.ChangeShapes Go.WideShapes Go.ChangeAt Go.RowKit Go.Deep
open Go.Proofs.Ytlcjllgfpfldlaa.dims (nth Ints cell_lt vals vals_len vals_get own_below own_mono own_out RowOut ret_bool)
set_option linter.unusedVariables false
set_option maxRecDepth 100000

theorem pow_eight (k : Nat) : 2 ^ (8 * k) = 256 ^ k := by rw [Nat.pow_mul]
theorem byte_at (X k : Nat) : ((X : Int) / 2 ^ (8 * k) % 256) = ((X / 256 ^ k % 256 : Nat) : Int) := by
 have e : ((2 : Int) ^ (8 * k)) = ((256 ^ k : Nat) : Int) := by rw [← pow_eight]; simp
 rw [e]; simp

set_option maxHeartbeats 4000000 in
theorem put_any (B size X : Nat) (hX : X < 18446744073709551616) (hs : size ≤ 8) (v : Value) (l : List UInt8) (w : World) (ho : Bs B w v l) (hB : B ≤ w.heap.size) (hl : l.length ≤ 1000000000) :
  Calls Try.prog 55 #[v, .int .u64 X, .int .i64 size] w fun e w' => ∃ v', e = .returned v' ∧ Bs B w' v' (l ++ putB X size) ∧ Gr w v w' v' := by
 obtain ⟨i0, hi, hz0, hz1, hz2⟩ := info_parts info_u8
 have H : Aside (Bs B w v l) := ho
 clear ho
 go_enter Try.func55, Try.ntmps55
 go_wp2_with fail
 go_loopg [0, 7] size (fun g1 vv vi wr => ∃ (k : Nat) (j : Int), vi = .int .i64 j ∧ Aside (j = (k : Int) - 1) ∧ k ≤ size ∧ k ≤ g1 ∧ Aside (∃ done, done ++ putB X k = l ++ putB X size ∧ Bs B wr vv done ∧ Gr w v wr vv))
 case atStart => exact ⟨size, _, rfl, by go_num, Nat.le_refl _, Nat.le_refl _, l, rfl, H.out, Gr.refl _ _⟩
 case round =>
  obtain ⟨k, j, rfl, hj, hk, hg1, SK⟩ := hrel
  rcases k with _ | k
  ·have hjz : ¬ 0 ≤ j := by have := hj.out; omega
   have S2 : Aside (Bs B wr u0 (l ++ putB X size) ∧ Gr w v wr u0) := by
    obtain ⟨done, hd, h1, h2⟩ := SK.out
    rw [putB, List.append_nil] at hd
    rw [← hd]; exact ⟨h1, h2⟩
   clear SK hj
   go_wp2
   go_ret
   exact ⟨_, rfl, S2.out.1, S2.out.2⟩
  ·have hjz : 0 ≤ j := by have := hj.out; omega
   have hj2 : j = (k : Int) := by have := hj.out; omega
   subst hj2
   obtain ⟨done, hd, hown, hgr⟩ := SK.out
   have hlen : done.length ≤ l.length + 8 := by
    have := congrArg List.length hd
    simp only [List.length_append, putB_len] at this
    omega
   have HBS : Aside (B ≤ wr.heap.size) := Nat.le_trans hB hgr.grown.size
   obtain ⟨n, hn⟩ : ∃ n, done.length = n := ⟨_, rfl⟩
   have HN : Hid (done.length = n) := hn
   have hown2 : wr.ownsRow B 5 1 u0 n (Lib.byteCells done) := by rw [← hn]; exact hown
   rw [hn] at hlen
   have HG : Aside (Gr w v wr u0) := hgr
   have HD : Hid (done ++ putB X (k + 1) = l ++ putB X size) := hd
   clear SK hj hd hown hgr hn
   go_wp2_with (at_builtin; refine wpList_append_lies _ rfl _ _ 33 rfl B 5 i0 _ 1 1 Try.underlying33 hi hz0 hz1 hz2 rfl (by decide) _ n _ rfl (hown2.alloc _) ⟨wr.heap.size, 0, none⟩ 1 1 [_] rfl rfl (cell_one_new _ _ _) (by intro u hu; simp at hu; subst hu; rfl) (by omega) (by unfold maxLen; omega) (by omega) (by have := HBS.out; simp; omega) (wr.heap.size + 1) (by simp) ?_; intro g c3 w3 hown3 hgrow hat hglt)
   have S3 : Aside (Bs B w3 (.slice (some ⟨g, 0, none⟩) (n + 1) c3) (done ++ [UInt8.ofNat (X / 256 ^ k)]) ∧ Gr w v w3 (.slice (some ⟨g, 0, none⟩) (n + 1) c3)) := by
    obtain ⟨p1, p2⟩ := Bs.push HN.out (x := X / 256 ^ k) (byte_at X k) hown3 hgrow hat
    exact ⟨p1, HG.out.trans p2⟩
   clear hown3 hgrow hat hglt hown2
   go_wp2
   go_roundg k
   case measure => omega
   case rel =>
    refine ⟨k, _, rfl, by go_num, by omega, Nat.le_refl _, _, ?_, S3.out.1, S3.out.2⟩
    rw [List.append_assoc, ← HD.out]; simp [putB]

set_option maxHeartbeats 4000000 in
theorem lay_int (B size : Nat) (x : Int) (hx : -9223372036854775808 ≤ x ∧ x ≤ 9223372036854775807) (hs : size ≤ 8) (v : Value) (l : List UInt8) (w : World) (ho : Bs B w v l) (hB : B ≤ w.heap.size) (hl : l.length ≤ 1000000000) :
  Calls Try.prog 95 #[v, .int .i64 size, .int .i64 x] w fun e w' => ∃ v', e = .returned v' ∧ Bs B w' v' (l ++ putI x size) ∧ Gr w v w' v' := by
 unfold putI
 obtain ⟨X, hX⟩ : ∃ X : Nat, (x % 18446744073709551616).toNat = X := ⟨_, rfl⟩
 have HX : Hid (x % 18446744073709551616 = (X : Int)) := by show _ = _; omega
 rw [hX]
 clear hX
 obtain ⟨i0, hi, hz0, hz1, hz2⟩ := info_parts info_u8
 have H : Aside (Bs B w v l) := ho
 clear ho
 go_enter Try.func95, Try.ntmps95
 go_wp2_with fail
 go_loopg [0, 7] size (fun g1 vv vi wr => ∃ (k : Nat) (j : Int), vi = .int .i64 j ∧ Aside (j = (k : Int) - 1) ∧ k ≤ size ∧ k ≤ g1 ∧ Aside (∃ done, done ++ putB X k = l ++ putB X size ∧ Bs B wr vv done ∧ Gr w v wr vv))
 case atStart => exact ⟨size, _, rfl, by go_num, Nat.le_refl _, Nat.le_refl _, l, rfl, H.out, Gr.refl _ _⟩
 case round =>
  obtain ⟨k, j, rfl, hj, hk, hg1, SK⟩ := hrel
  rcases k with _ | k
  ·have hjz : ¬ 0 ≤ j := by have := hj.out; omega
   have S2 : Aside (Bs B wr u0 (l ++ putB X size) ∧ Gr w v wr u0) := by
    obtain ⟨done, hd, h1, h2⟩ := SK.out
    rw [putB, List.append_nil] at hd
    rw [← hd]; exact ⟨h1, h2⟩
   clear SK hj
   go_wp2
   go_ret
   exact ⟨_, rfl, S2.out.1, S2.out.2⟩
  ·have hjz : 0 ≤ j := by have := hj.out; omega
   have hj2 : j = (k : Int) := by have := hj.out; omega
   subst hj2
   obtain ⟨done, hd, hown, hgr⟩ := SK.out
   have hlen : done.length ≤ l.length + 8 := by
    have := congrArg List.length hd
    simp only [List.length_append, putB_len] at this
    omega
   have HBS : Aside (B ≤ wr.heap.size) := Nat.le_trans hB hgr.grown.size
   obtain ⟨n, hn⟩ : ∃ n, done.length = n := ⟨_, rfl⟩
   have HN : Hid (done.length = n) := hn
   have hown2 : wr.ownsRow B 5 1 u0 n (Lib.byteCells done) := by rw [← hn]; exact hown
   rw [hn] at hlen
   have HG : Aside (Gr w v wr u0) := hgr
   have HD : Hid (done ++ putB X (k + 1) = l ++ putB X size) := hd
   clear SK hj hd hown hgr hn
   go_wp2_with (at_builtin; refine wpList_append_lies _ rfl _ _ 33 rfl B 5 i0 _ 1 1 Try.underlying33 hi hz0 hz1 hz2 rfl (by decide) _ n _ rfl (hown2.alloc _) ⟨wr.heap.size, 0, none⟩ 1 1 [_] rfl rfl (cell_one_new _ _ _) (by intro u hu; simp at hu; subst hu; rfl) (by omega) (by unfold maxLen; omega) (by omega) (by have := HBS.out; simp; omega) (wr.heap.size + 1) (by simp) ?_; intro g c3 w3 hown3 hgrow hat hglt)
   have S3 : Aside (Bs B w3 (.slice (some ⟨g, 0, none⟩) (n + 1) c3) (done ++ [UInt8.ofNat (X / 256 ^ k)]) ∧ Gr w v w3 (.slice (some ⟨g, 0, none⟩) (n + 1) c3)) := by
    have hw : IntKind.u64.wrap x = (X : Int) := by have := HX.out; simp [IntKind.wrap, IntKind.signed, IntKind.bits]; omega
    have hw2 : x % 18446744073709551616 = (X : Int) := HX.out
    have hw3 : (0 ≤ x) → x = (X : Int) := by have := HX.out; omega
    first | rw [hw] at hown3 | rw [hw2] at hown3 | rw [hw3 hx.1] at hown3
    obtain ⟨p1, p2⟩ := Bs.push HN.out (x := X / 256 ^ k) (byte_at X k) hown3 hgrow hat
    exact ⟨p1, HG.out.trans p2⟩
   clear hown3 hgrow hat hglt hown2
   go_wp2
   go_roundg k
   case measure => omega
   case rel =>
    refine ⟨k, _, rfl, by go_num, by omega, Nat.le_refl _, _, ?_, S3.out.1, S3.out.2⟩
    rw [List.append_assoc, ← HD.out]; simp [putB]

set_option maxHeartbeats 4000000 in
theorem lay_int64 (B size : Nat) (x : Int) (hx : -9223372036854775808 ≤ x ∧ x ≤ 9223372036854775807) (hs : size ≤ 8) (v : Value) (l : List UInt8) (w : World) (ho : Bs B w v l) (hB : B ≤ w.heap.size) (hl : l.length ≤ 1000000000) :
  Calls Try.prog 102 #[v, .int .i64 size, .int .i64 x] w fun e w' => ∃ v', e = .returned v' ∧ Bs B w' v' (l ++ putI x size) ∧ Gr w v w' v' := by
 unfold putI
 obtain ⟨X, hX⟩ : ∃ X : Nat, (x % 18446744073709551616).toNat = X := ⟨_, rfl⟩
 have HX : Hid (x % 18446744073709551616 = (X : Int)) := by show _ = _; omega
 rw [hX]
 clear hX
 obtain ⟨i0, hi, hz0, hz1, hz2⟩ := info_parts info_u8
 have H : Aside (Bs B w v l) := ho
 clear ho
 go_enter Try.func102, Try.ntmps102
 go_wp2_with fail
 go_loopg [0, 7] size (fun g1 vv vi wr => ∃ (k : Nat) (j : Int), vi = .int .i64 j ∧ Aside (j = (k : Int) - 1) ∧ k ≤ size ∧ k ≤ g1 ∧ Aside (∃ done, done ++ putB X k = l ++ putB X size ∧ Bs B wr vv done ∧ Gr w v wr vv))
 case atStart => exact ⟨size, _, rfl, by go_num, Nat.le_refl _, Nat.le_refl _, l, rfl, H.out, Gr.refl _ _⟩
 case round =>
  obtain ⟨k, j, rfl, hj, hk, hg1, SK⟩ := hrel
  rcases k with _ | k
  ·have hjz : ¬ 0 ≤ j := by have := hj.out; omega
   have S2 : Aside (Bs B wr u0 (l ++ putB X size) ∧ Gr w v wr u0) := by
    obtain ⟨done, hd, h1, h2⟩ := SK.out
    rw [putB, List.append_nil] at hd
    rw [← hd]; exact ⟨h1, h2⟩
   clear SK hj
   go_wp2
   go_ret
   exact ⟨_, rfl, S2.out.1, S2.out.2⟩
  ·have hjz : 0 ≤ j := by have := hj.out; omega
   have hj2 : j = (k : Int) := by have := hj.out; omega
   subst hj2
   obtain ⟨done, hd, hown, hgr⟩ := SK.out
   have hlen : done.length ≤ l.length + 8 := by
    have := congrArg List.length hd
    simp only [List.length_append, putB_len] at this
    omega
   have HBS : Aside (B ≤ wr.heap.size) := Nat.le_trans hB hgr.grown.size
   obtain ⟨n, hn⟩ : ∃ n, done.length = n := ⟨_, rfl⟩
   have HN : Hid (done.length = n) := hn
   have hown2 : wr.ownsRow B 5 1 u0 n (Lib.byteCells done) := by rw [← hn]; exact hown
   rw [hn] at hlen
   have HG : Aside (Gr w v wr u0) := hgr
   have HD : Hid (done ++ putB X (k + 1) = l ++ putB X size) := hd
   clear SK hj hd hown hgr hn
   go_wp2_with (at_builtin; refine wpList_append_lies _ rfl _ _ 33 rfl B 5 i0 _ 1 1 Try.underlying33 hi hz0 hz1 hz2 rfl (by decide) _ n _ rfl (hown2.alloc _) ⟨wr.heap.size, 0, none⟩ 1 1 [_] rfl rfl (cell_one_new _ _ _) (by intro u hu; simp at hu; subst hu; rfl) (by omega) (by unfold maxLen; omega) (by omega) (by have := HBS.out; simp; omega) (wr.heap.size + 1) (by simp) ?_; intro g c3 w3 hown3 hgrow hat hglt)
   have S3 : Aside (Bs B w3 (.slice (some ⟨g, 0, none⟩) (n + 1) c3) (done ++ [UInt8.ofNat (X / 256 ^ k)]) ∧ Gr w v w3 (.slice (some ⟨g, 0, none⟩) (n + 1) c3)) := by
    have hw : IntKind.u64.wrap x = (X : Int) := by have := HX.out; simp [IntKind.wrap, IntKind.signed, IntKind.bits]; omega
    have hw2 : x % 18446744073709551616 = (X : Int) := HX.out
    have hw3 : (0 ≤ x) → x = (X : Int) := by have := HX.out; omega
    first | rw [hw] at hown3 | rw [hw2] at hown3 | rw [hw3 hx.1] at hown3
    obtain ⟨p1, p2⟩ := Bs.push HN.out (x := X / 256 ^ k) (byte_at X k) hown3 hgrow hat
    exact ⟨p1, HG.out.trans p2⟩
   clear hown3 hgrow hat hglt hown2
   go_wp2
   go_roundg k
   case measure => omega
   case rel =>
    refine ⟨k, _, rfl, by go_num, by omega, Nat.le_refl _, _, ?_, S3.out.1, S3.out.2⟩
    rw [List.append_assoc, ← HD.out]; simp [putB]

set_option maxHeartbeats 4000000 in
theorem lay_u8 (B size : Nat) (x : Int) (hx : 0 ≤ x ∧ x ≤ 255) (hs : size ≤ 8) (v : Value) (l : List UInt8) (w : World) (ho : Bs B w v l) (hB : B ≤ w.heap.size) (hl : l.length ≤ 1000000000) :
  Calls Try.prog 87 #[v, .int .i64 size, .int .u8 x] w fun e w' => ∃ v', e = .returned v' ∧ Bs B w' v' (l ++ putI x size) ∧ Gr w v w' v' := by
 unfold putI
 obtain ⟨X, hX⟩ : ∃ X : Nat, (x % 18446744073709551616).toNat = X := ⟨_, rfl⟩
 have HX : Hid (x % 18446744073709551616 = (X : Int)) := by show _ = _; omega
 rw [hX]
 clear hX
 obtain ⟨i0, hi, hz0, hz1, hz2⟩ := info_parts info_u8
 have H : Aside (Bs B w v l) := ho
 clear ho
 go_enter Try.func87, Try.ntmps87
 go_wp2_with fail
 go_loopg [0, 7] size (fun g1 vv vi wr => ∃ (k : Nat) (j : Int), vi = .int .i64 j ∧ Aside (j = (k : Int) - 1) ∧ k ≤ size ∧ k ≤ g1 ∧ Aside (∃ done, done ++ putB X k = l ++ putB X size ∧ Bs B wr vv done ∧ Gr w v wr vv))
 case atStart => exact ⟨size, _, rfl, by go_num, Nat.le_refl _, Nat.le_refl _, l, rfl, H.out, Gr.refl _ _⟩
 case round =>
  obtain ⟨k, j, rfl, hj, hk, hg1, SK⟩ := hrel
  rcases k with _ | k
  ·have hjz : ¬ 0 ≤ j := by have := hj.out; omega
   have S2 : Aside (Bs B wr u0 (l ++ putB X size) ∧ Gr w v wr u0) := by
    obtain ⟨done, hd, h1, h2⟩ := SK.out
    rw [putB, List.append_nil] at hd
    rw [← hd]; exact ⟨h1, h2⟩
   clear SK hj
   go_wp2
   go_ret
   exact ⟨_, rfl, S2.out.1, S2.out.2⟩
  ·have hjz : 0 ≤ j := by have := hj.out; omega
   have hj2 : j = (k : Int) := by have := hj.out; omega
   subst hj2
   obtain ⟨done, hd, hown, hgr⟩ := SK.out
   have hlen : done.length ≤ l.length + 8 := by
    have := congrArg List.length hd
    simp only [List.length_append, putB_len] at this
    omega
   have HBS : Aside (B ≤ wr.heap.size) := Nat.le_trans hB hgr.grown.size
   obtain ⟨n, hn⟩ : ∃ n, done.length = n := ⟨_, rfl⟩
   have HN : Hid (done.length = n) := hn
   have hown2 : wr.ownsRow B 5 1 u0 n (Lib.byteCells done) := by rw [← hn]; exact hown
   rw [hn] at hlen
   have HG : Aside (Gr w v wr u0) := hgr
   have HD : Hid (done ++ putB X (k + 1) = l ++ putB X size) := hd
   clear SK hj hd hown hgr hn
   go_wp2_with (at_builtin; refine wpList_append_lies _ rfl _ _ 33 rfl B 5 i0 _ 1 1 Try.underlying33 hi hz0 hz1 hz2 rfl (by decide) _ n _ rfl (hown2.alloc _) ⟨wr.heap.size, 0, none⟩ 1 1 [_] rfl rfl (cell_one_new _ _ _) (by intro u hu; simp at hu; subst hu; rfl) (by omega) (by unfold maxLen; omega) (by omega) (by have := HBS.out; simp; omega) (wr.heap.size + 1) (by simp) ?_; intro g c3 w3 hown3 hgrow hat hglt)
   have S3 : Aside (Bs B w3 (.slice (some ⟨g, 0, none⟩) (n + 1) c3) (done ++ [UInt8.ofNat (X / 256 ^ k)]) ∧ Gr w v w3 (.slice (some ⟨g, 0, none⟩) (n + 1) c3)) := by
    have hw : IntKind.u64.wrap x = (X : Int) := by have := HX.out; simp [IntKind.wrap, IntKind.signed, IntKind.bits]; omega
    have hw2 : x % 18446744073709551616 = (X : Int) := HX.out
    have hw3 : (0 ≤ x) → x = (X : Int) := by have := HX.out; omega
    first | rw [hw] at hown3 | rw [hw2] at hown3 | rw [hw3 hx.1] at hown3
    obtain ⟨p1, p2⟩ := Bs.push HN.out (x := X / 256 ^ k) (byte_at X k) hown3 hgrow hat
    exact ⟨p1, HG.out.trans p2⟩
   clear hown3 hgrow hat hglt hown2
   go_wp2
   go_roundg k
   case measure => omega
   case rel =>
    refine ⟨k, _, rfl, by go_num, by omega, Nat.le_refl _, _, ?_, S3.out.1, S3.out.2⟩
    rw [List.append_assoc, ← HD.out]; simp [putB]

set_option maxHeartbeats 4000000 in
theorem lay_u32 (B size : Nat) (x : Int) (hx : 0 ≤ x ∧ x ≤ 4294967295) (hs : size ≤ 8) (v : Value) (l : List UInt8) (w : World) (ho : Bs B w v l) (hB : B ≤ w.heap.size) (hl : l.length ≤ 1000000000) :
  Calls Try.prog 88 #[v, .int .i64 size, .int .u32 x] w fun e w' => ∃ v', e = .returned v' ∧ Bs B w' v' (l ++ putI x size) ∧ Gr w v w' v' := by
 unfold putI
 obtain ⟨X, hX⟩ : ∃ X : Nat, (x % 18446744073709551616).toNat = X := ⟨_, rfl⟩
 have HX : Hid (x % 18446744073709551616 = (X : Int)) := by show _ = _; omega
 rw [hX]
 clear hX
 obtain ⟨i0, hi, hz0, hz1, hz2⟩ := info_parts info_u8
 have H : Aside (Bs B w v l) := ho
 clear ho
 go_enter Try.func88, Try.ntmps88
 go_wp2_with fail
 go_loopg [0, 7] size (fun g1 vv vi wr => ∃ (k : Nat) (j : Int), vi = .int .i64 j ∧ Aside (j = (k : Int) - 1) ∧ k ≤ size ∧ k ≤ g1 ∧ Aside (∃ done, done ++ putB X k = l ++ putB X size ∧ Bs B wr vv done ∧ Gr w v wr vv))
 case atStart => exact ⟨size, _, rfl, by go_num, Nat.le_refl _, Nat.le_refl _, l, rfl, H.out, Gr.refl _ _⟩
 case round =>
  obtain ⟨k, j, rfl, hj, hk, hg1, SK⟩ := hrel
  rcases k with _ | k
  ·have hjz : ¬ 0 ≤ j := by have := hj.out; omega
   have S2 : Aside (Bs B wr u0 (l ++ putB X size) ∧ Gr w v wr u0) := by
    obtain ⟨done, hd, h1, h2⟩ := SK.out
    rw [putB, List.append_nil] at hd
    rw [← hd]; exact ⟨h1, h2⟩
   clear SK hj
   go_wp2
   go_ret
   exact ⟨_, rfl, S2.out.1, S2.out.2⟩
  ·have hjz : 0 ≤ j := by have := hj.out; omega
   have hj2 : j = (k : Int) := by have := hj.out; omega
   subst hj2
   obtain ⟨done, hd, hown, hgr⟩ := SK.out
   have hlen : done.length ≤ l.length + 8 := by
    have := congrArg List.length hd
    simp only [List.length_append, putB_len] at this
    omega
   have HBS : Aside (B ≤ wr.heap.size) := Nat.le_trans hB hgr.grown.size
   obtain ⟨n, hn⟩ : ∃ n, done.length = n := ⟨_, rfl⟩
   have HN : Hid (done.length = n) := hn
   have hown2 : wr.ownsRow B 5 1 u0 n (Lib.byteCells done) := by rw [← hn]; exact hown
   rw [hn] at hlen
   have HG : Aside (Gr w v wr u0) := hgr
   have HD : Hid (done ++ putB X (k + 1) = l ++ putB X size) := hd
   clear SK hj hd hown hgr hn
   go_wp2_with (at_builtin; refine wpList_append_lies _ rfl _ _ 33 rfl B 5 i0 _ 1 1 Try.underlying33 hi hz0 hz1 hz2 rfl (by decide) _ n _ rfl (hown2.alloc _) ⟨wr.heap.size, 0, none⟩ 1 1 [_] rfl rfl (cell_one_new _ _ _) (by intro u hu; simp at hu; subst hu; rfl) (by omega) (by unfold maxLen; omega) (by omega) (by have := HBS.out; simp; omega) (wr.heap.size + 1) (by simp) ?_; intro g c3 w3 hown3 hgrow hat hglt)
   have S3 : Aside (Bs B w3 (.slice (some ⟨g, 0, none⟩) (n + 1) c3) (done ++ [UInt8.ofNat (X / 256 ^ k)]) ∧ Gr w v w3 (.slice (some ⟨g, 0, none⟩) (n + 1) c3)) := by
    have hw : IntKind.u64.wrap x = (X : Int) := by have := HX.out; simp [IntKind.wrap, IntKind.signed, IntKind.bits]; omega
    have hw2 : x % 18446744073709551616 = (X : Int) := HX.out
    have hw3 : (0 ≤ x) → x = (X : Int) := by have := HX.out; omega
    first | rw [hw] at hown3 | rw [hw2] at hown3 | rw [hw3 hx.1] at hown3
    obtain ⟨p1, p2⟩ := Bs.push HN.out (x := X / 256 ^ k) (byte_at X k) hown3 hgrow hat
    exact ⟨p1, HG.out.trans p2⟩
   clear hown3 hgrow hat hglt hown2
   go_wp2
   go_roundg k
   case measure => omega
   case rel =>
    refine ⟨k, _, rfl, by go_num, by omega, Nat.le_refl _, _, ?_, S3.out.1, S3.out.2⟩
    rw [List.append_assoc, ← HD.out]; simp [putB]
end Go.Proofs.Ytlcjllgfpfldlaa.code
