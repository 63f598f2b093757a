/-
 What of a record is not written for its kind; whether there is nothing: the program's unwritten, nought.
 The program's Sound.
-/
import Derived.Test.YtlcjllgfpfldlaaCodeSndE
namespace Go.Proofs.Ytlcjllgfpfldlaa.code
open Go.ChangeShapes Go.WideShapes Go.ChangeAt Go.RowKit Go.Deep
open Go.Proofs.Ytlcjllgfpfldlaa.dims (nth Ints cell_lt vals vals_len vals_get own_below own_mono own_out RowOut ret_bool)
set_option linter.unusedVariables false
set_option maxRecDepth 100000
set_option linter.unusedSimpArgs false

def unw (r : Rc) : Rc :=
 if r.kind = 1 then { r with id := 0, na := none, nc := 0, nodes := [], fa := none, fc := 0, facts := [] }
 else if r.kind = 2 then { r with id := 0, at_ := 0, na := none, nc := 0, nodes := [] }
 else if r.kind = 3 ∨ r.kind = 4 ∨ r.kind = 5 then { r with id := 0 }
 else if r.kind = 6 then { r with epoch := 0, sa := none, sc := 0, spans := [] }
 else { r with id := 0, frm := 0, til := 0, ea := none, ec := 0, ents := [] }

set_option maxHeartbeats 4000000 in
theorem unw_1 (kind id at_ epoch frm til : Int) (na fa sa ea : Option Addr) (nn nc fn fc sn sc en ec : Nat) (w : World) :
  Calls Try.prog 70 #[.agg #[.int .u8 1, .int .u32 id, .int .u32 at_, .slice na nn nc, .slice fa fn fc, .int .u32 epoch, .slice sa sn sc, .int .i64 frm, .int .i64 til, .slice ea en ec]] w fun e w' => e = .returned (.agg #[.int .u8 1, .int .u32 0, .int .u32 at_, .slice none 0 0, .slice none 0 0, .int .u32 epoch, .slice sa sn sc, .int .i64 frm, .int .i64 til, .slice ea en ec]) ∧ Below w.heap.size w w' := by
 go_enter Try.func70, Try.ntmps70
 go_wp2
 refine bodyPost_ret (v := .agg #[.int .u8 1, .int .u32 0, .int .u32 at_, .slice none 0 0, .slice none 0 0, .int .u32 epoch, .slice sa sn sc, .int .i64 frm, .int .i64 til, .slice ea en ec]) (by simp [results, Try.results70, go_sem, *]) rfl ⟨rfl, ?_⟩
 (repeat (first | with_reducible exact Below.refl _ _ | (with_reducible refine Below.drew ?_) | (with_reducible refine Below.alloc ?_ (by first | omega | (simp; done) | (simp; omega)) _) | (with_reducible refine Below.setCell ?_ (by first | exact Nat.le_refl _ | omega | (simp; done) | (simp; omega)) _)))

set_option maxHeartbeats 4000000 in
theorem unw_2 (kind id at_ epoch frm til : Int) (na fa sa ea : Option Addr) (nn nc fn fc sn sc en ec : Nat) (w : World) :
  Calls Try.prog 70 #[.agg #[.int .u8 2, .int .u32 id, .int .u32 at_, .slice na nn nc, .slice fa fn fc, .int .u32 epoch, .slice sa sn sc, .int .i64 frm, .int .i64 til, .slice ea en ec]] w fun e w' => e = .returned (.agg #[.int .u8 2, .int .u32 0, .int .u32 0, .slice none 0 0, .slice fa fn fc, .int .u32 epoch, .slice sa sn sc, .int .i64 frm, .int .i64 til, .slice ea en ec]) ∧ Below w.heap.size w w' := by
 go_enter Try.func70, Try.ntmps70
 go_wp2
 refine bodyPost_ret (v := .agg #[.int .u8 2, .int .u32 0, .int .u32 0, .slice none 0 0, .slice fa fn fc, .int .u32 epoch, .slice sa sn sc, .int .i64 frm, .int .i64 til, .slice ea en ec]) (by simp [results, Try.results70, go_sem, *]) rfl ⟨rfl, ?_⟩
 (repeat (first | with_reducible exact Below.refl _ _ | (with_reducible refine Below.drew ?_) | (with_reducible refine Below.alloc ?_ (by first | omega | (simp; done) | (simp; omega)) _) | (with_reducible refine Below.setCell ?_ (by first | exact Nat.le_refl _ | omega | (simp; done) | (simp; omega)) _)))

set_option maxHeartbeats 4000000 in
theorem unw_3 (kind id at_ epoch frm til : Int) (na fa sa ea : Option Addr) (nn nc fn fc sn sc en ec : Nat) (w : World) :
  Calls Try.prog 70 #[.agg #[.int .u8 3, .int .u32 id, .int .u32 at_, .slice na nn nc, .slice fa fn fc, .int .u32 epoch, .slice sa sn sc, .int .i64 frm, .int .i64 til, .slice ea en ec]] w fun e w' => e = .returned (.agg #[.int .u8 3, .int .u32 0, .int .u32 at_, .slice na nn nc, .slice fa fn fc, .int .u32 epoch, .slice sa sn sc, .int .i64 frm, .int .i64 til, .slice ea en ec]) ∧ Below w.heap.size w w' := by
 go_enter Try.func70, Try.ntmps70
 go_wp2
 refine bodyPost_ret (v := .agg #[.int .u8 3, .int .u32 0, .int .u32 at_, .slice na nn nc, .slice fa fn fc, .int .u32 epoch, .slice sa sn sc, .int .i64 frm, .int .i64 til, .slice ea en ec]) (by simp [results, Try.results70, go_sem, *]) rfl ⟨rfl, ?_⟩
 (repeat (first | with_reducible exact Below.refl _ _ | (with_reducible refine Below.drew ?_) | (with_reducible refine Below.alloc ?_ (by first | omega | (simp; done) | (simp; omega)) _) | (with_reducible refine Below.setCell ?_ (by first | exact Nat.le_refl _ | omega | (simp; done) | (simp; omega)) _)))

set_option maxHeartbeats 4000000 in
theorem unw_4 (kind id at_ epoch frm til : Int) (na fa sa ea : Option Addr) (nn nc fn fc sn sc en ec : Nat) (w : World) :
  Calls Try.prog 70 #[.agg #[.int .u8 4, .int .u32 id, .int .u32 at_, .slice na nn nc, .slice fa fn fc, .int .u32 epoch, .slice sa sn sc, .int .i64 frm, .int .i64 til, .slice ea en ec]] w fun e w' => e = .returned (.agg #[.int .u8 4, .int .u32 0, .int .u32 at_, .slice na nn nc, .slice fa fn fc, .int .u32 epoch, .slice sa sn sc, .int .i64 frm, .int .i64 til, .slice ea en ec]) ∧ Below w.heap.size w w' := by
 go_enter Try.func70, Try.ntmps70
 go_wp2
 refine bodyPost_ret (v := .agg #[.int .u8 4, .int .u32 0, .int .u32 at_, .slice na nn nc, .slice fa fn fc, .int .u32 epoch, .slice sa sn sc, .int .i64 frm, .int .i64 til, .slice ea en ec]) (by simp [results, Try.results70, go_sem, *]) rfl ⟨rfl, ?_⟩
 (repeat (first | with_reducible exact Below.refl _ _ | (with_reducible refine Below.drew ?_) | (with_reducible refine Below.alloc ?_ (by first | omega | (simp; done) | (simp; omega)) _) | (with_reducible refine Below.setCell ?_ (by first | exact Nat.le_refl _ | omega | (simp; done) | (simp; omega)) _)))

set_option maxHeartbeats 4000000 in
theorem unw_5 (kind id at_ epoch frm til : Int) (na fa sa ea : Option Addr) (nn nc fn fc sn sc en ec : Nat) (w : World) :
  Calls Try.prog 70 #[.agg #[.int .u8 5, .int .u32 id, .int .u32 at_, .slice na nn nc, .slice fa fn fc, .int .u32 epoch, .slice sa sn sc, .int .i64 frm, .int .i64 til, .slice ea en ec]] w fun e w' => e = .returned (.agg #[.int .u8 5, .int .u32 0, .int .u32 at_, .slice na nn nc, .slice fa fn fc, .int .u32 epoch, .slice sa sn sc, .int .i64 frm, .int .i64 til, .slice ea en ec]) ∧ Below w.heap.size w w' := by
 go_enter Try.func70, Try.ntmps70
 go_wp2
 refine bodyPost_ret (v := .agg #[.int .u8 5, .int .u32 0, .int .u32 at_, .slice na nn nc, .slice fa fn fc, .int .u32 epoch, .slice sa sn sc, .int .i64 frm, .int .i64 til, .slice ea en ec]) (by simp [results, Try.results70, go_sem, *]) rfl ⟨rfl, ?_⟩
 (repeat (first | with_reducible exact Below.refl _ _ | (with_reducible refine Below.drew ?_) | (with_reducible refine Below.alloc ?_ (by first | omega | (simp; done) | (simp; omega)) _) | (with_reducible refine Below.setCell ?_ (by first | exact Nat.le_refl _ | omega | (simp; done) | (simp; omega)) _)))

set_option maxHeartbeats 4000000 in
theorem unw_6 (kind id at_ epoch frm til : Int) (na fa sa ea : Option Addr) (nn nc fn fc sn sc en ec : Nat) (w : World) :
  Calls Try.prog 70 #[.agg #[.int .u8 6, .int .u32 id, .int .u32 at_, .slice na nn nc, .slice fa fn fc, .int .u32 epoch, .slice sa sn sc, .int .i64 frm, .int .i64 til, .slice ea en ec]] w fun e w' => e = .returned (.agg #[.int .u8 6, .int .u32 id, .int .u32 at_, .slice na nn nc, .slice fa fn fc, .int .u32 0, .slice none 0 0, .int .i64 frm, .int .i64 til, .slice ea en ec]) ∧ Below w.heap.size w w' := by
 go_enter Try.func70, Try.ntmps70
 go_wp2
 refine bodyPost_ret (v := .agg #[.int .u8 6, .int .u32 id, .int .u32 at_, .slice na nn nc, .slice fa fn fc, .int .u32 0, .slice none 0 0, .int .i64 frm, .int .i64 til, .slice ea en ec]) (by simp [results, Try.results70, go_sem, *]) rfl ⟨rfl, ?_⟩
 (repeat (first | with_reducible exact Below.refl _ _ | (with_reducible refine Below.drew ?_) | (with_reducible refine Below.alloc ?_ (by first | omega | (simp; done) | (simp; omega)) _) | (with_reducible refine Below.setCell ?_ (by first | exact Nat.le_refl _ | omega | (simp; done) | (simp; omega)) _)))

set_option maxHeartbeats 4000000 in
theorem unw_7 (kind id at_ epoch frm til : Int) (na fa sa ea : Option Addr) (nn nc fn fc sn sc en ec : Nat) (w : World) :
  Calls Try.prog 70 #[.agg #[.int .u8 7, .int .u32 id, .int .u32 at_, .slice na nn nc, .slice fa fn fc, .int .u32 epoch, .slice sa sn sc, .int .i64 frm, .int .i64 til, .slice ea en ec]] w fun e w' => e = .returned (.agg #[.int .u8 7, .int .u32 0, .int .u32 at_, .slice na nn nc, .slice fa fn fc, .int .u32 epoch, .slice sa sn sc, .int .i64 0, .int .i64 0, .slice none 0 0]) ∧ Below w.heap.size w w' := by
 go_enter Try.func70, Try.ntmps70
 go_wp2
 refine bodyPost_ret (v := .agg #[.int .u8 7, .int .u32 0, .int .u32 at_, .slice na nn nc, .slice fa fn fc, .int .u32 epoch, .slice sa sn sc, .int .i64 0, .int .i64 0, .slice none 0 0]) (by simp [results, Try.results70, go_sem, *]) rfl ⟨rfl, ?_⟩
 (repeat (first | with_reducible exact Below.refl _ _ | (with_reducible refine Below.drew ?_) | (with_reducible refine Below.alloc ?_ (by first | omega | (simp; done) | (simp; omega)) _) | (with_reducible refine Below.setCell ?_ (by first | exact Nat.le_refl _ | omega | (simp; done) | (simp; omega)) _)))

set_option maxHeartbeats 8000000 in
theorem nought_val (kind id at_ epoch frm til : Int) (na fa sa ea : Option Addr) (nn nc fn fc sn sc en ec : Nat) (w : World) :
  Calls Try.prog 69 #[.agg #[.int .u8 kind, .int .u32 id, .int .u32 at_, .slice na nn nc, .slice fa fn fc, .int .u32 epoch, .slice sa sn sc, .int .i64 frm, .int .i64 til, .slice ea en ec]] w fun e w' => e = .returned (.bool (decide (id = 0) && (decide (at_ = 0) && (decide (nn = 0) && (decide (fn = 0) && (decide (epoch = 0) && (decide (sn = 0) && (decide (frm = 0) && (decide (til = 0) && (decide (en = 0))))))))))) ∧ Below w.heap.size w w' := by
 have hB : ∀ o, Below w.heap.size w (w.alloc o) := fun o => (Below.refl _ _).alloc (Nat.le_refl _) _
 by_cases c0 : id = 0
 rotate_left
 ·have c0' : (id == 0) = false := by simpa using c0
  have HE : Hid (¬ id = 0) := c0
  clear c0
  go_enter Try.func69, Try.ntmps69
  go_wp2
  go_ret
  exact ⟨ret_bool (by have := HE.out; simp [this]), hB _⟩
 subst c0
 by_cases c1 : at_ = 0
 rotate_left
 ·have c1' : (at_ == 0) = false := by simpa using c1
  have HE : Hid (¬ at_ = 0) := c1
  clear c1
  go_enter Try.func69, Try.ntmps69
  go_wp2
  go_ret
  exact ⟨ret_bool (by have := HE.out; simp [this]), hB _⟩
 subst c1
 by_cases c2 : nn = 0
 rotate_left
 ·have c2' : (nn == 0) = false := by simpa using c2
  have c2'' : (((nn : Nat) : Int) == 0) = false := by simp; omega
  have HE : Hid (¬ nn = 0) := c2
  clear c2
  go_enter Try.func69, Try.ntmps69
  go_wp2
  go_ret
  exact ⟨ret_bool (by have := HE.out; simp [this]), hB _⟩
 subst c2
 by_cases c3 : fn = 0
 rotate_left
 ·have c3' : (fn == 0) = false := by simpa using c3
  have c3'' : (((fn : Nat) : Int) == 0) = false := by simp; omega
  have HE : Hid (¬ fn = 0) := c3
  clear c3
  go_enter Try.func69, Try.ntmps69
  go_wp2
  go_ret
  exact ⟨ret_bool (by have := HE.out; simp [this]), hB _⟩
 subst c3
 by_cases c4 : epoch = 0
 rotate_left
 ·have c4' : (epoch == 0) = false := by simpa using c4
  have HE : Hid (¬ epoch = 0) := c4
  clear c4
  go_enter Try.func69, Try.ntmps69
  go_wp2
  go_ret
  exact ⟨ret_bool (by have := HE.out; simp [this]), hB _⟩
 subst c4
 by_cases c5 : sn = 0
 rotate_left
 ·have c5' : (sn == 0) = false := by simpa using c5
  have c5'' : (((sn : Nat) : Int) == 0) = false := by simp; omega
  have HE : Hid (¬ sn = 0) := c5
  clear c5
  go_enter Try.func69, Try.ntmps69
  go_wp2
  go_ret
  exact ⟨ret_bool (by have := HE.out; simp [this]), hB _⟩
 subst c5
 by_cases c6 : frm = 0
 rotate_left
 ·have c6' : (frm == 0) = false := by simpa using c6
  have HE : Hid (¬ frm = 0) := c6
  clear c6
  go_enter Try.func69, Try.ntmps69
  go_wp2
  go_ret
  exact ⟨ret_bool (by have := HE.out; simp [this]), hB _⟩
 subst c6
 by_cases c7 : til = 0
 rotate_left
 ·have c7' : (til == 0) = false := by simpa using c7
  have HE : Hid (¬ til = 0) := c7
  clear c7
  go_enter Try.func69, Try.ntmps69
  go_wp2
  go_ret
  exact ⟨ret_bool (by have := HE.out; simp [this]), hB _⟩
 subst c7
 by_cases c8 : en = 0
 rotate_left
 ·have c8' : (en == 0) = false := by simpa using c8
  have c8'' : (((en : Nat) : Int) == 0) = false := by simp; omega
  have HE : Hid (¬ en = 0) := c8
  clear c8
  go_enter Try.func69, Try.ntmps69
  go_wp2
  go_ret
  exact ⟨ret_bool (by have := HE.out; simp [this]), hB _⟩
 subst c8
 go_enter Try.func69, Try.ntmps69
 go_wp2
 go_ret
 exact ⟨ret_bool (by simp), hB _⟩
end Go.Proofs.Ytlcjllgfpfldlaa.code

namespace Go.Proofs.Ytlcjllgfpfldlaa.code
open Go.ChangeShapes Go.WideShapes Go.ChangeAt Go.RowKit Go.Deep
open Go.Proofs.Ytlcjllgfpfldlaa.dims (nth Ints cell_lt vals vals_len vals_get own_below own_mono own_out RowOut ret_bool)
set_option linter.unusedVariables false
set_option maxRecDepth 100000
set_option linter.unusedSimpArgs false

def noughtB (r : Rc) : Bool := decide (r.id = 0) && (decide (r.at_ = 0) && (decide (r.nodes.length = 0) && (decide (r.facts.length = 0) && (decide (r.epoch = 0) && (decide (r.spans.length = 0) && (decide (r.frm = 0) && (decide (r.til = 0) && decide (r.ents.length = 0))))))))
theorem nought_any (r : Rc) (w : World) : Calls Try.prog 69 #[rcV r] w fun e w' => e = .returned (.bool (noughtB r)) ∧ Below w.heap.size w w' :=
 nought_val r.kind r.id r.at_ r.epoch r.frm r.til r.na r.fa r.sa r.ea r.nodes.length r.nc r.facts.length r.fc r.spans.length r.sc r.ents.length r.ec w
theorem unw_any (r : Rc) (h : 1 ≤ r.kind ∧ r.kind ≤ 7) (w : World) : Calls Try.prog 70 #[rcV r] w fun e w' => e = .returned (rcV (unw r)) ∧ Below w.heap.size w w' := by
 obtain ⟨kind, id, at_, na, nc, nodes, fa, fc, facts, epoch, sa, sc, spans, frm, til, ea, ec, ents⟩ := r
 simp only at h
 have hk : kind = 1 ∨ kind = 2 ∨ kind = 3 ∨ kind = 4 ∨ kind = 5 ∨ kind = 6 ∨ kind = 7 := by omega
 rcases hk with rfl | rfl | rfl | rfl | rfl | rfl | rfl
 ·exact unw_1 0 id at_ epoch frm til na fa sa ea nodes.length nc facts.length fc spans.length sc ents.length ec w
 ·exact unw_2 0 id at_ epoch frm til na fa sa ea nodes.length nc facts.length fc spans.length sc ents.length ec w
 ·exact unw_3 0 id at_ epoch frm til na fa sa ea nodes.length nc facts.length fc spans.length sc ents.length ec w
 ·exact unw_4 0 id at_ epoch frm til na fa sa ea nodes.length nc facts.length fc spans.length sc ents.length ec w
 ·exact unw_5 0 id at_ epoch frm til na fa sa ea nodes.length nc facts.length fc spans.length sc ents.length ec w
 ·exact unw_6 0 id at_ epoch frm til na fa sa ea nodes.length nc facts.length fc spans.length sc ents.length ec w
 ·exact unw_7 0 id at_ epoch frm til na fa sa ea nodes.length nc facts.length fc spans.length sc ents.length ec w
theorem nodesOk_nil : nodesOk [] = true := rfl
theorem factsOk_nil : factsOk [] = true := rfl
theorem spansOk_nil : spansOk [] = true := rfl
theorem entsOk_nil : entsOk [] = true := rfl
set_option maxHeartbeats 4000000 in
theorem snd_code (r : Rc) (h : 1 ≤ r.kind ∧ r.kind ≤ 7) : sndRec (pr r) = (noughtB (unw r) && (nodesOk r.nodes && (factsOk (r.facts.map pf) && (spansOk r.spans && (entsOk (r.ents.map pe) && (decide (0 ≤ r.frm ∧ r.frm ≤ 10000) && decide (0 ≤ r.til ∧ r.til ≤ 10000))))))) := by
 obtain ⟨kind, id, at_, na, nc, nodes, fa, fc, facts, epoch, sa, sc, spans, frm, til, ea, ec, ents⟩ := r
 simp only at h
 have hk : kind = 1 ∨ kind = 2 ∨ kind = 3 ∨ kind = 4 ∨ kind = 5 ∨ kind = 6 ∨ kind = 7 := by omega
 rw [Bool.eq_iff_iff]
 rcases hk with rfl | rfl | rfl | rfl | rfl | rfl | rfl
 all_goals
  dsimp only [sndRec, pr, noughtB, unw, bareI, bareA, bareN, bareF, bareM, bareR]
  simp only [sndRec, pr, noughtB, unw, bareI, bareA, bareN, bareF, bareM, bareR, Bool.and_eq_true, decide_eq_true_eq, List.length_map, List.length_eq_zero_iff, List.length_nil, reduceCtorEq, if_true, if_false, true_or, or_true, Int.reduceEq, or_self, true_and, and_true]
  constructor
  ·intro hh
   simp_all [nodesOk_nil, factsOk_nil, spansOk_nil, entsOk_nil]
  ·intro hh
   simp_all


set_option maxHeartbeats 8000000 in
theorem sound_kind (w : World) (r : Rc) (h : ¬ (1 ≤ r.kind ∧ r.kind ≤ 7)) : Calls Try.prog 50 #[rcV r] w fun e w' => e = .returned (.bool (sndRec (pr r))) ∧ Below w.heap.size w w' := by
 have E : Hid (sndRec (pr r) = false) := by
  show _ = _
  dsimp only [sndRec, pr]
  rw [if_neg (by omega), if_neg (by omega), if_neg (by omega), if_neg (by omega), if_neg (by omega)]
 have hB : ∀ o, Below w.heap.size w (w.alloc o) := fun o => (Below.refl _ _).alloc (Nat.le_refl _) _
 show Calls _ _ #[.agg (rcC r)] _ _
 unfold rcC
 generalize r.kind = kind at h
 by_cases h1 : 1 ≤ kind
 ·have h7 : ¬ kind ≤ 7 := by omega
  go_enter Try.func50, Try.ntmps50
  go_wp2
  go_ret
  exact ⟨ret_bool E.out.symm, hB _⟩
 ·go_enter Try.func50, Try.ntmps50
  go_wp2
  go_ret
  exact ⟨ret_bool E.out.symm, hB _⟩

set_option maxHeartbeats 8000000 in
theorem sound_0 (w : World) (r : Rc) (hR : RecIn w r) (h1 : 1 ≤ r.kind) (h7 : r.kind ≤ 7) (e0 : noughtB (unw r) = false) : Calls Try.prog 50 #[rcV r] w fun e w' => e = .returned (.bool false) ∧ Below w.heap.size w w' := by
 have hB : Below w.heap.size w (w.alloc (.cells (rcC r) 44)) := (Below.refl _ _).alloc (Nat.le_refl _) _
 have hcell : ∀ W, Below (w.heap.size + 1) (w.alloc (.cells (rcC r) 44)) W → ∀ j x, (rcC r)[j]? = some x → W.cell? ⟨w.heap.size, j, none⟩ = some x := by
  intro W hW j x hx
  rw [hW.cell (p := ⟨w.heap.size, j, none⟩) (by simp)]
  simpa [go_sem] using hx
 have hR0 := hR.keep hB
 have hsz : (w.alloc (.cells (rcC r) 44)).heap.size = w.heap.size + 1 := by simp
 generalize hW0 : w.alloc (.cells (rcC r) 44) = W0 at hB hR0 hcell hsz
 rw [← hsz] at hcell
 have HR : Aside (RecIn W0 r) := hR0
 have H0 : Aside (Below w.heap.size w W0) := hB
 have b0 := Below.refl W0.heap.size W0
 have s0 : w.heap.size < W0.heap.size := by omega
 have hU := unw_any r ⟨h1, h7⟩ W0
 have HC : Aside (∀ W, Below W0.heap.size W0 W → ∀ j x, (rcC r)[j]? = some x → W.cell? ⟨w.heap.size, j, none⟩ = some x) := hcell
 have hW1 : w.alloc (.cells #[.int .u8 r.kind, .int .u32 r.id, .int .u32 r.at_, .slice r.na r.nodes.length r.nc, .slice r.fa r.facts.length r.fc, .int .u32 r.epoch, .slice r.sa r.spans.length r.sc, .int .i64 r.frm, .int .i64 r.til, .slice r.ea r.ents.length r.ec] 44) = W0 := hW0
 have HW : Hid (_ = W0) := hW1
 have q0 : ∀ j x, (rcC r)[j]? = some x → W0.cell? ⟨w.heap.size, j, none⟩ = some x := HC.out W0 b0
 have hne : Hid (w.heap.size ≠ W0.heap.size) := by show _ ≠ _; omega
 have E0 : Hid (noughtB (unw r) = false) := e0
 clear hR hR0 hB hcell hsz hW0 hW1 q0 hne e0
 show Calls _ _ #[.agg #[.int .u8 r.kind, .int .u32 r.id, .int .u32 r.at_, .slice r.na r.nodes.length r.nc, .slice r.fa r.facts.length r.fc, .int .u32 r.epoch, .slice r.sa r.spans.length r.sc, .int .i64 r.frm, .int .i64 r.til, .slice r.ea r.ents.length r.ec]] _ _
 go_enter Try.func50, Try.ntmps50
 go_wp2_with fail
 rw [HW.out]
 refine hU.mono ?_
 rintro e w1 ⟨rfl, g1⟩
 have b1 : Below W0.heap.size W0 w1 := b0.trans g1
 clear hU
 have hC1 := nought_any (unw r) w1
 rw [E0.out] at hC1
 go_wp2_with (go_at_call 69; refine hC1.mono ?_; rintro e w2 ⟨rfl, g2⟩; refine Hid.out ?_)
 refine hid ?_
 have b2 : Below W0.heap.size W0 w2 := b1.trans (g2.mono b1.size)
 clear hC1 g2
 go_wp2
 go_ret
 exact ⟨rfl, H0.out.trans (b2.mono H0.out.size)⟩

set_option maxHeartbeats 8000000 in
theorem sound_1 (w : World) (r : Rc) (hR : RecIn w r) (h1 : 1 ≤ r.kind) (h7 : r.kind ≤ 7) (e0 : noughtB (unw r) = true) (e1 : nodesOk r.nodes = false) : Calls Try.prog 50 #[rcV r] w fun e w' => e = .returned (.bool false) ∧ Below w.heap.size w w' := by
 have hB : Below w.heap.size w (w.alloc (.cells (rcC r) 44)) := (Below.refl _ _).alloc (Nat.le_refl _) _
 have hcell : ∀ W, Below (w.heap.size + 1) (w.alloc (.cells (rcC r) 44)) W → ∀ j x, (rcC r)[j]? = some x → W.cell? ⟨w.heap.size, j, none⟩ = some x := by
  intro W hW j x hx
  rw [hW.cell (p := ⟨w.heap.size, j, none⟩) (by simp)]
  simpa [go_sem] using hx
 have hR0 := hR.keep hB
 have hsz : (w.alloc (.cells (rcC r) 44)).heap.size = w.heap.size + 1 := by simp
 generalize hW0 : w.alloc (.cells (rcC r) 44) = W0 at hB hR0 hcell hsz
 rw [← hsz] at hcell
 have HR : Aside (RecIn W0 r) := hR0
 have H0 : Aside (Below w.heap.size w W0) := hB
 have b0 := Below.refl W0.heap.size W0
 have s0 : w.heap.size < W0.heap.size := by omega
 have hU := unw_any r ⟨h1, h7⟩ W0
 have HC : Aside (∀ W, Below W0.heap.size W0 W → ∀ j x, (rcC r)[j]? = some x → W.cell? ⟨w.heap.size, j, none⟩ = some x) := hcell
 have hW1 : w.alloc (.cells #[.int .u8 r.kind, .int .u32 r.id, .int .u32 r.at_, .slice r.na r.nodes.length r.nc, .slice r.fa r.facts.length r.fc, .int .u32 r.epoch, .slice r.sa r.spans.length r.sc, .int .i64 r.frm, .int .i64 r.til, .slice r.ea r.ents.length r.ec] 44) = W0 := hW0
 have HW : Hid (_ = W0) := hW1
 have q0 : ∀ j x, (rcC r)[j]? = some x → W0.cell? ⟨w.heap.size, j, none⟩ = some x := HC.out W0 b0
 have hne : Hid (w.heap.size ≠ W0.heap.size) := by show _ ≠ _; omega
 have E0 : Hid (noughtB (unw r) = true) := e0
 have E1 : Hid (nodesOk r.nodes = false) := e1
 clear hR hR0 hB hcell hsz hW0 hW1 q0 hne e0 e1
 show Calls _ _ #[.agg #[.int .u8 r.kind, .int .u32 r.id, .int .u32 r.at_, .slice r.na r.nodes.length r.nc, .slice r.fa r.facts.length r.fc, .int .u32 r.epoch, .slice r.sa r.spans.length r.sc, .int .i64 r.frm, .int .i64 r.til, .slice r.ea r.ents.length r.ec]] _ _
 go_enter Try.func50, Try.ntmps50
 go_wp2_with fail
 rw [HW.out]
 refine hU.mono ?_
 rintro e w1 ⟨rfl, g1⟩
 have b1 : Below W0.heap.size W0 w1 := b0.trans g1
 clear hU
 have hC1 := nought_any (unw r) w1
 rw [E0.out] at hC1
 go_wp2_with (go_at_call 69; refine hC1.mono ?_; rintro e w2 ⟨rfl, g2⟩; refine Hid.out ?_)
 refine hid ?_
 have b2 : Below W0.heap.size W0 w2 := b1.trans (g2.mono b1.size)
 clear hC1 g2
 have q2 := HC.out w2 b2 3 _ rfl
 have hC2 := soundNodes_any r.na r.nodes.length r.nc r.nodes w2 (HR.out.nodes.keep b2) rfl HR.out.nlen
 rw [E1.out] at hC2
 go_wp2_with (go_at_call 71; refine hC2.mono ?_; rintro e w3 ⟨rfl, rfl⟩; refine Hid.out ?_)
 refine hid ?_
 clear hC2
 go_wp2
 go_ret
 exact ⟨rfl, H0.out.trans (b2.mono H0.out.size)⟩

set_option maxHeartbeats 8000000 in
theorem sound_2 (w : World) (r : Rc) (hR : RecIn w r) (h1 : 1 ≤ r.kind) (h7 : r.kind ≤ 7) (e0 : noughtB (unw r) = true) (e1 : nodesOk r.nodes = true) (e2 : factsOk (r.facts.map pf) = false) : Calls Try.prog 50 #[rcV r] w fun e w' => e = .returned (.bool false) ∧ Below w.heap.size w w' := by
 have hB : Below w.heap.size w (w.alloc (.cells (rcC r) 44)) := (Below.refl _ _).alloc (Nat.le_refl _) _
 have hcell : ∀ W, Below (w.heap.size + 1) (w.alloc (.cells (rcC r) 44)) W → ∀ j x, (rcC r)[j]? = some x → W.cell? ⟨w.heap.size, j, none⟩ = some x := by
  intro W hW j x hx
  rw [hW.cell (p := ⟨w.heap.size, j, none⟩) (by simp)]
  simpa [go_sem] using hx
 have hR0 := hR.keep hB
 have hsz : (w.alloc (.cells (rcC r) 44)).heap.size = w.heap.size + 1 := by simp
 generalize hW0 : w.alloc (.cells (rcC r) 44) = W0 at hB hR0 hcell hsz
 rw [← hsz] at hcell
 have HR : Aside (RecIn W0 r) := hR0
 have H0 : Aside (Below w.heap.size w W0) := hB
 have b0 := Below.refl W0.heap.size W0
 have s0 : w.heap.size < W0.heap.size := by omega
 have hU := unw_any r ⟨h1, h7⟩ W0
 have HC : Aside (∀ W, Below W0.heap.size W0 W → ∀ j x, (rcC r)[j]? = some x → W.cell? ⟨w.heap.size, j, none⟩ = some x) := hcell
 have hW1 : w.alloc (.cells #[.int .u8 r.kind, .int .u32 r.id, .int .u32 r.at_, .slice r.na r.nodes.length r.nc, .slice r.fa r.facts.length r.fc, .int .u32 r.epoch, .slice r.sa r.spans.length r.sc, .int .i64 r.frm, .int .i64 r.til, .slice r.ea r.ents.length r.ec] 44) = W0 := hW0
 have HW : Hid (_ = W0) := hW1
 have q0 : ∀ j x, (rcC r)[j]? = some x → W0.cell? ⟨w.heap.size, j, none⟩ = some x := HC.out W0 b0
 have hne : Hid (w.heap.size ≠ W0.heap.size) := by show _ ≠ _; omega
 have E0 : Hid (noughtB (unw r) = true) := e0
 have E1 : Hid (nodesOk r.nodes = true) := e1
 have E2 : Hid (factsOk (r.facts.map pf) = false) := e2
 clear hR hR0 hB hcell hsz hW0 hW1 q0 hne e0 e1 e2
 show Calls _ _ #[.agg #[.int .u8 r.kind, .int .u32 r.id, .int .u32 r.at_, .slice r.na r.nodes.length r.nc, .slice r.fa r.facts.length r.fc, .int .u32 r.epoch, .slice r.sa r.spans.length r.sc, .int .i64 r.frm, .int .i64 r.til, .slice r.ea r.ents.length r.ec]] _ _
 go_enter Try.func50, Try.ntmps50
 go_wp2_with fail
 rw [HW.out]
 refine hU.mono ?_
 rintro e w1 ⟨rfl, g1⟩
 have b1 : Below W0.heap.size W0 w1 := b0.trans g1
 clear hU
 have hC1 := nought_any (unw r) w1
 rw [E0.out] at hC1
 go_wp2_with (go_at_call 69; refine hC1.mono ?_; rintro e w2 ⟨rfl, g2⟩; refine Hid.out ?_)
 refine hid ?_
 have b2 : Below W0.heap.size W0 w2 := b1.trans (g2.mono b1.size)
 clear hC1 g2
 have q2 := HC.out w2 b2 3 _ rfl
 have hC2 := soundNodes_any r.na r.nodes.length r.nc r.nodes w2 (HR.out.nodes.keep b2) rfl HR.out.nlen
 rw [E1.out] at hC2
 go_wp2_with (go_at_call 71; refine hC2.mono ?_; rintro e w3 ⟨rfl, rfl⟩; refine Hid.out ?_)
 refine hid ?_
 clear hC2
 have q3 := HC.out w3 b2 4 _ rfl
 have hC3 := soundFacts_any r.fa r.facts.length r.fc r.facts w3 (HR.out.facts.keep b2) rfl HR.out.flen
 rw [E2.out] at hC3
 go_wp2_with (go_at_call 72; refine hC3.mono ?_; rintro e w4 ⟨rfl, g4⟩; refine Hid.out ?_)
 refine hid ?_
 have b4 : Below W0.heap.size W0 w4 := b2.trans (g4.mono b2.size)
 clear hC3 g4
 go_wp2
 go_ret
 exact ⟨rfl, H0.out.trans (b4.mono H0.out.size)⟩

set_option maxHeartbeats 8000000 in
theorem sound_3 (w : World) (r : Rc) (hR : RecIn w r) (h1 : 1 ≤ r.kind) (h7 : r.kind ≤ 7) (e0 : noughtB (unw r) = true) (e1 : nodesOk r.nodes = true) (e2 : factsOk (r.facts.map pf) = true) (e3 : spansOk r.spans = false) : Calls Try.prog 50 #[rcV r] w fun e w' => e = .returned (.bool false) ∧ Below w.heap.size w w' := by
 have hB : Below w.heap.size w (w.alloc (.cells (rcC r) 44)) := (Below.refl _ _).alloc (Nat.le_refl _) _
 have hcell : ∀ W, Below (w.heap.size + 1) (w.alloc (.cells (rcC r) 44)) W → ∀ j x, (rcC r)[j]? = some x → W.cell? ⟨w.heap.size, j, none⟩ = some x := by
  intro W hW j x hx
  rw [hW.cell (p := ⟨w.heap.size, j, none⟩) (by simp)]
  simpa [go_sem] using hx
 have hR0 := hR.keep hB
 have hsz : (w.alloc (.cells (rcC r) 44)).heap.size = w.heap.size + 1 := by simp
 generalize hW0 : w.alloc (.cells (rcC r) 44) = W0 at hB hR0 hcell hsz
 rw [← hsz] at hcell
 have HR : Aside (RecIn W0 r) := hR0
 have H0 : Aside (Below w.heap.size w W0) := hB
 have b0 := Below.refl W0.heap.size W0
 have s0 : w.heap.size < W0.heap.size := by omega
 have hU := unw_any r ⟨h1, h7⟩ W0
 have HC : Aside (∀ W, Below W0.heap.size W0 W → ∀ j x, (rcC r)[j]? = some x → W.cell? ⟨w.heap.size, j, none⟩ = some x) := hcell
 have hW1 : w.alloc (.cells #[.int .u8 r.kind, .int .u32 r.id, .int .u32 r.at_, .slice r.na r.nodes.length r.nc, .slice r.fa r.facts.length r.fc, .int .u32 r.epoch, .slice r.sa r.spans.length r.sc, .int .i64 r.frm, .int .i64 r.til, .slice r.ea r.ents.length r.ec] 44) = W0 := hW0
 have HW : Hid (_ = W0) := hW1
 have q0 : ∀ j x, (rcC r)[j]? = some x → W0.cell? ⟨w.heap.size, j, none⟩ = some x := HC.out W0 b0
 have hne : Hid (w.heap.size ≠ W0.heap.size) := by show _ ≠ _; omega
 have E0 : Hid (noughtB (unw r) = true) := e0
 have E1 : Hid (nodesOk r.nodes = true) := e1
 have E2 : Hid (factsOk (r.facts.map pf) = true) := e2
 have E3 : Hid (spansOk r.spans = false) := e3
 clear hR hR0 hB hcell hsz hW0 hW1 q0 hne e0 e1 e2 e3
 show Calls _ _ #[.agg #[.int .u8 r.kind, .int .u32 r.id, .int .u32 r.at_, .slice r.na r.nodes.length r.nc, .slice r.fa r.facts.length r.fc, .int .u32 r.epoch, .slice r.sa r.spans.length r.sc, .int .i64 r.frm, .int .i64 r.til, .slice r.ea r.ents.length r.ec]] _ _
 go_enter Try.func50, Try.ntmps50
 go_wp2_with fail
 rw [HW.out]
 refine hU.mono ?_
 rintro e w1 ⟨rfl, g1⟩
 have b1 : Below W0.heap.size W0 w1 := b0.trans g1
 clear hU
 have hC1 := nought_any (unw r) w1
 rw [E0.out] at hC1
 go_wp2_with (go_at_call 69; refine hC1.mono ?_; rintro e w2 ⟨rfl, g2⟩; refine Hid.out ?_)
 refine hid ?_
 have b2 : Below W0.heap.size W0 w2 := b1.trans (g2.mono b1.size)
 clear hC1 g2
 have q2 := HC.out w2 b2 3 _ rfl
 have hC2 := soundNodes_any r.na r.nodes.length r.nc r.nodes w2 (HR.out.nodes.keep b2) rfl HR.out.nlen
 rw [E1.out] at hC2
 go_wp2_with (go_at_call 71; refine hC2.mono ?_; rintro e w3 ⟨rfl, rfl⟩; refine Hid.out ?_)
 refine hid ?_
 clear hC2
 have q3 := HC.out w3 b2 4 _ rfl
 have hC3 := soundFacts_any r.fa r.facts.length r.fc r.facts w3 (HR.out.facts.keep b2) rfl HR.out.flen
 rw [E2.out] at hC3
 go_wp2_with (go_at_call 72; refine hC3.mono ?_; rintro e w4 ⟨rfl, g4⟩; refine Hid.out ?_)
 refine hid ?_
 have b4 : Below W0.heap.size W0 w4 := b2.trans (g4.mono b2.size)
 clear hC3 g4
 have q4 := HC.out w4 b4 6 _ rfl
 have hC4 := soundSpans_any r.sa r.spans.length r.sc r.spans w4 (HR.out.spans.keep b4) rfl HR.out.slen
 rw [E3.out] at hC4
 go_wp2_with (go_at_call 73; refine hC4.mono ?_; rintro e w5 ⟨rfl, g5⟩; refine Hid.out ?_)
 refine hid ?_
 have b5 : Below W0.heap.size W0 w5 := b4.trans (g5.mono b4.size)
 clear hC4 g5
 go_wp2
 go_ret
 exact ⟨rfl, H0.out.trans (b5.mono H0.out.size)⟩

set_option maxHeartbeats 8000000 in
theorem sound_4 (w : World) (r : Rc) (hR : RecIn w r) (h1 : 1 ≤ r.kind) (h7 : r.kind ≤ 7) (e0 : noughtB (unw r) = true) (e1 : nodesOk r.nodes = true) (e2 : factsOk (r.facts.map pf) = true) (e3 : spansOk r.spans = true) (e4 : entsOk (r.ents.map pe) = false) : Calls Try.prog 50 #[rcV r] w fun e w' => e = .returned (.bool false) ∧ Below w.heap.size w w' := by
 have hB : Below w.heap.size w (w.alloc (.cells (rcC r) 44)) := (Below.refl _ _).alloc (Nat.le_refl _) _
 have hcell : ∀ W, Below (w.heap.size + 1) (w.alloc (.cells (rcC r) 44)) W → ∀ j x, (rcC r)[j]? = some x → W.cell? ⟨w.heap.size, j, none⟩ = some x := by
  intro W hW j x hx
  rw [hW.cell (p := ⟨w.heap.size, j, none⟩) (by simp)]
  simpa [go_sem] using hx
 have hR0 := hR.keep hB
 have hsz : (w.alloc (.cells (rcC r) 44)).heap.size = w.heap.size + 1 := by simp
 generalize hW0 : w.alloc (.cells (rcC r) 44) = W0 at hB hR0 hcell hsz
 rw [← hsz] at hcell
 have HR : Aside (RecIn W0 r) := hR0
 have H0 : Aside (Below w.heap.size w W0) := hB
 have b0 := Below.refl W0.heap.size W0
 have s0 : w.heap.size < W0.heap.size := by omega
 have hU := unw_any r ⟨h1, h7⟩ W0
 have HC : Aside (∀ W, Below W0.heap.size W0 W → ∀ j x, (rcC r)[j]? = some x → W.cell? ⟨w.heap.size, j, none⟩ = some x) := hcell
 have hW1 : w.alloc (.cells #[.int .u8 r.kind, .int .u32 r.id, .int .u32 r.at_, .slice r.na r.nodes.length r.nc, .slice r.fa r.facts.length r.fc, .int .u32 r.epoch, .slice r.sa r.spans.length r.sc, .int .i64 r.frm, .int .i64 r.til, .slice r.ea r.ents.length r.ec] 44) = W0 := hW0
 have HW : Hid (_ = W0) := hW1
 have q0 : ∀ j x, (rcC r)[j]? = some x → W0.cell? ⟨w.heap.size, j, none⟩ = some x := HC.out W0 b0
 have hne : Hid (w.heap.size ≠ W0.heap.size) := by show _ ≠ _; omega
 have E0 : Hid (noughtB (unw r) = true) := e0
 have E1 : Hid (nodesOk r.nodes = true) := e1
 have E2 : Hid (factsOk (r.facts.map pf) = true) := e2
 have E3 : Hid (spansOk r.spans = true) := e3
 have E4 : Hid (entsOk (r.ents.map pe) = false) := e4
 clear hR hR0 hB hcell hsz hW0 hW1 q0 hne e0 e1 e2 e3 e4
 show Calls _ _ #[.agg #[.int .u8 r.kind, .int .u32 r.id, .int .u32 r.at_, .slice r.na r.nodes.length r.nc, .slice r.fa r.facts.length r.fc, .int .u32 r.epoch, .slice r.sa r.spans.length r.sc, .int .i64 r.frm, .int .i64 r.til, .slice r.ea r.ents.length r.ec]] _ _
 go_enter Try.func50, Try.ntmps50
 go_wp2_with fail
 rw [HW.out]
 refine hU.mono ?_
 rintro e w1 ⟨rfl, g1⟩
 have b1 : Below W0.heap.size W0 w1 := b0.trans g1
 clear hU
 have hC1 := nought_any (unw r) w1
 rw [E0.out] at hC1
 go_wp2_with (go_at_call 69; refine hC1.mono ?_; rintro e w2 ⟨rfl, g2⟩; refine Hid.out ?_)
 refine hid ?_
 have b2 : Below W0.heap.size W0 w2 := b1.trans (g2.mono b1.size)
 clear hC1 g2
 have q2 := HC.out w2 b2 3 _ rfl
 have hC2 := soundNodes_any r.na r.nodes.length r.nc r.nodes w2 (HR.out.nodes.keep b2) rfl HR.out.nlen
 rw [E1.out] at hC2
 go_wp2_with (go_at_call 71; refine hC2.mono ?_; rintro e w3 ⟨rfl, rfl⟩; refine Hid.out ?_)
 refine hid ?_
 clear hC2
 have q3 := HC.out w3 b2 4 _ rfl
 have hC3 := soundFacts_any r.fa r.facts.length r.fc r.facts w3 (HR.out.facts.keep b2) rfl HR.out.flen
 rw [E2.out] at hC3
 go_wp2_with (go_at_call 72; refine hC3.mono ?_; rintro e w4 ⟨rfl, g4⟩; refine Hid.out ?_)
 refine hid ?_
 have b4 : Below W0.heap.size W0 w4 := b2.trans (g4.mono b2.size)
 clear hC3 g4
 have q4 := HC.out w4 b4 6 _ rfl
 have hC4 := soundSpans_any r.sa r.spans.length r.sc r.spans w4 (HR.out.spans.keep b4) rfl HR.out.slen
 rw [E3.out] at hC4
 go_wp2_with (go_at_call 73; refine hC4.mono ?_; rintro e w5 ⟨rfl, g5⟩; refine Hid.out ?_)
 refine hid ?_
 have b5 : Below W0.heap.size W0 w5 := b4.trans (g5.mono b4.size)
 clear hC4 g5
 have q5 := HC.out w5 b5 9 _ rfl
 have hC5 := soundEntries_any r.ea r.ents.length r.ec r.ents w5 (HR.out.ents.keep b5) rfl HR.out.elen
 rw [E4.out] at hC5
 go_wp2_with (go_at_call 74; refine hC5.mono ?_; rintro e w6 ⟨rfl, g6⟩; refine Hid.out ?_)
 refine hid ?_
 have b6 : Below W0.heap.size W0 w6 := b5.trans (g6.mono b5.size)
 clear hC5 g6
 go_wp2
 go_ret
 exact ⟨rfl, H0.out.trans (b6.mono H0.out.size)⟩

set_option maxHeartbeats 8000000 in
theorem sound_5 (w : World) (r : Rc) (hR : RecIn w r) (h1 : 1 ≤ r.kind) (h7 : r.kind ≤ 7) (e0 : noughtB (unw r) = true) (e1 : nodesOk r.nodes = true) (e2 : factsOk (r.facts.map pf) = true) (e3 : spansOk r.spans = true) (e4 : entsOk (r.ents.map pe) = true) (e5 : decide (0 ≤ r.frm ∧ r.frm ≤ 10000) = false) : Calls Try.prog 50 #[rcV r] w fun e w' => e = .returned (.bool false) ∧ Below w.heap.size w w' := by
 have hB : Below w.heap.size w (w.alloc (.cells (rcC r) 44)) := (Below.refl _ _).alloc (Nat.le_refl _) _
 have hcell : ∀ W, Below (w.heap.size + 1) (w.alloc (.cells (rcC r) 44)) W → ∀ j x, (rcC r)[j]? = some x → W.cell? ⟨w.heap.size, j, none⟩ = some x := by
  intro W hW j x hx
  rw [hW.cell (p := ⟨w.heap.size, j, none⟩) (by simp)]
  simpa [go_sem] using hx
 have hR0 := hR.keep hB
 have hsz : (w.alloc (.cells (rcC r) 44)).heap.size = w.heap.size + 1 := by simp
 generalize hW0 : w.alloc (.cells (rcC r) 44) = W0 at hB hR0 hcell hsz
 rw [← hsz] at hcell
 have HR : Aside (RecIn W0 r) := hR0
 have H0 : Aside (Below w.heap.size w W0) := hB
 have b0 := Below.refl W0.heap.size W0
 have s0 : w.heap.size < W0.heap.size := by omega
 have hU := unw_any r ⟨h1, h7⟩ W0
 have HC : Aside (∀ W, Below W0.heap.size W0 W → ∀ j x, (rcC r)[j]? = some x → W.cell? ⟨w.heap.size, j, none⟩ = some x) := hcell
 have hW1 : w.alloc (.cells #[.int .u8 r.kind, .int .u32 r.id, .int .u32 r.at_, .slice r.na r.nodes.length r.nc, .slice r.fa r.facts.length r.fc, .int .u32 r.epoch, .slice r.sa r.spans.length r.sc, .int .i64 r.frm, .int .i64 r.til, .slice r.ea r.ents.length r.ec] 44) = W0 := hW0
 have HW : Hid (_ = W0) := hW1
 have q0 : ∀ j x, (rcC r)[j]? = some x → W0.cell? ⟨w.heap.size, j, none⟩ = some x := HC.out W0 b0
 have hne : Hid (w.heap.size ≠ W0.heap.size) := by show _ ≠ _; omega
 have E0 : Hid (noughtB (unw r) = true) := e0
 have E1 : Hid (nodesOk r.nodes = true) := e1
 have E2 : Hid (factsOk (r.facts.map pf) = true) := e2
 have E3 : Hid (spansOk r.spans = true) := e3
 have E4 : Hid (entsOk (r.ents.map pe) = true) := e4
 have E5 : Hid (decide (0 ≤ r.frm ∧ r.frm ≤ 10000) = false) := e5
 clear hR hR0 hB hcell hsz hW0 hW1 q0 hne e0 e1 e2 e3 e4 e5
 show Calls _ _ #[.agg #[.int .u8 r.kind, .int .u32 r.id, .int .u32 r.at_, .slice r.na r.nodes.length r.nc, .slice r.fa r.facts.length r.fc, .int .u32 r.epoch, .slice r.sa r.spans.length r.sc, .int .i64 r.frm, .int .i64 r.til, .slice r.ea r.ents.length r.ec]] _ _
 go_enter Try.func50, Try.ntmps50
 go_wp2_with fail
 rw [HW.out]
 refine hU.mono ?_
 rintro e w1 ⟨rfl, g1⟩
 have b1 : Below W0.heap.size W0 w1 := b0.trans g1
 clear hU
 have hC1 := nought_any (unw r) w1
 rw [E0.out] at hC1
 go_wp2_with (go_at_call 69; refine hC1.mono ?_; rintro e w2 ⟨rfl, g2⟩; refine Hid.out ?_)
 refine hid ?_
 have b2 : Below W0.heap.size W0 w2 := b1.trans (g2.mono b1.size)
 clear hC1 g2
 have q2 := HC.out w2 b2 3 _ rfl
 have hC2 := soundNodes_any r.na r.nodes.length r.nc r.nodes w2 (HR.out.nodes.keep b2) rfl HR.out.nlen
 rw [E1.out] at hC2
 go_wp2_with (go_at_call 71; refine hC2.mono ?_; rintro e w3 ⟨rfl, rfl⟩; refine Hid.out ?_)
 refine hid ?_
 clear hC2
 have q3 := HC.out w3 b2 4 _ rfl
 have hC3 := soundFacts_any r.fa r.facts.length r.fc r.facts w3 (HR.out.facts.keep b2) rfl HR.out.flen
 rw [E2.out] at hC3
 go_wp2_with (go_at_call 72; refine hC3.mono ?_; rintro e w4 ⟨rfl, g4⟩; refine Hid.out ?_)
 refine hid ?_
 have b4 : Below W0.heap.size W0 w4 := b2.trans (g4.mono b2.size)
 clear hC3 g4
 have q4 := HC.out w4 b4 6 _ rfl
 have hC4 := soundSpans_any r.sa r.spans.length r.sc r.spans w4 (HR.out.spans.keep b4) rfl HR.out.slen
 rw [E3.out] at hC4
 go_wp2_with (go_at_call 73; refine hC4.mono ?_; rintro e w5 ⟨rfl, g5⟩; refine Hid.out ?_)
 refine hid ?_
 have b5 : Below W0.heap.size W0 w5 := b4.trans (g5.mono b4.size)
 clear hC4 g5
 have q5 := HC.out w5 b5 9 _ rfl
 have hC5 := soundEntries_any r.ea r.ents.length r.ec r.ents w5 (HR.out.ents.keep b5) rfl HR.out.elen
 rw [E4.out] at hC5
 go_wp2_with (go_at_call 74; refine hC5.mono ?_; rintro e w6 ⟨rfl, g6⟩; refine Hid.out ?_)
 refine hid ?_
 have b6 : Below W0.heap.size W0 w6 := b5.trans (g6.mono b5.size)
 clear hC5 g6
 have q6 := HC.out w6 b6 7 _ rfl
 have hC6 := within_any r.frm 10000 w6
 rw [E5.out] at hC6
 go_wp2_with (go_at_call 75; refine hC6.mono ?_; rintro e w7 ⟨rfl, rfl⟩; refine Hid.out ?_)
 refine hid ?_
 clear hC6
 go_wp2
 go_ret
 exact ⟨rfl, H0.out.trans (b6.mono H0.out.size)⟩

set_option maxHeartbeats 8000000 in
theorem sound_6 (w : World) (r : Rc) (hR : RecIn w r) (h1 : 1 ≤ r.kind) (h7 : r.kind ≤ 7) (e0 : noughtB (unw r) = true) (e1 : nodesOk r.nodes = true) (e2 : factsOk (r.facts.map pf) = true) (e3 : spansOk r.spans = true) (e4 : entsOk (r.ents.map pe) = true) (e5 : decide (0 ≤ r.frm ∧ r.frm ≤ 10000) = true) (e6 : decide (0 ≤ r.til ∧ r.til ≤ 10000) = false) : Calls Try.prog 50 #[rcV r] w fun e w' => e = .returned (.bool false) ∧ Below w.heap.size w w' := by
 have hB : Below w.heap.size w (w.alloc (.cells (rcC r) 44)) := (Below.refl _ _).alloc (Nat.le_refl _) _
 have hcell : ∀ W, Below (w.heap.size + 1) (w.alloc (.cells (rcC r) 44)) W → ∀ j x, (rcC r)[j]? = some x → W.cell? ⟨w.heap.size, j, none⟩ = some x := by
  intro W hW j x hx
  rw [hW.cell (p := ⟨w.heap.size, j, none⟩) (by simp)]
  simpa [go_sem] using hx
 have hR0 := hR.keep hB
 have hsz : (w.alloc (.cells (rcC r) 44)).heap.size = w.heap.size + 1 := by simp
 generalize hW0 : w.alloc (.cells (rcC r) 44) = W0 at hB hR0 hcell hsz
 rw [← hsz] at hcell
 have HR : Aside (RecIn W0 r) := hR0
 have H0 : Aside (Below w.heap.size w W0) := hB
 have b0 := Below.refl W0.heap.size W0
 have s0 : w.heap.size < W0.heap.size := by omega
 have hU := unw_any r ⟨h1, h7⟩ W0
 have HC : Aside (∀ W, Below W0.heap.size W0 W → ∀ j x, (rcC r)[j]? = some x → W.cell? ⟨w.heap.size, j, none⟩ = some x) := hcell
 have hW1 : w.alloc (.cells #[.int .u8 r.kind, .int .u32 r.id, .int .u32 r.at_, .slice r.na r.nodes.length r.nc, .slice r.fa r.facts.length r.fc, .int .u32 r.epoch, .slice r.sa r.spans.length r.sc, .int .i64 r.frm, .int .i64 r.til, .slice r.ea r.ents.length r.ec] 44) = W0 := hW0
 have HW : Hid (_ = W0) := hW1
 have q0 : ∀ j x, (rcC r)[j]? = some x → W0.cell? ⟨w.heap.size, j, none⟩ = some x := HC.out W0 b0
 have hne : Hid (w.heap.size ≠ W0.heap.size) := by show _ ≠ _; omega
 have E0 : Hid (noughtB (unw r) = true) := e0
 have E1 : Hid (nodesOk r.nodes = true) := e1
 have E2 : Hid (factsOk (r.facts.map pf) = true) := e2
 have E3 : Hid (spansOk r.spans = true) := e3
 have E4 : Hid (entsOk (r.ents.map pe) = true) := e4
 have E5 : Hid (decide (0 ≤ r.frm ∧ r.frm ≤ 10000) = true) := e5
 have E6 : Hid (decide (0 ≤ r.til ∧ r.til ≤ 10000) = false) := e6
 clear hR hR0 hB hcell hsz hW0 hW1 q0 hne e0 e1 e2 e3 e4 e5 e6
 show Calls _ _ #[.agg #[.int .u8 r.kind, .int .u32 r.id, .int .u32 r.at_, .slice r.na r.nodes.length r.nc, .slice r.fa r.facts.length r.fc, .int .u32 r.epoch, .slice r.sa r.spans.length r.sc, .int .i64 r.frm, .int .i64 r.til, .slice r.ea r.ents.length r.ec]] _ _
 go_enter Try.func50, Try.ntmps50
 go_wp2_with fail
 rw [HW.out]
 refine hU.mono ?_
 rintro e w1 ⟨rfl, g1⟩
 have b1 : Below W0.heap.size W0 w1 := b0.trans g1
 clear hU
 have hC1 := nought_any (unw r) w1
 rw [E0.out] at hC1
 go_wp2_with (go_at_call 69; refine hC1.mono ?_; rintro e w2 ⟨rfl, g2⟩; refine Hid.out ?_)
 refine hid ?_
 have b2 : Below W0.heap.size W0 w2 := b1.trans (g2.mono b1.size)
 clear hC1 g2
 have q2 := HC.out w2 b2 3 _ rfl
 have hC2 := soundNodes_any r.na r.nodes.length r.nc r.nodes w2 (HR.out.nodes.keep b2) rfl HR.out.nlen
 rw [E1.out] at hC2
 go_wp2_with (go_at_call 71; refine hC2.mono ?_; rintro e w3 ⟨rfl, rfl⟩; refine Hid.out ?_)
 refine hid ?_
 clear hC2
 have q3 := HC.out w3 b2 4 _ rfl
 have hC3 := soundFacts_any r.fa r.facts.length r.fc r.facts w3 (HR.out.facts.keep b2) rfl HR.out.flen
 rw [E2.out] at hC3
 go_wp2_with (go_at_call 72; refine hC3.mono ?_; rintro e w4 ⟨rfl, g4⟩; refine Hid.out ?_)
 refine hid ?_
 have b4 : Below W0.heap.size W0 w4 := b2.trans (g4.mono b2.size)
 clear hC3 g4
 have q4 := HC.out w4 b4 6 _ rfl
 have hC4 := soundSpans_any r.sa r.spans.length r.sc r.spans w4 (HR.out.spans.keep b4) rfl HR.out.slen
 rw [E3.out] at hC4
 go_wp2_with (go_at_call 73; refine hC4.mono ?_; rintro e w5 ⟨rfl, g5⟩; refine Hid.out ?_)
 refine hid ?_
 have b5 : Below W0.heap.size W0 w5 := b4.trans (g5.mono b4.size)
 clear hC4 g5
 have q5 := HC.out w5 b5 9 _ rfl
 have hC5 := soundEntries_any r.ea r.ents.length r.ec r.ents w5 (HR.out.ents.keep b5) rfl HR.out.elen
 rw [E4.out] at hC5
 go_wp2_with (go_at_call 74; refine hC5.mono ?_; rintro e w6 ⟨rfl, g6⟩; refine Hid.out ?_)
 refine hid ?_
 have b6 : Below W0.heap.size W0 w6 := b5.trans (g6.mono b5.size)
 clear hC5 g6
 have q6 := HC.out w6 b6 7 _ rfl
 have hC6 := within_any r.frm 10000 w6
 rw [E5.out] at hC6
 go_wp2_with (go_at_call 75; refine hC6.mono ?_; rintro e w7 ⟨rfl, rfl⟩; refine Hid.out ?_)
 refine hid ?_
 clear hC6
 have q7 := HC.out w7 b6 8 _ rfl
 have hC7 := within_any r.til 10000 w7
 rw [E6.out] at hC7
 go_wp2_with (go_at_call 75; refine hC7.mono ?_; rintro e w8 ⟨rfl, rfl⟩; refine Hid.out ?_)
 refine hid ?_
 clear hC7
 go_wp2
 go_ret
 exact ⟨rfl, H0.out.trans (b6.mono H0.out.size)⟩

set_option maxHeartbeats 8000000 in
theorem sound_7 (w : World) (r : Rc) (hR : RecIn w r) (h1 : 1 ≤ r.kind) (h7 : r.kind ≤ 7) (e0 : noughtB (unw r) = true) (e1 : nodesOk r.nodes = true) (e2 : factsOk (r.facts.map pf) = true) (e3 : spansOk r.spans = true) (e4 : entsOk (r.ents.map pe) = true) (e5 : decide (0 ≤ r.frm ∧ r.frm ≤ 10000) = true) (e6 : decide (0 ≤ r.til ∧ r.til ≤ 10000) = true) : Calls Try.prog 50 #[rcV r] w fun e w' => e = .returned (.bool true) ∧ Below w.heap.size w w' := by
 have hB : Below w.heap.size w (w.alloc (.cells (rcC r) 44)) := (Below.refl _ _).alloc (Nat.le_refl _) _
 have hcell : ∀ W, Below (w.heap.size + 1) (w.alloc (.cells (rcC r) 44)) W → ∀ j x, (rcC r)[j]? = some x → W.cell? ⟨w.heap.size, j, none⟩ = some x := by
  intro W hW j x hx
  rw [hW.cell (p := ⟨w.heap.size, j, none⟩) (by simp)]
  simpa [go_sem] using hx
 have hR0 := hR.keep hB
 have hsz : (w.alloc (.cells (rcC r) 44)).heap.size = w.heap.size + 1 := by simp
 generalize hW0 : w.alloc (.cells (rcC r) 44) = W0 at hB hR0 hcell hsz
 rw [← hsz] at hcell
 have HR : Aside (RecIn W0 r) := hR0
 have H0 : Aside (Below w.heap.size w W0) := hB
 have b0 := Below.refl W0.heap.size W0
 have s0 : w.heap.size < W0.heap.size := by omega
 have hU := unw_any r ⟨h1, h7⟩ W0
 have HC : Aside (∀ W, Below W0.heap.size W0 W → ∀ j x, (rcC r)[j]? = some x → W.cell? ⟨w.heap.size, j, none⟩ = some x) := hcell
 have hW1 : w.alloc (.cells #[.int .u8 r.kind, .int .u32 r.id, .int .u32 r.at_, .slice r.na r.nodes.length r.nc, .slice r.fa r.facts.length r.fc, .int .u32 r.epoch, .slice r.sa r.spans.length r.sc, .int .i64 r.frm, .int .i64 r.til, .slice r.ea r.ents.length r.ec] 44) = W0 := hW0
 have HW : Hid (_ = W0) := hW1
 have q0 : ∀ j x, (rcC r)[j]? = some x → W0.cell? ⟨w.heap.size, j, none⟩ = some x := HC.out W0 b0
 have hne : Hid (w.heap.size ≠ W0.heap.size) := by show _ ≠ _; omega
 have E0 : Hid (noughtB (unw r) = true) := e0
 have E1 : Hid (nodesOk r.nodes = true) := e1
 have E2 : Hid (factsOk (r.facts.map pf) = true) := e2
 have E3 : Hid (spansOk r.spans = true) := e3
 have E4 : Hid (entsOk (r.ents.map pe) = true) := e4
 have E5 : Hid (decide (0 ≤ r.frm ∧ r.frm ≤ 10000) = true) := e5
 have E6 : Hid (decide (0 ≤ r.til ∧ r.til ≤ 10000) = true) := e6
 clear hR hR0 hB hcell hsz hW0 hW1 q0 hne e0 e1 e2 e3 e4 e5 e6
 show Calls _ _ #[.agg #[.int .u8 r.kind, .int .u32 r.id, .int .u32 r.at_, .slice r.na r.nodes.length r.nc, .slice r.fa r.facts.length r.fc, .int .u32 r.epoch, .slice r.sa r.spans.length r.sc, .int .i64 r.frm, .int .i64 r.til, .slice r.ea r.ents.length r.ec]] _ _
 go_enter Try.func50, Try.ntmps50
 go_wp2_with fail
 rw [HW.out]
 refine hU.mono ?_
 rintro e w1 ⟨rfl, g1⟩
 have b1 : Below W0.heap.size W0 w1 := b0.trans g1
 clear hU
 have hC1 := nought_any (unw r) w1
 rw [E0.out] at hC1
 go_wp2_with (go_at_call 69; refine hC1.mono ?_; rintro e w2 ⟨rfl, g2⟩; refine Hid.out ?_)
 refine hid ?_
 have b2 : Below W0.heap.size W0 w2 := b1.trans (g2.mono b1.size)
 clear hC1 g2
 have q2 := HC.out w2 b2 3 _ rfl
 have hC2 := soundNodes_any r.na r.nodes.length r.nc r.nodes w2 (HR.out.nodes.keep b2) rfl HR.out.nlen
 rw [E1.out] at hC2
 go_wp2_with (go_at_call 71; refine hC2.mono ?_; rintro e w3 ⟨rfl, rfl⟩; refine Hid.out ?_)
 refine hid ?_
 clear hC2
 have q3 := HC.out w3 b2 4 _ rfl
 have hC3 := soundFacts_any r.fa r.facts.length r.fc r.facts w3 (HR.out.facts.keep b2) rfl HR.out.flen
 rw [E2.out] at hC3
 go_wp2_with (go_at_call 72; refine hC3.mono ?_; rintro e w4 ⟨rfl, g4⟩; refine Hid.out ?_)
 refine hid ?_
 have b4 : Below W0.heap.size W0 w4 := b2.trans (g4.mono b2.size)
 clear hC3 g4
 have q4 := HC.out w4 b4 6 _ rfl
 have hC4 := soundSpans_any r.sa r.spans.length r.sc r.spans w4 (HR.out.spans.keep b4) rfl HR.out.slen
 rw [E3.out] at hC4
 go_wp2_with (go_at_call 73; refine hC4.mono ?_; rintro e w5 ⟨rfl, g5⟩; refine Hid.out ?_)
 refine hid ?_
 have b5 : Below W0.heap.size W0 w5 := b4.trans (g5.mono b4.size)
 clear hC4 g5
 have q5 := HC.out w5 b5 9 _ rfl
 have hC5 := soundEntries_any r.ea r.ents.length r.ec r.ents w5 (HR.out.ents.keep b5) rfl HR.out.elen
 rw [E4.out] at hC5
 go_wp2_with (go_at_call 74; refine hC5.mono ?_; rintro e w6 ⟨rfl, g6⟩; refine Hid.out ?_)
 refine hid ?_
 have b6 : Below W0.heap.size W0 w6 := b5.trans (g6.mono b5.size)
 clear hC5 g6
 have q6 := HC.out w6 b6 7 _ rfl
 have hC6 := within_any r.frm 10000 w6
 rw [E5.out] at hC6
 go_wp2_with (go_at_call 75; refine hC6.mono ?_; rintro e w7 ⟨rfl, rfl⟩; refine Hid.out ?_)
 refine hid ?_
 clear hC6
 have q7 := HC.out w7 b6 8 _ rfl
 have hC7 := within_any r.til 10000 w7
 rw [E6.out] at hC7
 go_wp2_with (go_at_call 75; refine hC7.mono ?_; rintro e w8 ⟨rfl, rfl⟩; refine Hid.out ?_)
 refine hid ?_
 clear hC7
 go_wp2
 go_ret
 exact ⟨rfl, H0.out.trans (b6.mono H0.out.size)⟩

theorem sound_any (w : World) (r : Rc) (hR : RecIn w r) : Calls Try.prog 50 #[rcV r] w fun e w' => e = .returned (.bool (sndRec (pr r))) ∧ Below w.heap.size w w' := by
 by_cases h : 1 ≤ r.kind ∧ r.kind ≤ 7
 rotate_left
 ·exact sound_kind w r h
 rw [snd_code r h]
 by_cases e0 : noughtB (unw r) = true
 rotate_left
 ·rw [Bool.not_eq_true] at e0
  rw [e0]
  exact sound_0 w r hR h.1 h.2 e0
 by_cases e1 : nodesOk r.nodes = true
 rotate_left
 ·rw [Bool.not_eq_true] at e1
  rw [e0, e1]
  exact sound_1 w r hR h.1 h.2 e0 e1
 by_cases e2 : factsOk (r.facts.map pf) = true
 rotate_left
 ·rw [Bool.not_eq_true] at e2
  rw [e0, e1, e2]
  exact sound_2 w r hR h.1 h.2 e0 e1 e2
 by_cases e3 : spansOk r.spans = true
 rotate_left
 ·rw [Bool.not_eq_true] at e3
  rw [e0, e1, e2, e3]
  exact sound_3 w r hR h.1 h.2 e0 e1 e2 e3
 by_cases e4 : entsOk (r.ents.map pe) = true
 rotate_left
 ·rw [Bool.not_eq_true] at e4
  rw [e0, e1, e2, e3, e4]
  exact sound_4 w r hR h.1 h.2 e0 e1 e2 e3 e4
 by_cases e5 : decide (0 ≤ r.frm ∧ r.frm ≤ 10000) = true
 rotate_left
 ·rw [Bool.not_eq_true] at e5
  rw [e0, e1, e2, e3, e4, e5]
  exact sound_5 w r hR h.1 h.2 e0 e1 e2 e3 e4 e5
 by_cases e6 : decide (0 ≤ r.til ∧ r.til ≤ 10000) = true
 rotate_left
 ·rw [Bool.not_eq_true] at e6
  rw [e0, e1, e2, e3, e4, e5, e6]
  exact sound_6 w r hR h.1 h.2 e0 e1 e2 e3 e4 e5 e6
 rw [e0, e1, e2, e3, e4, e5, e6]
 exact sound_7 w r hR h.1 h.2 e0 e1 e2 e3 e4 e5 e6
end Go.Proofs.Ytlcjllgfpfldlaa.code
