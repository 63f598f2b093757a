/-
  What of a record is not written for its kind; whether there is nothing: the program's unwritten, nought.
-/
import Derived.Test.YtlokamblbhooaaaCodeSndE
namespace Go.Proofs.Ytlokamblbhooaaa.code
open Go.ChangeShapes Go.WideShapes Go.ChangeAt Go.RowKit Go.Deep
open Go.Proofs.Ytlokamblbhooaaa.dims (nth Ints cell_lt vals vals_len vals_get vals_one vals_app own_below own_mono own_out own_apart RowOut ret_bool ret_int)
set_option linter.unusedVariables false
set_option maxRecDepth 100000
set_option linter.unusedSimpArgs false

def unw (r : Rc) : Rc :=
  if r.kind = 1 then { r with id := 0, na := none, nc := 0, nodes := [], fa := none, fc := 0, facts := [] }
  else if r.kind = 2 then { r with id := 0, at_ := 0, na := none, nc := 0, nodes := [] }
  else if r.kind = 3 ∨ r.kind = 4 ∨ r.kind = 5 then { r with id := 0 }
  else if r.kind = 6 then { r with epoch := 0, sa := none, sc := 0, spans := [] }
  else { r with id := 0, frm := 0, til := 0, ea := none, ec := 0, ents := [] }

set_option maxHeartbeats 4000000 in
theorem unw_1 (kind id at_ epoch frm til : Int) (na fa sa ea : Option Addr) (nn nc fn fc sn sc en ec : Nat) (w : World) :
    Calls Try.prog 26 #[.agg #[.int .u8 1, .int .u32 id, .int .u32 at_, .slice na nn nc, .slice fa fn fc, .int .u32 epoch, .slice sa sn sc, .int .i64 frm, .int .i64 til, .slice ea en ec]] w fun e w' => e = .returned (.agg #[.int .u8 1, .int .u32 0, .int .u32 at_, .slice none 0 0, .slice none 0 0, .int .u32 epoch, .slice sa sn sc, .int .i64 frm, .int .i64 til, .slice ea en ec]) ∧ Below w.heap.size w w' := by
  go_enter Try.func26, Try.ntmps26
  go_wp2
  refine bodyPost_ret (v := .agg #[.int .u8 1, .int .u32 0, .int .u32 at_, .slice none 0 0, .slice none 0 0, .int .u32 epoch, .slice sa sn sc, .int .i64 frm, .int .i64 til, .slice ea en ec]) (by simp [results, Try.results26, go_sem, *]) rfl ⟨rfl, ?_⟩
  (repeat (first | with_reducible exact Below.refl _ _ | (with_reducible refine Below.drew ?_) | (with_reducible refine Below.alloc ?_ (by first | omega | (simp; done) | (simp; omega)) _) | (with_reducible refine Below.setCell ?_ (by first | exact Nat.le_refl _ | omega | (simp; done) | (simp; omega)) _)))

set_option maxHeartbeats 4000000 in
theorem unw_2 (kind id at_ epoch frm til : Int) (na fa sa ea : Option Addr) (nn nc fn fc sn sc en ec : Nat) (w : World) :
    Calls Try.prog 26 #[.agg #[.int .u8 2, .int .u32 id, .int .u32 at_, .slice na nn nc, .slice fa fn fc, .int .u32 epoch, .slice sa sn sc, .int .i64 frm, .int .i64 til, .slice ea en ec]] w fun e w' => e = .returned (.agg #[.int .u8 2, .int .u32 0, .int .u32 0, .slice none 0 0, .slice fa fn fc, .int .u32 epoch, .slice sa sn sc, .int .i64 frm, .int .i64 til, .slice ea en ec]) ∧ Below w.heap.size w w' := by
  go_enter Try.func26, Try.ntmps26
  go_wp2
  refine bodyPost_ret (v := .agg #[.int .u8 2, .int .u32 0, .int .u32 0, .slice none 0 0, .slice fa fn fc, .int .u32 epoch, .slice sa sn sc, .int .i64 frm, .int .i64 til, .slice ea en ec]) (by simp [results, Try.results26, go_sem, *]) rfl ⟨rfl, ?_⟩
  (repeat (first | with_reducible exact Below.refl _ _ | (with_reducible refine Below.drew ?_) | (with_reducible refine Below.alloc ?_ (by first | omega | (simp; done) | (simp; omega)) _) | (with_reducible refine Below.setCell ?_ (by first | exact Nat.le_refl _ | omega | (simp; done) | (simp; omega)) _)))

set_option maxHeartbeats 4000000 in
theorem unw_3 (kind id at_ epoch frm til : Int) (na fa sa ea : Option Addr) (nn nc fn fc sn sc en ec : Nat) (w : World) :
    Calls Try.prog 26 #[.agg #[.int .u8 3, .int .u32 id, .int .u32 at_, .slice na nn nc, .slice fa fn fc, .int .u32 epoch, .slice sa sn sc, .int .i64 frm, .int .i64 til, .slice ea en ec]] w fun e w' => e = .returned (.agg #[.int .u8 3, .int .u32 0, .int .u32 at_, .slice na nn nc, .slice fa fn fc, .int .u32 epoch, .slice sa sn sc, .int .i64 frm, .int .i64 til, .slice ea en ec]) ∧ Below w.heap.size w w' := by
  go_enter Try.func26, Try.ntmps26
  go_wp2
  refine bodyPost_ret (v := .agg #[.int .u8 3, .int .u32 0, .int .u32 at_, .slice na nn nc, .slice fa fn fc, .int .u32 epoch, .slice sa sn sc, .int .i64 frm, .int .i64 til, .slice ea en ec]) (by simp [results, Try.results26, go_sem, *]) rfl ⟨rfl, ?_⟩
  (repeat (first | with_reducible exact Below.refl _ _ | (with_reducible refine Below.drew ?_) | (with_reducible refine Below.alloc ?_ (by first | omega | (simp; done) | (simp; omega)) _) | (with_reducible refine Below.setCell ?_ (by first | exact Nat.le_refl _ | omega | (simp; done) | (simp; omega)) _)))

set_option maxHeartbeats 4000000 in
theorem unw_4 (kind id at_ epoch frm til : Int) (na fa sa ea : Option Addr) (nn nc fn fc sn sc en ec : Nat) (w : World) :
    Calls Try.prog 26 #[.agg #[.int .u8 4, .int .u32 id, .int .u32 at_, .slice na nn nc, .slice fa fn fc, .int .u32 epoch, .slice sa sn sc, .int .i64 frm, .int .i64 til, .slice ea en ec]] w fun e w' => e = .returned (.agg #[.int .u8 4, .int .u32 0, .int .u32 at_, .slice na nn nc, .slice fa fn fc, .int .u32 epoch, .slice sa sn sc, .int .i64 frm, .int .i64 til, .slice ea en ec]) ∧ Below w.heap.size w w' := by
  go_enter Try.func26, Try.ntmps26
  go_wp2
  refine bodyPost_ret (v := .agg #[.int .u8 4, .int .u32 0, .int .u32 at_, .slice na nn nc, .slice fa fn fc, .int .u32 epoch, .slice sa sn sc, .int .i64 frm, .int .i64 til, .slice ea en ec]) (by simp [results, Try.results26, go_sem, *]) rfl ⟨rfl, ?_⟩
  (repeat (first | with_reducible exact Below.refl _ _ | (with_reducible refine Below.drew ?_) | (with_reducible refine Below.alloc ?_ (by first | omega | (simp; done) | (simp; omega)) _) | (with_reducible refine Below.setCell ?_ (by first | exact Nat.le_refl _ | omega | (simp; done) | (simp; omega)) _)))

set_option maxHeartbeats 4000000 in
theorem unw_5 (kind id at_ epoch frm til : Int) (na fa sa ea : Option Addr) (nn nc fn fc sn sc en ec : Nat) (w : World) :
    Calls Try.prog 26 #[.agg #[.int .u8 5, .int .u32 id, .int .u32 at_, .slice na nn nc, .slice fa fn fc, .int .u32 epoch, .slice sa sn sc, .int .i64 frm, .int .i64 til, .slice ea en ec]] w fun e w' => e = .returned (.agg #[.int .u8 5, .int .u32 0, .int .u32 at_, .slice na nn nc, .slice fa fn fc, .int .u32 epoch, .slice sa sn sc, .int .i64 frm, .int .i64 til, .slice ea en ec]) ∧ Below w.heap.size w w' := by
  go_enter Try.func26, Try.ntmps26
  go_wp2
  refine bodyPost_ret (v := .agg #[.int .u8 5, .int .u32 0, .int .u32 at_, .slice na nn nc, .slice fa fn fc, .int .u32 epoch, .slice sa sn sc, .int .i64 frm, .int .i64 til, .slice ea en ec]) (by simp [results, Try.results26, go_sem, *]) rfl ⟨rfl, ?_⟩
  (repeat (first | with_reducible exact Below.refl _ _ | (with_reducible refine Below.drew ?_) | (with_reducible refine Below.alloc ?_ (by first | omega | (simp; done) | (simp; omega)) _) | (with_reducible refine Below.setCell ?_ (by first | exact Nat.le_refl _ | omega | (simp; done) | (simp; omega)) _)))

set_option maxHeartbeats 4000000 in
theorem unw_6 (kind id at_ epoch frm til : Int) (na fa sa ea : Option Addr) (nn nc fn fc sn sc en ec : Nat) (w : World) :
    Calls Try.prog 26 #[.agg #[.int .u8 6, .int .u32 id, .int .u32 at_, .slice na nn nc, .slice fa fn fc, .int .u32 epoch, .slice sa sn sc, .int .i64 frm, .int .i64 til, .slice ea en ec]] w fun e w' => e = .returned (.agg #[.int .u8 6, .int .u32 id, .int .u32 at_, .slice na nn nc, .slice fa fn fc, .int .u32 0, .slice none 0 0, .int .i64 frm, .int .i64 til, .slice ea en ec]) ∧ Below w.heap.size w w' := by
  go_enter Try.func26, Try.ntmps26
  go_wp2
  refine bodyPost_ret (v := .agg #[.int .u8 6, .int .u32 id, .int .u32 at_, .slice na nn nc, .slice fa fn fc, .int .u32 0, .slice none 0 0, .int .i64 frm, .int .i64 til, .slice ea en ec]) (by simp [results, Try.results26, go_sem, *]) rfl ⟨rfl, ?_⟩
  (repeat (first | with_reducible exact Below.refl _ _ | (with_reducible refine Below.drew ?_) | (with_reducible refine Below.alloc ?_ (by first | omega | (simp; done) | (simp; omega)) _) | (with_reducible refine Below.setCell ?_ (by first | exact Nat.le_refl _ | omega | (simp; done) | (simp; omega)) _)))

set_option maxHeartbeats 4000000 in
theorem unw_7 (kind id at_ epoch frm til : Int) (na fa sa ea : Option Addr) (nn nc fn fc sn sc en ec : Nat) (w : World) :
    Calls Try.prog 26 #[.agg #[.int .u8 7, .int .u32 id, .int .u32 at_, .slice na nn nc, .slice fa fn fc, .int .u32 epoch, .slice sa sn sc, .int .i64 frm, .int .i64 til, .slice ea en ec]] w fun e w' => e = .returned (.agg #[.int .u8 7, .int .u32 0, .int .u32 at_, .slice na nn nc, .slice fa fn fc, .int .u32 epoch, .slice sa sn sc, .int .i64 0, .int .i64 0, .slice none 0 0]) ∧ Below w.heap.size w w' := by
  go_enter Try.func26, Try.ntmps26
  go_wp2
  refine bodyPost_ret (v := .agg #[.int .u8 7, .int .u32 0, .int .u32 at_, .slice na nn nc, .slice fa fn fc, .int .u32 epoch, .slice sa sn sc, .int .i64 0, .int .i64 0, .slice none 0 0]) (by simp [results, Try.results26, go_sem, *]) rfl ⟨rfl, ?_⟩
  (repeat (first | with_reducible exact Below.refl _ _ | (with_reducible refine Below.drew ?_) | (with_reducible refine Below.alloc ?_ (by first | omega | (simp; done) | (simp; omega)) _) | (with_reducible refine Below.setCell ?_ (by first | exact Nat.le_refl _ | omega | (simp; done) | (simp; omega)) _)))

set_option maxHeartbeats 8000000 in
theorem nought_val (kind id at_ epoch frm til : Int) (na fa sa ea : Option Addr) (nn nc fn fc sn sc en ec : Nat) (w : World) :
    Calls Try.prog 25 #[.agg #[.int .u8 kind, .int .u32 id, .int .u32 at_, .slice na nn nc, .slice fa fn fc, .int .u32 epoch, .slice sa sn sc, .int .i64 frm, .int .i64 til, .slice ea en ec]] w fun e w' => e = .returned (.bool (decide (id = 0) && (decide (at_ = 0) && (decide (nn = 0) && (decide (fn = 0) && (decide (epoch = 0) && (decide (sn = 0) && (decide (frm = 0) && (decide (til = 0) && (decide (en = 0))))))))))) ∧ Below w.heap.size w w' := by
  have hB : ∀ o, Below w.heap.size w (w.alloc o) := fun o => (Below.refl _ _).alloc (Nat.le_refl _) _
  by_cases c0 : id = 0
  rotate_left
  · have c0' : (id == 0) = false := by simpa using c0
    have HE : Hid (¬ id = 0) := c0
    clear c0
    go_enter Try.func25, Try.ntmps25
    go_wp2
    go_ret
    exact ⟨ret_bool (by have := HE.out; simp [this]), hB _⟩
  subst c0
  by_cases c1 : at_ = 0
  rotate_left
  · have c1' : (at_ == 0) = false := by simpa using c1
    have HE : Hid (¬ at_ = 0) := c1
    clear c1
    go_enter Try.func25, Try.ntmps25
    go_wp2
    go_ret
    exact ⟨ret_bool (by have := HE.out; simp [this]), hB _⟩
  subst c1
  by_cases c2 : nn = 0
  rotate_left
  · have c2' : (nn == 0) = false := by simpa using c2
    have c2'' : (((nn : Nat) : Int) == 0) = false := by simp; omega
    have HE : Hid (¬ nn = 0) := c2
    clear c2
    go_enter Try.func25, Try.ntmps25
    go_wp2
    go_ret
    exact ⟨ret_bool (by have := HE.out; simp [this]), hB _⟩
  subst c2
  by_cases c3 : fn = 0
  rotate_left
  · have c3' : (fn == 0) = false := by simpa using c3
    have c3'' : (((fn : Nat) : Int) == 0) = false := by simp; omega
    have HE : Hid (¬ fn = 0) := c3
    clear c3
    go_enter Try.func25, Try.ntmps25
    go_wp2
    go_ret
    exact ⟨ret_bool (by have := HE.out; simp [this]), hB _⟩
  subst c3
  by_cases c4 : epoch = 0
  rotate_left
  · have c4' : (epoch == 0) = false := by simpa using c4
    have HE : Hid (¬ epoch = 0) := c4
    clear c4
    go_enter Try.func25, Try.ntmps25
    go_wp2
    go_ret
    exact ⟨ret_bool (by have := HE.out; simp [this]), hB _⟩
  subst c4
  by_cases c5 : sn = 0
  rotate_left
  · have c5' : (sn == 0) = false := by simpa using c5
    have c5'' : (((sn : Nat) : Int) == 0) = false := by simp; omega
    have HE : Hid (¬ sn = 0) := c5
    clear c5
    go_enter Try.func25, Try.ntmps25
    go_wp2
    go_ret
    exact ⟨ret_bool (by have := HE.out; simp [this]), hB _⟩
  subst c5
  by_cases c6 : frm = 0
  rotate_left
  · have c6' : (frm == 0) = false := by simpa using c6
    have HE : Hid (¬ frm = 0) := c6
    clear c6
    go_enter Try.func25, Try.ntmps25
    go_wp2
    go_ret
    exact ⟨ret_bool (by have := HE.out; simp [this]), hB _⟩
  subst c6
  by_cases c7 : til = 0
  rotate_left
  · have c7' : (til == 0) = false := by simpa using c7
    have HE : Hid (¬ til = 0) := c7
    clear c7
    go_enter Try.func25, Try.ntmps25
    go_wp2
    go_ret
    exact ⟨ret_bool (by have := HE.out; simp [this]), hB _⟩
  subst c7
  by_cases c8 : en = 0
  rotate_left
  · have c8' : (en == 0) = false := by simpa using c8
    have c8'' : (((en : Nat) : Int) == 0) = false := by simp; omega
    have HE : Hid (¬ en = 0) := c8
    clear c8
    go_enter Try.func25, Try.ntmps25
    go_wp2
    go_ret
    exact ⟨ret_bool (by have := HE.out; simp [this]), hB _⟩
  subst c8
  go_enter Try.func25, Try.ntmps25
  go_wp2
  go_ret
  exact ⟨ret_bool (by simp), hB _⟩
end Go.Proofs.Ytlokamblbhooaaa.code
