/-
 A log, plain: frames of records' bytes one behind the other; what is read of any bytes, of a front of a log, and again. Nothing of the program; D is any decoder, E what it reads back.
 A log on a disk, plain: what Force, Lazy and Open make of a disk that holds a log; what a crash leaves of it. Nothing of the program; E: a record's bytes, D: what they are read as.
-/
import Derived.Test.YtlcjllgfpfldlaaGreatWalZ05K
import Derived.Test.YtlcjllgfpfldlaaGreatDiskMath
set_option linter.unusedVariables false
set_option maxRecDepth 100000
namespace Go.Proofs.YtlcjllgfpfldlaaGreat
namespace wal
open frame (scanB rowsB wrapB firstB first_some scan_none scan_some scan_rows)
variable {α : Type} (D : List UInt8 → Option α)

def recs : List (List UInt8) → List α
 | [] => []
 | x :: l => match D x with
  | none => []
  | some r => r :: recs l
theorem recs_nil : recs D [] = [] := rfl
theorem recs_some {x : List UInt8} {l : List (List UInt8)} {r : α} (h : D x = some r) : recs D (x :: l) = r :: recs D l := by simp only [recs, h]
theorem recs_none {x : List UInt8} {l : List (List UInt8)} (h : D x = none) : recs D (x :: l) = [] := by simp only [recs, h]
def size (b : List UInt8) : Nat := (rowsB ((scanB b).take (recs D (scanB b)).length)).length
theorem rows_cons (x : List UInt8) (l : List (List UInt8)) : rowsB (x :: l) = wrapB x ++ rowsB l := by simp [rowsB]
theorem rows_append (l k : List (List UInt8)) : rowsB (l ++ k) = rowsB l ++ rowsB k := by simp [rowsB]
theorem scan_front : ∀ (n : Nat) (b : List UInt8), b.length ≤ n → (∀ x ∈ scanB b, x.length ≤ 60000) ∧ ∃ r, b = rowsB (scanB b) ++ r
 | 0, b, h => by
  have e : b = [] := List.eq_nil_of_length_eq_zero (by omega)
  subst e
  exact ⟨fun x hx => by simp [scanB, frame.scanN] at hx, [], rfl⟩
 | n + 1, b, h => by
  cases e : firstB b with
  | none => rw [scan_none e]; exact ⟨fun x hx => by simp at hx, b, by simp [rowsB]⟩
  | some x =>
   obtain ⟨h1, h2, h3⟩ := first_some e
   obtain ⟨i1, r, i2⟩ := scan_front n (b.drop (x.length + 7)) (by rw [List.length_drop]; omega)
   rw [scan_some e]
   refine ⟨fun y hy => ?_, r, ?_⟩
   ·rcases List.mem_cons.1 hy with rfl | hy
    ·exact h1
    ·exact i1 y hy
   ·rw [rows_cons, List.append_assoc, ← i2]; exact h2
theorem scan_le (b : List UInt8) : ∀ x ∈ scanB b, x.length ≤ 60000 := (scan_front b.length b (Nat.le_refl _)).1
theorem front_is (b : List UInt8) (m : Nat) : b.take (rowsB ((scanB b).take m)).length = rowsB ((scanB b).take m) := by
 obtain ⟨-, r, h⟩ := scan_front b.length b (Nat.le_refl _)
 have e : rowsB (scanB b) = rowsB ((scanB b).take m) ++ rowsB ((scanB b).drop m) := by rw [← rows_append, List.take_append_drop]
 generalize scanB b = l at h e ⊢
 rw [h, e, List.append_assoc, List.take_append_of_le_length (Nat.le_refl _), List.take_of_length_le (Nat.le_refl _)]
theorem size_le (b : List UInt8) : size D b ≤ b.length := by
 have h := congrArg List.length (front_is b (recs D (scanB b)).length)
 rw [List.length_take] at h
 unfold size; omega
/-! ### a log: frames of records that read back -/
section
variable (E : α → List UInt8)
def logB (rs : List α) : List UInt8 := rowsB (rs.map E)
theorem log_append (rs ss : List α) : logB E (rs ++ ss) = logB E rs ++ logB E ss := by unfold logB; rw [List.map_append, rows_append]
theorem log_one (r : α) : logB E [r] = wrapB (E r) := by simp [logB, rowsB]
def Good (rs : List α) : Prop := ∀ r ∈ rs, D (E r) = some r ∧ (E r).length ≤ 60000
variable {D E}
theorem recs_good {rs : List α} (h : Good D E rs) (l : List (List UInt8)) : recs D (rs.map E ++ l) = rs ++ recs D l := by
 induction rs with
 | nil => rfl
 | cons r rs ih =>
  rw [List.map_cons, List.cons_append, recs_some D (h r (by simp)).1, ih fun x hx => h x (by simp [hx]), List.cons_append]
theorem scan_log {rs : List α} (h : Good D E rs) (t : List UInt8) : scanB (logB E rs ++ t) = rs.map E ++ scanB t :=
 scan_rows (fun x hx => by
  obtain ⟨r, hr, rfl⟩ := List.mem_map.1 hx
  exact (h r hr).2) t
theorem read_log {rs : List α} (h : Good D E rs) : recs D (scanB (logB E rs)) = rs ∧ size D (logB E rs) = (logB E rs).length := by
 have hs : scanB (logB E rs) = rs.map E := by
  have := scan_log h []
  rwa [List.append_nil, scan_none frame.first_nil, List.append_nil] at this
 have hr : recs D (scanB (logB E rs)) = rs := by
  rw [hs]
  have := recs_good h []
  rwa [List.append_nil, recs_nil, List.append_nil] at this
 refine ⟨hr, ?_⟩
 unfold size
 rw [hr, hs, List.take_of_length_le (by simp)]
 rfl
end
end wal
namespace wal
open frame (scanB rowsB wrapB)
open disk
section
variable {α : Type} {D : List UInt8 → Option α} {E : α → List UInt8}

def lazyD (E : α → List UInt8) (r : α) (d : Dk) : Dk × Nat := app (wrapB (E r)) d
def forceD (E : α → List UInt8) (r : α) (d : Dk) : Dk × Nat :=
 if (app (wrapB (E r)) d).2 ≠ 0 then app (wrapB (E r)) d
 else if (sync (app (wrapB (E r)) d).1).2 ≠ 0 then ((cut (d.b.length : Nat) (sync (app (wrapB (E r)) d).1).1).1, (sync (app (wrapB (E r)) d).1).2)
 else sync (app (wrapB (E r)) d).1
def openD (D : List UInt8 → Option α) (d : Dk) : Dk × Nat :=
 if size D d.b < d.b.length then
  if (cut (size D d.b : Nat) d).2 ≠ 0 then cut (size D d.b : Nat) d else sync (cut (size D d.b : Nat) d).1
 else sync d

theorem open_free {d : Dk} (h : d.left = -1) (hl : d.lasts ≤ d.b.length) : openD D d = (⟨d.b.take (size D d.b), (d.b.take (size D d.b)).length, d.room, -1⟩, 0) := by
 have hs := size_le D d.b
 unfold openD
 by_cases hlt : size D d.b < d.b.length
 ·rw [if_pos hlt, cut_free h hs, if_neg (by simp), sync_free rfl]
 ·rw [if_neg hlt, sync_free h]
  have e : d.b.take (size D d.b) = d.b := List.take_of_length_le (by omega)
  rw [e]
structure LogIs (E : α → List UInt8) (rs : List α) (d : Dk) : Prop where
 bytes : d.b = logB E rs
 lasts : d.lasts = (logB E rs).length
theorem LogIs.app {rs : List α} {d : Dk} (h : LogIs E rs d) (r : α) (h0 : d.left ≠ 0) (hr : d.b.length + (wrapB (E r)).length ≤ d.room) :
  disk.app (wrapB (E r)) d = (⟨logB E (rs ++ [r]), d.lasts, d.room, less d.left⟩, 0) := by
 unfold disk.app
 rw [if_neg h0, if_neg (by omega), h.bytes, log_append, log_one]
end
end wal
end Go.Proofs.YtlcjllgfpfldlaaGreat
