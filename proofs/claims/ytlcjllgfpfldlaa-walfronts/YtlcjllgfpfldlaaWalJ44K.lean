/-
 A log, plain: frames of records' bytes one behind the other; what is read of any bytes, of a front of a log, and again. Nothing of the program; D is any decoder, E what it reads back.
 A log on a disk, plain: what Force, Lazy and Open make of a disk that holds a log; what a crash leaves of it. Nothing of the program; E: a record's bytes, D: what they are read as.
-/
import Derived.Test.YtlcjllgfpfldlaaWalJ05K
import Derived.Test.YtlcjllgfpfldlaaDiskMath
namespace Go.Proofs.Ytlcjllgfpfldlaa.wal
open Go.Proofs.Ytlcjllgfpfldlaa.frame (scanB rowsB wrapB wrapB_len firstB first_some scan_none scan_some scan_wrap scan_rows scan_cut first_wrap)
set_option linter.unusedVariables false
set_option maxRecDepth 100000

variable {α : Type} (D : List UInt8 → Option α)

/-- the records up to the first that is none -/
def recs : List (List UInt8) → List α
 | [] => []
 | x :: l => match D x with
  | none => []
  | some r => r :: recs l
theorem recs_nil : recs D [] = [] := rfl
theorem recs_some {x : List UInt8} {l : List (List UInt8)} {r : α} (h : D x = some r) : recs D (x :: l) = r :: recs D l := by simp only [recs, h]
theorem recs_none {x : List UInt8} {l : List (List UInt8)} (h : D x = none) : recs D (x :: l) = [] := by simp only [recs, h]
/-- how many bytes the frames of the records take -/
def size (b : List UInt8) : Nat := (rowsB ((scanB b).take (recs D (scanB b)).length)).length
theorem rows_cons (x : List UInt8) (l : List (List UInt8)) : rowsB (x :: l) = wrapB x ++ rowsB l := by simp [rowsB]
theorem rows_append (l k : List (List UInt8)) : rowsB (l ++ k) = rowsB l ++ rowsB k := by simp [rowsB]
/-- the bytes in front are the frames that are read -/
theorem scan_front : ∀ (n : Nat) (b : List UInt8), b.length ≤ n → (∀ x ∈ scanB b, x.length ≤ 60000) ∧ ∃ r, b = rowsB (scanB b) ++ r
 | 0, b, h => by
  have e : b = [] := List.eq_nil_of_length_eq_zero (by omega)
  subst e
  exact ⟨fun x hx => by simp [scanB, frame.scanN] at hx, [], rfl⟩
 | n + 1, b, h => by
  cases e : firstB b with
  | none => rw [scan_none e]; exact ⟨fun x hx => by simp at hx, b, by simp [rowsB]⟩
  | some x =>
   obtain ⟨h1, h2, h3⟩ := first_some e
   obtain ⟨i1, r, i2⟩ := scan_front n (b.drop (x.length + 7)) (by rw [List.length_drop]; omega)
   rw [scan_some e]
   refine ⟨fun y hy => ?_, r, ?_⟩
   ·rcases List.mem_cons.1 hy with rfl | hy
    ·exact h1
    ·exact i1 y hy
   ·rw [rows_cons, List.append_assoc, ← i2]; exact h2
theorem scan_le (b : List UInt8) : ∀ x ∈ scanB b, x.length ≤ 60000 := (scan_front b.length b (Nat.le_refl _)).1
theorem front_is (b : List UInt8) (m : Nat) : b.take (rowsB ((scanB b).take m)).length = rowsB ((scanB b).take m) := by
 obtain ⟨-, r, h⟩ := scan_front b.length b (Nat.le_refl _)
 have e : rowsB (scanB b) = rowsB ((scanB b).take m) ++ rowsB ((scanB b).drop m) := by rw [← rows_append, List.take_append_drop]
 generalize scanB b = l at h e ⊢
 rw [h, e, List.append_assoc, List.take_append_of_le_length (Nat.le_refl _), List.take_of_length_le (Nat.le_refl _)]
theorem size_le (b : List UInt8) : size D b ≤ b.length := by
 have h := congrArg List.length (front_is b (recs D (scanB b)).length)
 rw [List.length_take] at h
 unfold size; omega
/-! ### a log: frames of records that read back -/
section
variable (E : α → List UInt8)
def logB (rs : List α) : List UInt8 := rowsB (rs.map E)
theorem log_append (rs ss : List α) : logB E (rs ++ ss) = logB E rs ++ logB E ss := by unfold logB; rw [List.map_append, rows_append]
theorem log_one (r : α) : logB E [r] = wrapB (E r) := by simp [logB, rowsB]
/-- each reads back, and is no more than a frame holds -/
def Good (rs : List α) : Prop := ∀ r ∈ rs, D (E r) = some r ∧ (E r).length ≤ 60000
variable {D E}
theorem recs_good {rs : List α} (h : Good D E rs) (l : List (List UInt8)) : recs D (rs.map E ++ l) = rs ++ recs D l := by
 induction rs with
 | nil => rfl
 | cons r rs ih =>
  rw [List.map_cons, List.cons_append, recs_some D (h r (by simp)).1, ih fun x hx => h x (by simp [hx]), List.cons_append]
theorem scan_log {rs : List α} (h : Good D E rs) (t : List UInt8) : scanB (logB E rs ++ t) = rs.map E ++ scanB t :=
 scan_rows (fun x hx => by
  obtain ⟨r, hr, rfl⟩ := List.mem_map.1 hx
  exact (h r hr).2) t
theorem read_log {rs : List α} (h : Good D E rs) : recs D (scanB (logB E rs)) = rs ∧ size D (logB E rs) = (logB E rs).length := by
 have hs : scanB (logB E rs) = rs.map E := by
  have := scan_log h []
  rwa [List.append_nil, scan_none frame.first_nil, List.append_nil] at this
 have hr : recs D (scanB (logB E rs)) = rs := by
  rw [hs]
  have := recs_good h []
  rwa [List.append_nil, recs_nil, List.append_nil] at this
 refine ⟨hr, ?_⟩
 unfold size
 rw [hr, hs, List.take_of_length_le (by simp)]
 rfl
/-- a front of a log: whole records, in their order -/
theorem read_front {rs : List α} (h : Good D E rs) (k : Nat) : ∃ m, m ≤ rs.length ∧ recs D (scanB ((logB E rs).take k)) = rs.take m ∧ (logB E (rs.take m)).length ≤ k ∧ ((logB E rs).length ≤ k → m = rs.length) := by
 obtain ⟨m, h1, h2, h3, h4⟩ := scan_cut (l := rs.map E) (fun x hx => by
  obtain ⟨r, hr, rfl⟩ := List.mem_map.1 hx
  exact (h r hr).2) k
 rw [List.length_map] at h1 h4
 rw [← List.map_take] at h2 h3
 refine ⟨m, h1, ?_, h3, h4⟩
 show recs D (scanB ((rowsB (rs.map E)).take k)) = _
 rw [h2]
 have := recs_good (rs := rs.take m) (fun r hr => h r (List.mem_of_mem_take hr)) []
 rwa [List.append_nil, recs_nil, List.append_nil] at this
/-- a front that holds the first records whole -/
theorem read_front_all {rs ss : List α} (h : Good D E (rs ++ ss)) (k : Nat) (hk : (logB E rs).length ≤ k) : ∃ m, m ≤ ss.length ∧ recs D (scanB ((logB E (rs ++ ss)).take k)) = rs ++ ss.take m := by
 have e : (logB E (rs ++ ss)).take k = logB E rs ++ (logB E ss).take (k - (logB E rs).length) := by
  rw [log_append, List.take_append, List.take_of_length_le hk]
 obtain ⟨m, h1, h2, -, -⟩ := read_front (rs := ss) (fun r hr => h r (by simp [hr])) (k - (logB E rs).length)
 refine ⟨m, h1, ?_⟩
 rw [e, scan_log (fun r hr => h r (by simp [hr])), recs_good (fun r hr => h r (by simp [hr])), h2]
end
end Go.Proofs.Ytlcjllgfpfldlaa.wal

namespace Go.Proofs.Ytlcjllgfpfldlaa.wal
open Go.Proofs.Ytlcjllgfpfldlaa.frame (scanB rowsB wrapB wrapB_len)
open Go.Proofs.Ytlcjllgfpfldlaa.disk
set_option linter.unusedVariables false
set_option maxRecDepth 100000

section
variable {α : Type} {D : List UInt8 → Option α} {E : α → List UInt8}

def lazyD (E : α → List UInt8) (r : α) (d : Dk) : Dk × Nat := app (wrapB (E r)) d
def forceD (E : α → List UInt8) (r : α) (d : Dk) : Dk × Nat :=
 if (app (wrapB (E r)) d).2 ≠ 0 then app (wrapB (E r)) d
 else if (sync (app (wrapB (E r)) d).1).2 ≠ 0 then ((cut (d.b.length : Nat) (sync (app (wrapB (E r)) d).1).1).1, (sync (app (wrapB (E r)) d).1).2)
 else sync (app (wrapB (E r)) d).1
/-- what Open makes of the disk, and its error -/
def openD (D : List UInt8 → Option α) (d : Dk) : Dk × Nat :=
 if size D d.b < d.b.length then
  if (cut (size D d.b : Nat) d).2 ≠ 0 then cut (size D d.b : Nat) d else sync (cut (size D d.b : Nat) d).1
 else sync d

/-- a disk without a count is opened -/
theorem open_free {d : Dk} (h : d.left = -1) (hl : d.lasts ≤ d.b.length) : openD D d = (⟨d.b.take (size D d.b), (d.b.take (size D d.b)).length, d.room, -1⟩, 0) := by
 have hs := size_le D d.b
 unfold openD
 by_cases hlt : size D d.b < d.b.length
 ·rw [if_pos hlt, cut_free h hs, if_neg (by simp), sync_free rfl]
 ·rw [if_neg hlt, sync_free h]
  have e : d.b.take (size D d.b) = d.b := List.take_of_length_le (by omega)
  rw [e]
/-- the disk holds a log, all of which lasts -/
structure LogIs (E : α → List UInt8) (rs : List α) (d : Dk) : Prop where
 bytes : d.b = logB E rs
 lasts : d.lasts = (logB E rs).length
theorem LogIs.app {rs : List α} {d : Dk} (h : LogIs E rs d) (r : α) (h0 : d.left ≠ 0) (hr : d.b.length + (wrapB (E r)).length ≤ d.room) :
  disk.app (wrapB (E r)) d = (⟨logB E (rs ++ [r]), d.lasts, d.room, less d.left⟩, 0) := by
 unfold disk.app
 rw [if_neg h0, if_neg (by omega), h.bytes, log_append, log_one]
/-- Force: it is there and lasts; or nothing has changed; or the disk is halted, and the frame lies behind what lasts -/
theorem force_is {rs : List α} {d : Dk} (h : LogIs E rs d) (hf : -1 ≤ d.left) (r : α) :
  ((forceD E r d).2 = 0 ∧ LogIs E (rs ++ [r]) (forceD E r d).1 ∧ (forceD E r d).1.room = d.room ∧ d.left ≠ 0 ∧ (d.left = -1 → (forceD E r d).1.left = -1)) ∨
  ((forceD E r d).2 = 100 ∧ LogIs E rs (forceD E r d).1 ∧ (forceD E r d).1.room = d.room ∧ (d.left = -1 → (forceD E r d).1.left = -1)) ∨
  ((forceD E r d).2 = 100 ∧ (forceD E r d).1.left = 0 ∧ (forceD E r d).1.b = logB E (rs ++ [r]) ∧ (forceD E r d).1.lasts = (logB E rs).length ∧ (forceD E r d).1.room = d.room ∧ d.left ≠ -1) := by
 by_cases h0 : d.left = 0
 ·right; left
  have e : forceD E r d = (d, 100) := by unfold forceD; rw [app_halted h0]; simp
  rw [e]
  exact ⟨rfl, h, rfl, fun h1 => by omega⟩
 ·by_cases hr : d.room < d.b.length + (wrapB (E r)).length
  ·right; left
   have ea : disk.app (wrapB (E r)) d = (tick d, 100) := by unfold disk.app; rw [if_neg h0, if_pos hr]
   have e : forceD E r d = (tick d, 100) := by unfold forceD; rw [ea]; simp
   rw [e]
   refine ⟨rfl, ⟨h.bytes, h.lasts⟩, rfl, fun h1 => ?_⟩
   show less d.left = -1
   unfold less; rw [if_neg (by omega)]; exact h1
  ·have ea := h.app r h0 (by omega)
   by_cases h1 : less d.left = 0
   ·right; right
    have es : sync ⟨logB E (rs ++ [r]), d.lasts, d.room, less d.left⟩ = (⟨logB E (rs ++ [r]), d.lasts, d.room, less d.left⟩, 100) := sync_halted h1
    have ec : ∀ n, cut n ⟨logB E (rs ++ [r]), d.lasts, d.room, less d.left⟩ = (⟨logB E (rs ++ [r]), d.lasts, d.room, less d.left⟩, 100) := fun n => cut_halted h1 n
    have e : forceD E r d = (⟨logB E (rs ++ [r]), d.lasts, d.room, less d.left⟩, 100) := by
     unfold forceD
     rw [ea]
     simp only [ne_eq, not_true_eq_false, if_false, es, ec]
     simp
    rw [e]
    refine ⟨rfl, h1, rfl, h.lasts, rfl, fun h2 => ?_⟩
    unfold less at h1; rw [if_neg (by omega)] at h1; omega
   ·left
    have es : sync ⟨logB E (rs ++ [r]), d.lasts, d.room, less d.left⟩ = (⟨logB E (rs ++ [r]), (logB E (rs ++ [r])).length, d.room, less (less d.left)⟩, 0) := by unfold sync; rw [if_neg h1]
    have e : forceD E r d = (⟨logB E (rs ++ [r]), (logB E (rs ++ [r])).length, d.room, less (less d.left)⟩, 0) := by
     unfold forceD
     rw [ea]
     simp only [ne_eq, not_true_eq_false, if_false, es]
    rw [e]
    refine ⟨rfl, ⟨rfl, rfl⟩, rfl, h0, fun h2 => ?_⟩
    show less (less d.left) = -1
    rw [h2]; rfl
/-- Lazy, on a disk without a count: it lies behind, or nothing has changed -/
theorem lazy_is {rs : List α} {d : Dk} (hb : d.b = logB E rs) (hf : d.left = -1) (r : α) :
  ((lazyD E r d).2 = 0 ∧ (lazyD E r d).1 = ⟨logB E (rs ++ [r]), d.lasts, d.room, -1⟩) ∨ ((lazyD E r d).2 = 100 ∧ (lazyD E r d).1.b = d.b ∧ (lazyD E r d).1.lasts = d.lasts ∧ (lazyD E r d).1.room = d.room ∧ (lazyD E r d).1.left = -1) := by
 unfold lazyD
 by_cases hr : d.room < d.b.length + (wrapB (E r)).length
 ·right
  have ea : disk.app (wrapB (E r)) d = (tick d, 100) := by unfold disk.app; rw [if_neg (by omega), if_pos hr]
  rw [ea]
  refine ⟨rfl, rfl, rfl, rfl, ?_⟩
  show less d.left = -1
  rw [hf]; rfl
 ·left
  rw [app_free hf (by omega), hb, log_append, log_one]
  exact ⟨rfl, rfl⟩

/-- what a crash leaves is read as what lasted, and a front of what lay behind it -/
theorem crash_reads {rs ss : List α} {d : Dk} (hg : Good D E (rs ++ ss)) (hb : d.b = logB E (rs ++ ss)) (hl : (logB E rs).length ≤ d.lasts) (hl2 : d.lasts ≤ d.b.length) (keep : Int) :
  ∃ m, m ≤ ss.length ∧ recs D (scanB (crash keep d).b) = rs ++ ss.take m := by
 have hk : d.lasts ≤ kept keep d := by unfold kept; omega
 have e : (crash keep d).b = (logB E (rs ++ ss)).take (kept keep d) := by show d.b.take _ = _; rw [hb]
 rw [e]
 exact read_front_all hg _ (by omega)
/-- of a log all of which lasts it leaves all -/
theorem crash_whole {rs : List α} {d : Dk} (hg : Good D E rs) (h : LogIs E rs d) (keep : Int) : (crash keep d).b = logB E rs ∧ recs D (scanB (crash keep d).b) = rs := by
 have hlb : d.b.length = (logB E rs).length := by rw [h.bytes]
 have hk : kept keep d = d.b.length := by unfold kept; rw [h.lasts, hlb]; omega
 have e : (crash keep d).b = logB E rs := by
  show d.b.take (kept keep d) = _
  rw [hk, List.take_of_length_le (Nat.le_refl _), h.bytes]
 exact ⟨e, by rw [e]; exact (read_log hg).1⟩
end
end Go.Proofs.Ytlcjllgfpfldlaa.wal
