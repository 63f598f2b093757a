/-
 A disk, plain: bytes of which a front lasts, room for so many, a count of calls left. Nothing of the program.
-/
import Derived.RowKit
set_option linter.unusedVariables false
set_option maxRecDepth 100000
namespace Go.Proofs.YtlcjllgfpfldlaaGreat
namespace disk
structure Dk where
 b : List UInt8
 lasts : Nat
 room : Nat
 left : Int
def new (room : Nat) : Dk := ⟨[], 0, room, -1⟩
def halt (n : Int) (d : Dk) : Dk := ⟨d.b, d.lasts, d.room, max n (-1)⟩
def halted (d : Dk) : Bool := decide (d.left = 0)
def less (n : Int) : Int := if 0 < n then n - 1 else n
def tick (d : Dk) : Dk := ⟨d.b, d.lasts, d.room, less d.left⟩
def app (x : List UInt8) (d : Dk) : Dk × Nat :=
 if d.left = 0 then (d, 100)
 else if d.room < d.b.length + x.length then (tick d, 100)
 else (⟨d.b ++ x, d.lasts, d.room, less d.left⟩, 0)
def sync (d : Dk) : Dk × Nat :=
 if d.left = 0 then (d, 100) else (⟨d.b, d.b.length, d.room, less d.left⟩, 0)
def cut (n : Int) (d : Dk) : Dk × Nat :=
 if d.left = 0 then (d, 100)
 else if n < 0 ∨ (d.b.length : Int) < n then (tick d, 1)
 else (⟨d.b.take n.toNat, min d.lasts n.toNat, d.room, less d.left⟩, 0)
def kept (keep : Int) (d : Dk) : Nat := d.lasts + min (max keep 0).toNat (d.b.length - d.lasts)
def crash (keep : Int) (d : Dk) : Dk := ⟨d.b.take (kept keep d), kept keep d, d.room, -1⟩

structure Fit (d : Dk) : Prop where
 lasts : d.lasts ≤ d.b.length
 len : d.b.length ≤ d.room
 room : d.room ≤ 1048576
 left : -1 ≤ d.left ∧ d.left ≤ 9223372036854775807
theorem less_fit {n : Int} (h : -1 ≤ n ∧ n ≤ 9223372036854775807) : -1 ≤ less n ∧ less n ≤ 9223372036854775807 := by unfold less; split <;> omega
theorem Fit.new {room : Nat} (h : room ≤ 1048576) : Fit (disk.new room) := ⟨Nat.le_refl _, Nat.zero_le _, h, by show (-1 : Int) ≤ -1 ∧ (-1 : Int) ≤ _; omega⟩
theorem Fit.halt {d : Dk} (h : Fit d) (n : Int) (hn : n ≤ 9223372036854775807) : Fit (disk.halt n d) := ⟨h.lasts, h.len, h.room, by show -1 ≤ max n (-1) ∧ max n (-1) ≤ _; omega⟩
theorem Fit.tick {d : Dk} (h : Fit d) : Fit (disk.tick d) := ⟨h.lasts, h.len, h.room, less_fit h.left⟩
theorem Fit.app {d : Dk} (h : Fit d) (x : List UInt8) : Fit (disk.app x d).1 := by
 unfold disk.app
 split
 ·exact h
 ·split
  ·exact h.tick
  ·rename_i h1 h2
   refine ⟨?_, ?_, h.room, less_fit h.left⟩
   ·have := h.lasts
    show d.lasts ≤ (d.b ++ x).length
    rw [List.length_append]; omega
   ·show (d.b ++ x).length ≤ d.room
    rw [List.length_append]; omega
theorem Fit.sync {d : Dk} (h : Fit d) : Fit (disk.sync d).1 := by
 unfold disk.sync
 split
 ·exact h
 ·exact ⟨Nat.le_refl _, h.len, h.room, less_fit h.left⟩
theorem Fit.cut {d : Dk} (h : Fit d) (n : Int) : Fit (disk.cut n d).1 := by
 unfold disk.cut
 split
 ·exact h
 ·split
  ·exact h.tick
  ·rename_i h1 h2
   have hl := h.len
   refine ⟨?_, ?_, h.room, less_fit h.left⟩
   ·show min d.lasts n.toNat ≤ (d.b.take n.toNat).length
    rw [List.length_take]; have := h.lasts; omega
   ·show (d.b.take n.toNat).length ≤ d.room
    rw [List.length_take]; omega
theorem kept_le {d : Dk} (h : d.lasts ≤ d.b.length) (keep : Int) : kept keep d ≤ d.b.length := by unfold kept; omega
theorem Fit.crash {d : Dk} (h : Fit d) (keep : Int) : Fit (disk.crash keep d) := by
 have hk := kept_le h.lasts keep
 have hl := h.len
 refine ⟨?_, ?_, h.room, by show (-1 : Int) ≤ -1 ∧ (-1 : Int) ≤ _; omega⟩
 ·show kept keep d ≤ (d.b.take (kept keep d)).length
  rw [List.length_take]; omega
 ·show (d.b.take (kept keep d)).length ≤ d.room
  rw [List.length_take]; omega

/-! ### what the statements ask -/
theorem app_yes {d : Dk} {x : List UInt8} (h : (app x d).2 = 0) : (app x d).1.b = d.b ++ x := by
 unfold app at h ⊢
 split
 ·rename_i h1
  rw [if_pos h1] at h
  cases h
 ·split
  ·rename_i h1 h2
   rw [if_neg h1, if_pos h2] at h
   cases h
  ·rfl
theorem app_halted {d : Dk} (h : d.left = 0) (x : List UInt8) : app x d = (d, 100) := by unfold app; rw [if_pos h]
theorem sync_halted {d : Dk} (h : d.left = 0) : sync d = (d, 100) := by unfold sync; rw [if_pos h]
theorem cut_halted {d : Dk} (h : d.left = 0) (n : Int) : cut n d = (d, 100) := by unfold cut; rw [if_pos h]
theorem app_free {d : Dk} (h : d.left = -1) {x : List UInt8} (hx : d.b.length + x.length ≤ d.room) : app x d = (⟨d.b ++ x, d.lasts, d.room, -1⟩, 0) := by
 unfold app
 rw [if_neg (by omega), if_neg (by omega), h]
 rfl
theorem sync_free {d : Dk} (h : d.left = -1) : sync d = (⟨d.b, d.b.length, d.room, -1⟩, 0) := by
 unfold sync
 rw [if_neg (by omega), h]
 rfl
theorem cut_free {d : Dk} (h : d.left = -1) {n : Nat} (hn : n ≤ d.b.length) : cut n d = (⟨d.b.take n, min d.lasts n, d.room, -1⟩, 0) := by
 unfold cut
 rw [if_neg (by omega), if_neg (by omega), h]
 rfl
end disk
end Go.Proofs.YtlcjllgfpfldlaaGreat
