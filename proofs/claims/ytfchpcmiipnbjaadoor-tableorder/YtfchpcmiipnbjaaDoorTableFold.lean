/-
  The plain mathematics of rows at keys of their own, in any order. Nothing of the program.
-/
import Derived.Test.YtfchpcmiipnbjaaDoorTableMath
namespace Go.Proofs.YtfchpcmiipnbjaaDoor.table
open Go.RowKit
open Go.Proofs.YtfchpcmiipnbjaaDoor.dims (cmpL cmpI cmpL_zero cmpL_flip cmpL_in)
open Go.Proofs.YtfchpcmiipnbjaaDoor.cell (C4 mrg all one zero In64 mrg_all)

def Nd (t : List PRow) : Prop := (t.map (·.1)).Nodup
theorem look_iff {t : List PRow} (h : Nd t) {q : List Int} {c : C4} : look t q = some c ↔ (q, c) ∈ t := by
  induction t with
  | nil => simp [look]
  | cons x t ih =>
    have hn := List.nodup_cons.1 (show ((x :: t).map (·.1)).Nodup from h)
    rw [look]
    by_cases e : x.1 = q
    · rw [if_pos e]
      constructor
      · intro h1; injection h1 with h1; subst e h1; simp
      · intro h1
        rcases List.mem_cons.1 h1 with h1 | h1
        · rw [← h1]
        · exact absurd (List.mem_map.2 ⟨_, h1, rfl⟩) (by rw [← e]; exact hn.1)
    · rw [if_neg e, ih hn.2]
      constructor
      · exact fun h1 => List.mem_cons_of_mem _ h1
      · intro h1
        rcases List.mem_cons.1 h1 with h1 | h1
        · exact absurd (by rw [← h1]) e
        · exact h1
theorem look_perm {t t' : List PRow} (h : Nd t) (p : t.Perm t') (q : List Int) : look t q = look t' q := by
  have h' : Nd t' := (p.map _).nodup_iff.1 h
  cases e : look t' q with
  | some c => rw [look_iff h, p.mem_iff, ← look_iff h', e]
  | none =>
    cases e2 : look t q with
    | none => rfl
    | some c => rw [look_iff h, p.mem_iff, ← look_iff h', e] at e2; cases e2
theorem look_snoc (t : List PRow) (x : PRow) (q : List Int) : look (t ++ [x]) q = match look t q with | some c => some c | none => if x.1 = q then some x.2 else none := by
  induction t with
  | nil => simp [look]
  | cons y t ih =>
    rw [List.cons_append, look, look]
    by_cases e : y.1 = q
    · rw [if_pos e, if_pos e]
    · rw [if_neg e, if_neg e, ih]
theorem look_out {t : List PRow} {q : List Int} (h : look t q = none) : q ∉ t.map (·.1) := by
  induction t with
  | nil => simp
  | cons y t ih =>
    rw [look] at h
    split at h
    · cases h
    · rename_i e
      simp only [List.map_cons, List.mem_cons, not_or]
      exact ⟨fun e2 => e e2.symm, ih h⟩
theorem rises_of {t : List PRow} (h : Nd t) (hs : t.Pairwise fun x y => ¬ cmpL y.1 x.1 < 0) : Rises t := by
  have h2 : t.Pairwise fun x y => x.1 ≠ y.1 := List.pairwise_map.1 h
  refine (hs.and h2).imp fun {x y} hxy => ?_
  exact cmpL_gt hxy.1 fun e => hxy.2 ((cmpL_zero _ _).1 e).symm
end Go.Proofs.YtfchpcmiipnbjaaDoor.table
