/-
 The plain mathematics of dimensions: which divisors may be, what a member is at a level above, how keys compare. Nothing of the program.
-/
import Derived.RowKit
import Derived.Below
open Go.RowKit
namespace Go.Proofs.YtlcjllgfpfldlaaGreat
theorem saQ {A : Type _} (l : List A) (i : Nat) (a : A) : l.toArray.setIfInBounds i a = (l.set i a).toArray := List.setIfInBounds_toArray l i a
theorem szQ {A : Type _} {x : A} {xs : List A} {a : A} : (x :: xs).set 0 a = a :: xs := rfl
theorem ssQ {A : Type _} {x : A} {xs : List A} {i : Nat} {a : A} : (x :: xs).set (i + 1) a = x :: xs.set i a := rfl
theorem oiQ {A : Type _} (a b : A) : (some a = some b) = (a = b) := Option.some.injEq a b
theorem laQ {A : Type _} {as bs : List A} : (as ++ bs).length = as.length + bs.length := List.length_append
theorem apQ {A : Type _} (as bs cs : List A) : as ++ bs ++ cs = as ++ (bs ++ cs) := List.append_assoc as bs cs
theorem nrQ (n : Nat) : n ≤ n := Nat.le_refl n
theorem ntQ {n m k : Nat} : n ≤ m → m ≤ k → n ≤ k := Nat.le_trans
namespace dims
def nth (l : List Int) (i : Nat) : Int := l.getD i 0
end dims
end Go.Proofs.YtlcjllgfpfldlaaGreat
