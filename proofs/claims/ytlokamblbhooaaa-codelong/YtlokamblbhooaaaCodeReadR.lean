/-
  A record read: the program's readRec, of any bytes.
-/
import Derived.Test.YtlokamblbhooaaaCodeReadRec1
import Derived.Test.YtlokamblbhooaaaCodeReadRec2
import Derived.Test.YtlokamblbhooaaaCodeReadRec6
import Derived.Test.YtlokamblbhooaaaCodeReadRec7
namespace Go.Proofs.Ytlokamblbhooaaa.code
open Go.ChangeShapes Go.WideShapes Go.ChangeAt Go.RowKit Go.Deep
open Go.Proofs.Ytlokamblbhooaaa.dims (nth Ints cell_lt vals vals_len vals_get vals_one vals_app own_below own_mono own_out own_apart RowOut ret_bool ret_int)
set_option linter.unusedVariables false
set_option maxRecDepth 100000
set_option linter.unusedSimpArgs false


theorem readRec_any (R B : Nat) (hRB : R < B) : Reads R B 39 pRec (fun y v w' => ∃ r, v = rcV r ∧ pr r = y ∧ RcOwn B w' r) := by
  intro w l hB hR hl
  cases hq1 : pInt 1 l with
  | none => exact rr_0_1 R B hRB w l hB hR hl hq1
  | some q =>
    obtain ⟨k, l1⟩ := q
    cases hq2 : pInt 4 l1 with
    | none => exact rr_0_2 R B hRB w l hB hR hl hq1 hq2
    | some q =>
      obtain ⟨id, l2⟩ := q
      by_cases k1 : k = 1
      · subst k1
        cases hq3 : pAll 1 (pInt 1) l2 with
        | none => exact rr_1_3 R B hRB w l hB hR hl hq1 hq2 hq3
        | some q3 =>
          obtain ⟨z3, l3⟩ := q3
          cases hq4 : pAll 4 pFact l3 with
          | none => exact rr_1_4 R B hRB w l hB hR hl hq1 hq2 hq3 hq4
          | some q4 =>
            obtain ⟨z4, l4⟩ := q4
            exact rr_1_0 R B hRB w l hB hR hl hq1 hq2 hq3 hq4
      by_cases k2 : k = 2
      · subst k2
        cases hq3 : pInt 4 l2 with
        | none => exact rr_2_3 R B hRB w l hB hR hl hq1 hq2 hq3
        | some q3 =>
          obtain ⟨z3, l3⟩ := q3
          cases hq4 : pAll 1 (pInt 1) l3 with
          | none => exact rr_2_4 R B hRB w l hB hR hl hq1 hq2 hq3 hq4
          | some q4 =>
            obtain ⟨z4, l4⟩ := q4
            exact rr_2_0 R B hRB w l hB hR hl hq1 hq2 hq3 hq4
      by_cases k6 : k = 6
      · subst k6
        cases hq3 : pInt 4 l2 with
        | none => exact rr_6_3 R B hRB w l hB hR hl hq1 hq2 hq3
        | some q3 =>
          obtain ⟨z3, l3⟩ := q3
          cases hq4 : pAll 1 pSpan l3 with
          | none => exact rr_6_4 R B hRB w l hB hR hl hq1 hq2 hq3 hq4
          | some q4 =>
            obtain ⟨z4, l4⟩ := q4
            exact rr_6_0 R B hRB w l hB hR hl hq1 hq2 hq3 hq4
      by_cases k7 : k = 7
      · subst k7
        cases hq3 : pInt 4 l2 with
        | none => exact rr_7_3 R B hRB w l hB hR hl hq1 hq2 hq3
        | some q3 =>
          obtain ⟨z3, l3⟩ := q3
          cases hq4 : pInt 4 l3 with
          | none => exact rr_7_4 R B hRB w l hB hR hl hq1 hq2 hq3 hq4
          | some q4 =>
            obtain ⟨z4, l4⟩ := q4
            cases hq5 : pAll 4 pEnt l4 with
            | none => exact rr_7_5 R B hRB w l hB hR hl hq1 hq2 hq3 hq4 hq5
            | some q5 =>
              obtain ⟨z5, l5⟩ := q5
              exact rr_7_0 R B hRB w l hB hR hl hq1 hq2 hq3 hq4 hq5
      exact rr_0_0 R B hRB w l hB hR hl hq1 hq2 (by simpa using k1) (by simpa using k2) (by simpa using k6) (by simpa using k7)
end Go.Proofs.Ytlokamblbhooaaa.code
