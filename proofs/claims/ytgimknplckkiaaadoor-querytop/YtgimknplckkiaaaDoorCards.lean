/-
  DERIVED. GIVEN WITH THE SEED: THE CARDS: each row of YtgimknplckkiaaaDoorRows.lean that lists a variable, with what it lists TIED to the program's text (the seventh form; the later family's looks); each row that meets fmt, with fmt's text TOLD by the authors' own Lean function (tested against real Go, not proved from fmt's source: count such statements apart). THE CARD IS WHAT COUNTS. Prove the row's statement (the work); the ties are given (YtgimknplckkiaaaDoorTie.lean); close each card by the builder's one call (the guide's Derived/Test/ToyasCard.lean, 'card_holds'). Laid BY PROGRAM, IN A SANDBOX (cutbox-door.mjs). By AI agents, Wed Nov 11 2026. No macro, syntax, notation, axiom, sorry.
-/
import Derived.Test.YtgimknplckkiaaaDoorRows
import GoSem.ClaimSeven
namespace Go.Proofs.YtgimknplckkiaaaDoor
namespace Rows

/-- THE TIED CARD OF 'stratumlaw06.QueryChecks'. -/
def queryChecksCard : Claim7 := { stood := { row := queryChecksRow, standIns := [], harness := (true, "0e1656f315f4fc4bc836e1516eb7e78b34d9ab3cbcf931c19350a8e0c2cd8129"), looks := false }, kinds := [], alts := [], laidByText := true, laidKinds := [.data, .data, .data], laidTests := true, laidLooks := .later }
def QueryChecksCardSaid : Prop := Claim7.holds Tryd.pinned (.plain (OpenSpec.ofChange queryChecksSpec)) queryChecksCard

/-- THE TIED CARD OF 'stratumlaw06.QueryJoins'. -/
def queryJoinsCard : Claim7 := { stood := { row := queryJoinsRow, standIns := [], harness := (true, "0e1656f315f4fc4bc836e1516eb7e78b34d9ab3cbcf931c19350a8e0c2cd8129"), looks := false }, kinds := [], alts := [], laidByText := true, laidKinds := [.data, .data, .data], laidTests := true, laidLooks := .later }
def QueryJoinsCardSaid : Prop := Claim7.holds Tryd.pinned (.plain (OpenSpec.ofChange queryJoinsSpec)) queryJoinsCard

/-- THE TIED CARD OF 'stratumlaw06.QueryParts'. -/
def queryPartsCard : Claim7 := { stood := { row := queryPartsRow, standIns := [], harness := (true, "0e1656f315f4fc4bc836e1516eb7e78b34d9ab3cbcf931c19350a8e0c2cd8129"), looks := false }, kinds := [], alts := [], laidByText := true, laidKinds := [.data, .data, .data], laidTests := true, laidLooks := .later }
def QueryPartsCardSaid : Prop := Claim7.holds Tryd.pinned (.plain (OpenSpec.ofChange queryPartsSpec)) queryPartsCard

/-- THE TIED CARD OF 'stratumlaw06.QueryBoxes'. -/
def queryBoxesCard : Claim7 := { stood := { row := queryBoxesRow, standIns := [], harness := (true, "0e1656f315f4fc4bc836e1516eb7e78b34d9ab3cbcf931c19350a8e0c2cd8129"), looks := false }, kinds := [], alts := [], laidByText := true, laidKinds := [.data, .data, .data], laidTests := true, laidLooks := .later }
def QueryBoxesCardSaid : Prop := Claim7.holds Tryd.pinned (.plain (OpenSpec.ofChange queryBoxesSpec)) queryBoxesCard

/-- THE TIED CARD OF 'stratumlaw06.QueryTop'. -/
def queryTopCard : Claim7 := { stood := { row := queryTopRow, standIns := [], harness := (true, "0e1656f315f4fc4bc836e1516eb7e78b34d9ab3cbcf931c19350a8e0c2cd8129"), looks := false }, kinds := [], alts := [], laidByText := true, laidKinds := [.data, .data, .data], laidTests := true, laidLooks := .later }
def QueryTopCardSaid : Prop := Claim7.holds Tryd.pinned (.plain (OpenSpec.ofChange queryTopSpec)) queryTopCard

/-- THE TIED CARD OF 'stratumlaw06.QueryEmpty'. -/
def queryEmptyCard : Claim7 := { stood := { row := queryEmptyRow, standIns := [], harness := (true, "0e1656f315f4fc4bc836e1516eb7e78b34d9ab3cbcf931c19350a8e0c2cd8129"), looks := false }, kinds := [], alts := [], laidByText := true, laidKinds := [.data, .data, .data], laidTests := true, laidLooks := .later }
def QueryEmptyCardSaid : Prop := Claim7.holds Tryd.pinned (.plain (OpenSpec.ofChange queryEmptySpec)) queryEmptyCard

/-- THE SECOND FORM's CARD OF 'stratumlaw06.QueryChecks'. -/
def queryChecksUptoCard : Claim7 := { stood := { row := queryChecksUptoRow, standIns := [], harness := (true, "0e1656f315f4fc4bc836e1516eb7e78b34d9ab3cbcf931c19350a8e0c2cd8129"), looks := false }, kinds := [], alts := [], laidByText := true, laidKinds := [.data, .data, .data], laidTests := true, laidLooks := .later }
def QueryChecksUptoCardSaid : Prop := Claim7.holds Tryd.pinned (.plain (OpenSpec.upto queryChecksSpec)) queryChecksUptoCard

/-- THE SECOND FORM's CARD OF 'stratumlaw06.QueryJoins'. -/
def queryJoinsUptoCard : Claim7 := { stood := { row := queryJoinsUptoRow, standIns := [], harness := (true, "0e1656f315f4fc4bc836e1516eb7e78b34d9ab3cbcf931c19350a8e0c2cd8129"), looks := false }, kinds := [], alts := [], laidByText := true, laidKinds := [.data, .data, .data], laidTests := true, laidLooks := .later }
def QueryJoinsUptoCardSaid : Prop := Claim7.holds Tryd.pinned (.plain (OpenSpec.upto queryJoinsSpec)) queryJoinsUptoCard

/-- THE SECOND FORM's CARD OF 'stratumlaw06.QueryParts'. -/
def queryPartsUptoCard : Claim7 := { stood := { row := queryPartsUptoRow, standIns := [], harness := (true, "0e1656f315f4fc4bc836e1516eb7e78b34d9ab3cbcf931c19350a8e0c2cd8129"), looks := false }, kinds := [], alts := [], laidByText := true, laidKinds := [.data, .data, .data], laidTests := true, laidLooks := .later }
def QueryPartsUptoCardSaid : Prop := Claim7.holds Tryd.pinned (.plain (OpenSpec.upto queryPartsSpec)) queryPartsUptoCard

/-- THE SECOND FORM's CARD OF 'stratumlaw06.QueryBoxes'. -/
def queryBoxesUptoCard : Claim7 := { stood := { row := queryBoxesUptoRow, standIns := [], harness := (true, "0e1656f315f4fc4bc836e1516eb7e78b34d9ab3cbcf931c19350a8e0c2cd8129"), looks := false }, kinds := [], alts := [], laidByText := true, laidKinds := [.data, .data, .data], laidTests := true, laidLooks := .later }
def QueryBoxesUptoCardSaid : Prop := Claim7.holds Tryd.pinned (.plain (OpenSpec.upto queryBoxesSpec)) queryBoxesUptoCard

/-- THE SECOND FORM's CARD OF 'stratumlaw06.QueryTop'. -/
def queryTopUptoCard : Claim7 := { stood := { row := queryTopUptoRow, standIns := [], harness := (true, "0e1656f315f4fc4bc836e1516eb7e78b34d9ab3cbcf931c19350a8e0c2cd8129"), looks := false }, kinds := [], alts := [], laidByText := true, laidKinds := [.data, .data, .data], laidTests := true, laidLooks := .later }
def QueryTopUptoCardSaid : Prop := Claim7.holds Tryd.pinned (.plain (OpenSpec.upto queryTopSpec)) queryTopUptoCard

/-- THE SECOND FORM's CARD OF 'stratumlaw06.QueryEmpty'. -/
def queryEmptyUptoCard : Claim7 := { stood := { row := queryEmptyUptoRow, standIns := [], harness := (true, "0e1656f315f4fc4bc836e1516eb7e78b34d9ab3cbcf931c19350a8e0c2cd8129"), looks := false }, kinds := [], alts := [], laidByText := true, laidKinds := [.data, .data, .data], laidTests := true, laidLooks := .later }
def QueryEmptyUptoCardSaid : Prop := Claim7.holds Tryd.pinned (.plain (OpenSpec.upto queryEmptySpec)) queryEmptyUptoCard
end Rows
end Go.Proofs.YtgimknplckkiaaaDoor
