/-
  DERIVED. GIVEN WITH THE SEED: THE CARDS: each row of YtndogemgjjgbgaaDoorRows.lean that lists a variable, with what it lists TIED to the program's text (the seventh form; the later family's looks); each row that meets fmt, with fmt's text TOLD by the authors' own Lean function (tested against real Go, not proved from fmt's source: count such statements apart). THE CARD IS WHAT COUNTS. Prove the row's statement (the work); the ties are given (YtndogemgjjgbgaaDoorTie.lean); close each card by the builder's one call (the guide's Derived/Test/ToyasCard.lean, 'card_holds'). Laid BY PROGRAM, IN A SANDBOX (cutbox-door.mjs). By AI agents, Wed Nov 11 2026. No macro, syntax, notation, axiom, sorry.
-/
import Derived.Test.YtndogemgjjgbgaaDoorRows
import GoSem.ClaimSeven
namespace Go.Proofs.YtndogemgjjgbgaaDoor
namespace Rows

/-- THE TIED CARD OF 'testimonylaw.LinearShows'. -/
def linearShowsCard : Claim7 := { stood := { row := linearShowsRow, standIns := [], harness := (true, "ad304281d404666f8f0bcf53296f5025da6435799860b6c96abab2cfd37f5ca5"), looks := true }, kinds := [], alts := [], laidByText := true, laidKinds := [.handle, .data], laidTests := true, laidLooks := .later }
def LinearShowsCardSaid : Prop := Claim7.holds Tryd.pinned (.plain (OpenSpec.ofChange linearShowsSpec)) linearShowsCard

/-- THE TIED CARD OF 'testimonykeep.LinearWitness'. -/
def linearWitnessCard : Claim7 := { stood := { row := linearWitnessRow, standIns := [], harness := (true, "ad304281d404666f8f0bcf53296f5025da6435799860b6c96abab2cfd37f5ca5"), looks := true }, kinds := [], alts := [], laidByText := true, laidKinds := [.data, .data, .data, .data], laidTests := true, laidLooks := .later }
def LinearWitnessCardSaid : Prop := Claim7.holds Tryd.pinned (.plain (OpenSpec.ofChange linearWitnessSpec)) linearWitnessCard

/-- THE TIED CARD OF 'testimonykeep.LinearComplete'. -/
def linearCompleteCard : Claim7 := { stood := { row := linearCompleteRow, standIns := [], harness := (true, "ad304281d404666f8f0bcf53296f5025da6435799860b6c96abab2cfd37f5ca5"), looks := true }, kinds := [], alts := [], laidByText := true, laidKinds := [.data, .data, .data, .data], laidTests := true, laidLooks := .later }
def LinearCompleteCardSaid : Prop := Claim7.holds Tryd.pinned (.plain (OpenSpec.ofChange linearCompleteSpec)) linearCompleteCard

/-- THE TIED CARD OF 'testimonykeep.LinearBudget'. -/
def linearBudgetCard : Claim7 := { stood := { row := linearBudgetRow, standIns := [], harness := (true, "ad304281d404666f8f0bcf53296f5025da6435799860b6c96abab2cfd37f5ca5"), looks := true }, kinds := [], alts := [], laidByText := true, laidKinds := [.data, .data, .data, .data], laidTests := true, laidLooks := .later }
def LinearBudgetCardSaid : Prop := Claim7.holds Tryd.pinned (.plain (OpenSpec.ofChange linearBudgetSpec)) linearBudgetCard

/-- THE SECOND FORM's CARD OF 'testimonylaw.LinearShows'. -/
def linearShowsUptoCard : Claim7 := { stood := { row := linearShowsUptoRow, standIns := [], harness := (true, "ad304281d404666f8f0bcf53296f5025da6435799860b6c96abab2cfd37f5ca5"), looks := true }, kinds := [], alts := [], laidByText := true, laidKinds := [.handle, .data], laidTests := true, laidLooks := .later }
def LinearShowsUptoCardSaid : Prop := Claim7.holds Tryd.pinned (.plain (OpenSpec.upto linearShowsSpec)) linearShowsUptoCard

/-- THE SECOND FORM's CARD OF 'testimonykeep.LinearWitness'. -/
def linearWitnessUptoCard : Claim7 := { stood := { row := linearWitnessUptoRow, standIns := [], harness := (true, "ad304281d404666f8f0bcf53296f5025da6435799860b6c96abab2cfd37f5ca5"), looks := true }, kinds := [], alts := [], laidByText := true, laidKinds := [.data, .data, .data, .data], laidTests := true, laidLooks := .later }
def LinearWitnessUptoCardSaid : Prop := Claim7.holds Tryd.pinned (.plain (OpenSpec.upto linearWitnessSpec)) linearWitnessUptoCard

/-- THE SECOND FORM's CARD OF 'testimonykeep.LinearComplete'. -/
def linearCompleteUptoCard : Claim7 := { stood := { row := linearCompleteUptoRow, standIns := [], harness := (true, "ad304281d404666f8f0bcf53296f5025da6435799860b6c96abab2cfd37f5ca5"), looks := true }, kinds := [], alts := [], laidByText := true, laidKinds := [.data, .data, .data, .data], laidTests := true, laidLooks := .later }
def LinearCompleteUptoCardSaid : Prop := Claim7.holds Tryd.pinned (.plain (OpenSpec.upto linearCompleteSpec)) linearCompleteUptoCard

/-- THE SECOND FORM's CARD OF 'testimonykeep.LinearBudget'. -/
def linearBudgetUptoCard : Claim7 := { stood := { row := linearBudgetUptoRow, standIns := [], harness := (true, "ad304281d404666f8f0bcf53296f5025da6435799860b6c96abab2cfd37f5ca5"), looks := true }, kinds := [], alts := [], laidByText := true, laidKinds := [.data, .data, .data, .data], laidTests := true, laidLooks := .later }
def LinearBudgetUptoCardSaid : Prop := Claim7.holds Tryd.pinned (.plain (OpenSpec.upto linearBudgetSpec)) linearBudgetUptoCard
end Rows
end Go.Proofs.YtndogemgjjgbgaaDoor
