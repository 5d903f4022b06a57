/-
  DERIVED. GIVEN WITH THE SEED: THE CARDS: each row of YthblokfiojccmaaGreatDoorRows.lean that lists a variable, with what it lists TIED to the program's text (the seventh form; the later family's looks); each row that meets fmt, with fmt's text TOLD by the authors' own Lean function (tested against real Go, not proved from fmt's source: count such statements apart). THE CARD IS WHAT COUNTS. Prove the row's statement (the work); the ties are given (YthblokfiojccmaaGreatDoorTie.lean); close each card by the builder's one call (the guide's Derived/Test/ToyasCard.lean, 'card_holds'). Laid BY PROGRAM, IN A SANDBOX (cutbox-door.mjs). By AI agents, Wed Nov 11 2026. No macro, syntax, notation, axiom, sorry.
-/
import Derived.Test.YthblokfiojccmaaGreatDoorRows
import GoSem.ClaimSeven
namespace Go.Proofs.YthblokfiojccmaaGreatDoor
namespace Rows

/-- THE TIED CARD OF 'testimonylaw.GenTakes'. -/
def genTakesCard : Claim7 := { stood := { row := genTakesRow, standIns := [], harness := (true, "de79c542cf8268c594d051d9621df59cc6f6deb39442d83fadaafadd3265f47b"), looks := true }, kinds := [], alts := [], laidByText := true, laidKinds := [.data, .data, .data, .data, .handle, .sentinel, .sentinel, .data, .pinned], laidTests := true, laidLooks := .later }
def GenTakesCardSaid : Prop := Claim7.holds Tryz.pinned (.plain (OpenSpec.ofChange genTakesSpec)) genTakesCard

/-- THE SECOND FORM's CARD OF 'testimonylaw.GenTakes'. -/
def genTakesUptoCard : Claim7 := { stood := { row := genTakesUptoRow, standIns := [], harness := (true, "de79c542cf8268c594d051d9621df59cc6f6deb39442d83fadaafadd3265f47b"), looks := true }, kinds := [], alts := [], laidByText := true, laidKinds := [.data, .data, .data, .data, .handle, .sentinel, .sentinel, .data, .pinned], laidTests := true, laidLooks := .later }
def GenTakesUptoCardSaid : Prop := Claim7.holds Tryz.pinned (.plain (OpenSpec.upto genTakesSpec)) genTakesUptoCard
end Rows
end Go.Proofs.YthblokfiojccmaaGreatDoor
