/-
  DERIVED. GIVEN WITH THE SEED: THE CARDS: each row of YtncnojgemmcplaaGreatDoorRows.lean that lists a variable, with what it lists TIED to the program's text (the seventh form; the later family's looks); each row that meets fmt, with fmt's text TOLD by the authors' own Lean function (tested against real Go, not proved from fmt's source: count such statements apart). THE CARD IS WHAT COUNTS. Prove the row's statement (the work); the ties are given (YtncnojgemmcplaaGreatDoorTie.lean); close each card by the builder's one call (the guide's Derived/Test/ToyasCard.lean, 'card_holds'). Laid BY PROGRAM, IN A SANDBOX (cutbox-door.mjs). By AI agents, Wed Nov 11 2026. No macro, syntax, notation, axiom, sorry.
-/
import Derived.Test.YtncnojgemmcplaaGreatDoorRows
import GoSem.ClaimSeven
namespace Go.Proofs.YtncnojgemmcplaaGreatDoor
namespace Rows

/-- THE TIED CARD OF 'testimonylaw.StorePlays'. -/
def storePlaysCard : Claim7 := { stood := { row := storePlaysRow, standIns := [], harness := (true, "661db12b3badd0752862701f74de4a2adacb729251fcc4d3a64b5894080f80b9"), looks := true }, kinds := [], alts := [], laidByText := true, laidKinds := [.handle], laidTests := true, laidLooks := .later }
def StorePlaysCardSaid : Prop := Claim7.holds Tryz.pinned (.plain (OpenSpec.ofChange storePlaysSpec)) storePlaysCard

/-- THE TIED CARD OF 'testimonykeep.StoreLinear'. -/
def storeLinearCard : Claim7 := { stood := { row := storeLinearRow, standIns := [], harness := (true, "661db12b3badd0752862701f74de4a2adacb729251fcc4d3a64b5894080f80b9"), looks := true }, kinds := [], alts := [], laidByText := true, laidKinds := [.data, .data, .data, .data], laidTests := true, laidLooks := .later }
def StoreLinearCardSaid : Prop := Claim7.holds Tryz.pinned (.plain (OpenSpec.ofChange storeLinearSpec)) storeLinearCard

/-- THE SECOND FORM's CARD OF 'testimonylaw.StorePlays'. -/
def storePlaysUptoCard : Claim7 := { stood := { row := storePlaysUptoRow, standIns := [], harness := (true, "661db12b3badd0752862701f74de4a2adacb729251fcc4d3a64b5894080f80b9"), looks := true }, kinds := [], alts := [], laidByText := true, laidKinds := [.handle], laidTests := true, laidLooks := .later }
def StorePlaysUptoCardSaid : Prop := Claim7.holds Tryz.pinned (.plain (OpenSpec.upto storePlaysSpec)) storePlaysUptoCard

/-- THE SECOND FORM's CARD OF 'testimonykeep.StoreLinear'. -/
def storeLinearUptoCard : Claim7 := { stood := { row := storeLinearUptoRow, standIns := [], harness := (true, "661db12b3badd0752862701f74de4a2adacb729251fcc4d3a64b5894080f80b9"), looks := true }, kinds := [], alts := [], laidByText := true, laidKinds := [.data, .data, .data, .data], laidTests := true, laidLooks := .later }
def StoreLinearUptoCardSaid : Prop := Claim7.holds Tryz.pinned (.plain (OpenSpec.upto storeLinearSpec)) storeLinearUptoCard
end Rows
end Go.Proofs.YtncnojgemmcplaaGreatDoor
