/-
  DERIVED. GIVEN WITH THE SEED: THE CARDS: each row of YtndogemgjjgbgabDoorRows.lean that lists a variable, with what it lists TIED to the program's text (the seventh form; the later family's looks); each row that meets fmt, with fmt's text TOLD by the authors' own Lean function (tested against real Go, not proved from fmt's source: count such statements apart). THE CARD IS WHAT COUNTS. Prove the row's statement (the work); the ties are given (YtndogemgjjgbgabDoorTie.lean); close each card by the builder's one call (the guide's Derived/Test/ToyasCard.lean, 'card_holds'). Laid BY PROGRAM, IN A SANDBOX (cutbox-door.mjs). By AI agents, Wed Nov 11 2026. No macro, syntax, notation, axiom, sorry.
-/
import Derived.Test.YtndogemgjjgbgabDoorRows
import GoSem.ClaimSeven
namespace Go.Proofs.YtndogemgjjgbgabDoor
namespace Rows

/-- THE TIED CARD OF 'testimonykeep.LinearPrefix'. -/
def linearPrefixCard : Claim7 := { stood := { row := linearPrefixRow, standIns := [], harness := (true, "cc1409f6541a08928543cd004c05ed58c1e100a902752cf43666e0e6280be5a3"), looks := false }, kinds := [], alts := [], laidByText := true, laidKinds := [.data, .data, .data, .data], laidTests := true, laidLooks := .later }
def LinearPrefixCardSaid : Prop := Claim7.holds Tryd.pinned (.plain (OpenSpec.ofChange linearPrefixSpec)) linearPrefixCard

/-- THE TIED CARD OF 'testimonykeep.LinearWider'. -/
def linearWiderCard : Claim7 := { stood := { row := linearWiderRow, standIns := [], harness := (true, "cc1409f6541a08928543cd004c05ed58c1e100a902752cf43666e0e6280be5a3"), looks := false }, kinds := [], alts := [], laidByText := true, laidKinds := [.data, .data, .data, .data], laidTests := true, laidLooks := .later }
def LinearWiderCardSaid : Prop := Claim7.holds Tryd.pinned (.plain (OpenSpec.ofChange linearWiderSpec)) linearWiderCard

/-- THE TIED CARD OF 'testimonykeep.LinearSequential'. -/
def linearSequentialCard : Claim7 := { stood := { row := linearSequentialRow, standIns := [], harness := (true, "cc1409f6541a08928543cd004c05ed58c1e100a902752cf43666e0e6280be5a3"), looks := false }, kinds := [], alts := [], laidByText := true, laidKinds := [.data, .data, .data, .data], laidTests := true, laidLooks := .later }
def LinearSequentialCardSaid : Prop := Claim7.holds Tryd.pinned (.plain (OpenSpec.ofChange linearSequentialSpec)) linearSequentialCard

/-- THE SECOND FORM's CARD OF 'testimonykeep.LinearPrefix'. -/
def linearPrefixUptoCard : Claim7 := { stood := { row := linearPrefixUptoRow, standIns := [], harness := (true, "cc1409f6541a08928543cd004c05ed58c1e100a902752cf43666e0e6280be5a3"), looks := false }, kinds := [], alts := [], laidByText := true, laidKinds := [.data, .data, .data, .data], laidTests := true, laidLooks := .later }
def LinearPrefixUptoCardSaid : Prop := Claim7.holds Tryd.pinned (.plain (OpenSpec.upto linearPrefixSpec)) linearPrefixUptoCard

/-- THE SECOND FORM's CARD OF 'testimonykeep.LinearWider'. -/
def linearWiderUptoCard : Claim7 := { stood := { row := linearWiderUptoRow, standIns := [], harness := (true, "cc1409f6541a08928543cd004c05ed58c1e100a902752cf43666e0e6280be5a3"), looks := false }, kinds := [], alts := [], laidByText := true, laidKinds := [.data, .data, .data, .data], laidTests := true, laidLooks := .later }
def LinearWiderUptoCardSaid : Prop := Claim7.holds Tryd.pinned (.plain (OpenSpec.upto linearWiderSpec)) linearWiderUptoCard

/-- THE SECOND FORM's CARD OF 'testimonykeep.LinearSequential'. -/
def linearSequentialUptoCard : Claim7 := { stood := { row := linearSequentialUptoRow, standIns := [], harness := (true, "cc1409f6541a08928543cd004c05ed58c1e100a902752cf43666e0e6280be5a3"), looks := false }, kinds := [], alts := [], laidByText := true, laidKinds := [.data, .data, .data, .data], laidTests := true, laidLooks := .later }
def LinearSequentialUptoCardSaid : Prop := Claim7.holds Tryd.pinned (.plain (OpenSpec.upto linearSequentialSpec)) linearSequentialUptoCard
end Rows
end Go.Proofs.YtndogemgjjgbgabDoor
