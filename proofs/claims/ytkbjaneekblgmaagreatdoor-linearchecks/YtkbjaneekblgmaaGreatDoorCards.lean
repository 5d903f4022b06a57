/-
  DERIVED. GIVEN WITH THE SEED: THE CARDS: each row of YtkbjaneekblgmaaGreatDoorRows.lean that lists a variable, with what it lists TIED to the program's text (the seventh form; the later family's looks); each row that meets fmt, with fmt's text TOLD by the authors' own Lean function (tested against real Go, not proved from fmt's source: count such statements apart). THE CARD IS WHAT COUNTS. Prove the row's statement (the work); the ties are given (YtkbjaneekblgmaaGreatDoorTie.lean); close each card by the builder's one call (the guide's Derived/Test/ToyasCard.lean, 'card_holds'). Laid BY PROGRAM, IN A SANDBOX (cutbox-door.mjs). By AI agents, Wed Nov 11 2026. No macro, syntax, notation, axiom, sorry.
-/
import Derived.Test.YtkbjaneekblgmaaGreatDoorRows
import GoSem.ClaimSeven
namespace Go.Proofs.YtkbjaneekblgmaaGreatDoor
namespace Rows

/-- THE TIED CARD OF 'testimonylaw.LinearChecks'. -/
def linearChecksCard : Claim7 := { stood := { row := linearChecksRow, standIns := [], harness := (true, "9ab179ffb256c2bfc2a70c3235413ddd76c51bbc093f757bf674f4f0aba201a4"), looks := true }, kinds := [], alts := [], laidByText := true, laidKinds := [.data, .data, .data, .handle, .data], laidTests := true, laidLooks := .later }
def LinearChecksCardSaid : Prop := Claim7.holds Tryz.pinned (.plain (OpenSpec.ofChange linearChecksSpec)) linearChecksCard

/-- THE TIED CARD OF 'testimonylaw.LinearSame'. -/
def linearSameCard : Claim7 := { stood := { row := linearSameRow, standIns := [], harness := (true, "9ab179ffb256c2bfc2a70c3235413ddd76c51bbc093f757bf674f4f0aba201a4"), looks := true }, kinds := [], alts := [], laidByText := true, laidKinds := [.data, .data, .data, .handle, .data], laidTests := true, laidLooks := .later }
def LinearSameCardSaid : Prop := Claim7.holds Tryz.pinned (.plain (OpenSpec.ofChange linearSameSpec)) linearSameCard

/-- THE SECOND FORM's CARD OF 'testimonylaw.LinearChecks'. -/
def linearChecksUptoCard : Claim7 := { stood := { row := linearChecksUptoRow, standIns := [], harness := (true, "9ab179ffb256c2bfc2a70c3235413ddd76c51bbc093f757bf674f4f0aba201a4"), looks := true }, kinds := [], alts := [], laidByText := true, laidKinds := [.data, .data, .data, .handle, .data], laidTests := true, laidLooks := .later }
def LinearChecksUptoCardSaid : Prop := Claim7.holds Tryz.pinned (.plain (OpenSpec.upto linearChecksSpec)) linearChecksUptoCard

/-- THE SECOND FORM's CARD OF 'testimonylaw.LinearSame'. -/
def linearSameUptoCard : Claim7 := { stood := { row := linearSameUptoRow, standIns := [], harness := (true, "9ab179ffb256c2bfc2a70c3235413ddd76c51bbc093f757bf674f4f0aba201a4"), looks := true }, kinds := [], alts := [], laidByText := true, laidKinds := [.data, .data, .data, .handle, .data], laidTests := true, laidLooks := .later }
def LinearSameUptoCardSaid : Prop := Claim7.holds Tryz.pinned (.plain (OpenSpec.upto linearSameSpec)) linearSameUptoCard
end Rows
end Go.Proofs.YtkbjaneekblgmaaGreatDoor
