/-
  DERIVED. GIVEN WITH THE SEED: THE CARDS: each row of YtkedbcfejcakaaaDoorRows.lean that lists a variable, with what it lists TIED to the program's text (the seventh form; the later family's looks); each row that meets fmt, with fmt's text TOLD by the authors' own Lean function (tested against real Go, not proved from fmt's source: count such statements apart). THE CARD IS WHAT COUNTS. Prove the row's statement (the work); the ties are given (YtkedbcfejcakaaaDoorTie.lean); close each card by the builder's one call (the guide's Derived/Test/ToyasCard.lean, 'card_holds'). Laid BY PROGRAM, IN A SANDBOX (cutbox-door.mjs). By AI agents, Wed Nov 11 2026. No macro, syntax, notation, axiom, sorry.
-/
import Derived.Test.YtkedbcfejcakaaaDoorRows
import GoSem.ClaimSeven
namespace Go.Proofs.YtkedbcfejcakaaaDoor
namespace Rows

/-- THE TIED CARD OF 'testimonylaw.EventChecks'. -/
def eventChecksCard : Claim7 := { stood := { row := eventChecksRow, standIns := [], harness := (true, "167b98427bd1cd0bfab2a6c4a6134b59afaf8a9285a9904da2bc4d4c79406609"), looks := true }, kinds := [], alts := [], laidByText := true, laidKinds := [.handle], laidTests := true, laidLooks := .later }
def EventChecksCardSaid : Prop := Claim7.holds Tryd.pinned (.plain (OpenSpec.ofChange eventChecksSpec)) eventChecksCard

/-- THE TIED CARD OF 'testimonylaw.EventOps'. -/
def eventOpsCard : Claim7 := { stood := { row := eventOpsRow, standIns := [], harness := (true, "167b98427bd1cd0bfab2a6c4a6134b59afaf8a9285a9904da2bc4d4c79406609"), looks := true }, kinds := [], alts := [], laidByText := true, laidKinds := [.handle, .data], laidTests := true, laidLooks := .later }
def EventOpsCardSaid : Prop := Claim7.holds Tryd.pinned (.plain (OpenSpec.ofChange eventOpsSpec)) eventOpsCard

/-- THE TIED CARD OF 'testimonylaw.EventJudges'. -/
def eventJudgesCard : Claim7 := { stood := { row := eventJudgesRow, standIns := [], harness := (true, "167b98427bd1cd0bfab2a6c4a6134b59afaf8a9285a9904da2bc4d4c79406609"), looks := true }, kinds := [], alts := [], laidByText := true, laidKinds := [.handle], laidTests := true, laidLooks := .later }
def EventJudgesCardSaid : Prop := Claim7.holds Tryd.pinned (.plain (OpenSpec.ofChange eventJudgesSpec)) eventJudgesCard

/-- THE TIED CARD OF 'testimonykeep.EventBack'. -/
def eventBackCard : Claim7 := { stood := { row := eventBackRow, standIns := [], harness := (true, "167b98427bd1cd0bfab2a6c4a6134b59afaf8a9285a9904da2bc4d4c79406609"), looks := true }, kinds := [], alts := [], laidByText := true, laidKinds := [.data, .data, .data, .sentinel, .sentinel], laidTests := true, laidLooks := .later }
def EventBackCardSaid : Prop := Claim7.holds Tryd.pinned (.plain (OpenSpec.ofChange eventBackSpec)) eventBackCard

/-- THE SECOND FORM's CARD OF 'testimonylaw.EventChecks'. -/
def eventChecksUptoCard : Claim7 := { stood := { row := eventChecksUptoRow, standIns := [], harness := (true, "167b98427bd1cd0bfab2a6c4a6134b59afaf8a9285a9904da2bc4d4c79406609"), looks := true }, kinds := [], alts := [], laidByText := true, laidKinds := [.handle], laidTests := true, laidLooks := .later }
def EventChecksUptoCardSaid : Prop := Claim7.holds Tryd.pinned (.plain (OpenSpec.upto eventChecksSpec)) eventChecksUptoCard

/-- THE SECOND FORM's CARD OF 'testimonylaw.EventOps'. -/
def eventOpsUptoCard : Claim7 := { stood := { row := eventOpsUptoRow, standIns := [], harness := (true, "167b98427bd1cd0bfab2a6c4a6134b59afaf8a9285a9904da2bc4d4c79406609"), looks := true }, kinds := [], alts := [], laidByText := true, laidKinds := [.handle, .data], laidTests := true, laidLooks := .later }
def EventOpsUptoCardSaid : Prop := Claim7.holds Tryd.pinned (.plain (OpenSpec.upto eventOpsSpec)) eventOpsUptoCard

/-- THE SECOND FORM's CARD OF 'testimonylaw.EventJudges'. -/
def eventJudgesUptoCard : Claim7 := { stood := { row := eventJudgesUptoRow, standIns := [], harness := (true, "167b98427bd1cd0bfab2a6c4a6134b59afaf8a9285a9904da2bc4d4c79406609"), looks := true }, kinds := [], alts := [], laidByText := true, laidKinds := [.handle], laidTests := true, laidLooks := .later }
def EventJudgesUptoCardSaid : Prop := Claim7.holds Tryd.pinned (.plain (OpenSpec.upto eventJudgesSpec)) eventJudgesUptoCard

/-- THE SECOND FORM's CARD OF 'testimonykeep.EventBack'. -/
def eventBackUptoCard : Claim7 := { stood := { row := eventBackUptoRow, standIns := [], harness := (true, "167b98427bd1cd0bfab2a6c4a6134b59afaf8a9285a9904da2bc4d4c79406609"), looks := true }, kinds := [], alts := [], laidByText := true, laidKinds := [.data, .data, .data, .sentinel, .sentinel], laidTests := true, laidLooks := .later }
def EventBackUptoCardSaid : Prop := Claim7.holds Tryd.pinned (.plain (OpenSpec.upto eventBackSpec)) eventBackUptoCard
end Rows
end Go.Proofs.YtkedbcfejcakaaaDoor
