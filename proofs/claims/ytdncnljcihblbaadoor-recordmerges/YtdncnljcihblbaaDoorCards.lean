/-
  DERIVED. GIVEN WITH THE SEED: THE CARDS: each row of YtdncnljcihblbaaDoorRows.lean that lists a variable, with what it lists TIED to the program's text (the seventh form; the later family's looks); each row that meets fmt, with fmt's text TOLD by the authors' own Lean function (tested against real Go, not proved from fmt's source: count such statements apart). THE CARD IS WHAT COUNTS. Prove the row's statement (the work); the ties are given (YtdncnljcihblbaaDoorTie.lean); close each card by the builder's one call (the guide's Derived/Test/ToyasCard.lean, 'card_holds'). Laid BY PROGRAM, IN A SANDBOX (cutbox-door.mjs). By AI agents, Wed Nov 11 2026. No macro, syntax, notation, axiom, sorry.
-/
import Derived.Test.YtdncnljcihblbaaDoorRows
import GoSem.ClaimSeven
namespace Go.Proofs.YtdncnljcihblbaaDoor
namespace Rows

/-- THE TIED CARD OF 'testimonylaw.RecordEncodes'. -/
def recordEncodesCard : Claim7 := { stood := { row := recordEncodesRow, standIns := [], harness := (true, "2e47a6507f03c97641f54b07bbf092caee0dfd360563b02b6ae008b45afe178b"), looks := true }, kinds := [], alts := [], laidByText := true, laidKinds := [.handle], laidTests := true, laidLooks := .later }
def RecordEncodesCardSaid : Prop := Claim7.holds Tryd.pinned (.plain (OpenSpec.ofChange recordEncodesSpec)) recordEncodesCard

/-- THE TIED CARD OF 'testimonylaw.RecordDecodes'. -/
def recordDecodesCard : Claim7 := { stood := { row := recordDecodesRow, standIns := [], harness := (true, "2e47a6507f03c97641f54b07bbf092caee0dfd360563b02b6ae008b45afe178b"), looks := true }, kinds := [], alts := [], laidByText := true, laidKinds := [.handle], laidTests := true, laidLooks := .later }
def RecordDecodesCardSaid : Prop := Claim7.holds Tryd.pinned (.plain (OpenSpec.ofChange recordDecodesSpec)) recordDecodesCard

/-- THE TIED CARD OF 'testimonylaw.RecordLogs'. -/
def recordLogsCard : Claim7 := { stood := { row := recordLogsRow, standIns := [], harness := (true, "2e47a6507f03c97641f54b07bbf092caee0dfd360563b02b6ae008b45afe178b"), looks := true }, kinds := [], alts := [], laidByText := true, laidKinds := [.handle], laidTests := true, laidLooks := .later }
def RecordLogsCardSaid : Prop := Claim7.holds Tryd.pinned (.plain (OpenSpec.ofChange recordLogsSpec)) recordLogsCard

/-- THE TIED CARD OF 'testimonylaw.RecordMerges'. -/
def recordMergesCard : Claim7 := { stood := { row := recordMergesRow, standIns := [], harness := (true, "2e47a6507f03c97641f54b07bbf092caee0dfd360563b02b6ae008b45afe178b"), looks := true }, kinds := [], alts := [], laidByText := true, laidKinds := [.handle], laidTests := true, laidLooks := .later }
def RecordMergesCardSaid : Prop := Claim7.holds Tryd.pinned (.plain (OpenSpec.ofChange recordMergesSpec)) recordMergesCard

/-- THE SECOND FORM's CARD OF 'testimonylaw.RecordEncodes'. -/
def recordEncodesUptoCard : Claim7 := { stood := { row := recordEncodesUptoRow, standIns := [], harness := (true, "2e47a6507f03c97641f54b07bbf092caee0dfd360563b02b6ae008b45afe178b"), looks := true }, kinds := [], alts := [], laidByText := true, laidKinds := [.handle], laidTests := true, laidLooks := .later }
def RecordEncodesUptoCardSaid : Prop := Claim7.holds Tryd.pinned (.plain (OpenSpec.upto recordEncodesSpec)) recordEncodesUptoCard

/-- THE SECOND FORM's CARD OF 'testimonylaw.RecordDecodes'. -/
def recordDecodesUptoCard : Claim7 := { stood := { row := recordDecodesUptoRow, standIns := [], harness := (true, "2e47a6507f03c97641f54b07bbf092caee0dfd360563b02b6ae008b45afe178b"), looks := true }, kinds := [], alts := [], laidByText := true, laidKinds := [.handle], laidTests := true, laidLooks := .later }
def RecordDecodesUptoCardSaid : Prop := Claim7.holds Tryd.pinned (.plain (OpenSpec.upto recordDecodesSpec)) recordDecodesUptoCard

/-- THE SECOND FORM's CARD OF 'testimonylaw.RecordLogs'. -/
def recordLogsUptoCard : Claim7 := { stood := { row := recordLogsUptoRow, standIns := [], harness := (true, "2e47a6507f03c97641f54b07bbf092caee0dfd360563b02b6ae008b45afe178b"), looks := true }, kinds := [], alts := [], laidByText := true, laidKinds := [.handle], laidTests := true, laidLooks := .later }
def RecordLogsUptoCardSaid : Prop := Claim7.holds Tryd.pinned (.plain (OpenSpec.upto recordLogsSpec)) recordLogsUptoCard

/-- THE SECOND FORM's CARD OF 'testimonylaw.RecordMerges'. -/
def recordMergesUptoCard : Claim7 := { stood := { row := recordMergesUptoRow, standIns := [], harness := (true, "2e47a6507f03c97641f54b07bbf092caee0dfd360563b02b6ae008b45afe178b"), looks := true }, kinds := [], alts := [], laidByText := true, laidKinds := [.handle], laidTests := true, laidLooks := .later }
def RecordMergesUptoCardSaid : Prop := Claim7.holds Tryd.pinned (.plain (OpenSpec.upto recordMergesSpec)) recordMergesUptoCard
end Rows
end Go.Proofs.YtdncnljcihblbaaDoor
