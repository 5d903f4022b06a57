/-
  DERIVED. GIVEN WITH THE SEED: THE CARDS: each row of YtcfomkogojggnaaDoorRows.lean that lists a variable, with what it lists TIED to the program's text (the seventh form; the later family's looks); each row that meets fmt, with fmt's text TOLD by the authors' own Lean function (tested against real Go, not proved from fmt's source: count such statements apart). THE CARD IS WHAT COUNTS. Prove the row's statement (the work); the ties are given (YtcfomkogojggnaaDoorTie.lean); close each card by the builder's one call (the guide's Derived/Test/ToyasCard.lean, 'card_holds'). Laid BY PROGRAM, IN A SANDBOX (cutbox-door.mjs). By AI agents, Wed Nov 11 2026. No macro, syntax, notation, axiom, sorry.
-/
import Derived.Test.YtcfomkogojggnaaDoorRows
import GoSem.ClaimSeven
namespace Go.Proofs.YtcfomkogojggnaaDoor
namespace Rows

/-- THE TIED CARD OF 'testimonylaw.EventOps'. -/
def eventOpsCard : Claim7 := { stood := { row := eventOpsRow, standIns := [], harness := (true, "a0f5812fe4a797078d98233cb019719f85c5b8287db9dcb9e4f5d4cdeae7ae20"), looks := true }, kinds := [], alts := [], laidByText := true, laidKinds := [.handle, .data], laidTests := true, laidLooks := .later }
def EventOpsCardSaid : Prop := Claim7.holds Tryd.pinned (.plain (OpenSpec.ofChange eventOpsSpec)) eventOpsCard

/-- THE TIED CARD OF 'testimonykeep.EventBack'. -/
def eventBackCard : Claim7 := { stood := { row := eventBackRow, standIns := [], harness := (true, "a0f5812fe4a797078d98233cb019719f85c5b8287db9dcb9e4f5d4cdeae7ae20"), looks := true }, kinds := [], alts := [], laidByText := true, laidKinds := [.data, .data, .data, .sentinel, .sentinel], laidTests := true, laidLooks := .later }
def EventBackCardSaid : Prop := Claim7.holds Tryd.pinned (.plain (OpenSpec.ofChange eventBackSpec)) eventBackCard

/-- THE TIED CARD OF 'testimonylaw.ModelKnows'. -/
def modelKnowsCard : Claim7 := { stood := { row := modelKnowsRow, standIns := [], harness := (true, "a0f5812fe4a797078d98233cb019719f85c5b8287db9dcb9e4f5d4cdeae7ae20"), looks := true }, kinds := [], alts := [], laidByText := true, laidKinds := [.data], laidTests := true, laidLooks := .later }
def ModelKnowsCardSaid : Prop := Claim7.holds Tryd.pinned (.plain (OpenSpec.ofChange modelKnowsSpec)) modelKnowsCard

/-- THE TIED CARD OF 'testimonylaw.ModelSteps'. -/
def modelStepsCard : Claim7 := { stood := { row := modelStepsRow, standIns := [], harness := (true, "a0f5812fe4a797078d98233cb019719f85c5b8287db9dcb9e4f5d4cdeae7ae20"), looks := true }, kinds := [], alts := [], laidByText := true, laidKinds := [.data], laidTests := true, laidLooks := .later }
def ModelStepsCardSaid : Prop := Claim7.holds Tryd.pinned (.plain (OpenSpec.ofChange modelStepsSpec)) modelStepsCard

/-- THE TIED CARD OF 'testimonylaw.ModelRuns'. -/
def modelRunsCard : Claim7 := { stood := { row := modelRunsRow, standIns := [], harness := (true, "a0f5812fe4a797078d98233cb019719f85c5b8287db9dcb9e4f5d4cdeae7ae20"), looks := true }, kinds := [], alts := [], laidByText := true, laidKinds := [.data], laidTests := true, laidLooks := .later }
def ModelRunsCardSaid : Prop := Claim7.holds Tryd.pinned (.plain (OpenSpec.ofChange modelRunsSpec)) modelRunsCard

/-- THE TIED CARD OF 'testimonykeep.ModelBack'. -/
def modelBackCard : Claim7 := { stood := { row := modelBackRow, standIns := [], harness := (true, "a0f5812fe4a797078d98233cb019719f85c5b8287db9dcb9e4f5d4cdeae7ae20"), looks := true }, kinds := [], alts := [], laidByText := true, laidKinds := [.data], laidTests := true, laidLooks := .later }
def ModelBackCardSaid : Prop := Claim7.holds Tryd.pinned (.plain (OpenSpec.ofChange modelBackSpec)) modelBackCard

/-- THE SECOND FORM's CARD OF 'testimonylaw.EventOps'. -/
def eventOpsUptoCard : Claim7 := { stood := { row := eventOpsUptoRow, standIns := [], harness := (true, "a0f5812fe4a797078d98233cb019719f85c5b8287db9dcb9e4f5d4cdeae7ae20"), looks := true }, kinds := [], alts := [], laidByText := true, laidKinds := [.handle, .data], laidTests := true, laidLooks := .later }
def EventOpsUptoCardSaid : Prop := Claim7.holds Tryd.pinned (.plain (OpenSpec.upto eventOpsSpec)) eventOpsUptoCard

/-- THE SECOND FORM's CARD OF 'testimonykeep.EventBack'. -/
def eventBackUptoCard : Claim7 := { stood := { row := eventBackUptoRow, standIns := [], harness := (true, "a0f5812fe4a797078d98233cb019719f85c5b8287db9dcb9e4f5d4cdeae7ae20"), looks := true }, kinds := [], alts := [], laidByText := true, laidKinds := [.data, .data, .data, .sentinel, .sentinel], laidTests := true, laidLooks := .later }
def EventBackUptoCardSaid : Prop := Claim7.holds Tryd.pinned (.plain (OpenSpec.upto eventBackSpec)) eventBackUptoCard

/-- THE SECOND FORM's CARD OF 'testimonylaw.ModelKnows'. -/
def modelKnowsUptoCard : Claim7 := { stood := { row := modelKnowsUptoRow, standIns := [], harness := (true, "a0f5812fe4a797078d98233cb019719f85c5b8287db9dcb9e4f5d4cdeae7ae20"), looks := true }, kinds := [], alts := [], laidByText := true, laidKinds := [.data], laidTests := true, laidLooks := .later }
def ModelKnowsUptoCardSaid : Prop := Claim7.holds Tryd.pinned (.plain (OpenSpec.upto modelKnowsSpec)) modelKnowsUptoCard

/-- THE SECOND FORM's CARD OF 'testimonylaw.ModelSteps'. -/
def modelStepsUptoCard : Claim7 := { stood := { row := modelStepsUptoRow, standIns := [], harness := (true, "a0f5812fe4a797078d98233cb019719f85c5b8287db9dcb9e4f5d4cdeae7ae20"), looks := true }, kinds := [], alts := [], laidByText := true, laidKinds := [.data], laidTests := true, laidLooks := .later }
def ModelStepsUptoCardSaid : Prop := Claim7.holds Tryd.pinned (.plain (OpenSpec.upto modelStepsSpec)) modelStepsUptoCard

/-- THE SECOND FORM's CARD OF 'testimonylaw.ModelRuns'. -/
def modelRunsUptoCard : Claim7 := { stood := { row := modelRunsUptoRow, standIns := [], harness := (true, "a0f5812fe4a797078d98233cb019719f85c5b8287db9dcb9e4f5d4cdeae7ae20"), looks := true }, kinds := [], alts := [], laidByText := true, laidKinds := [.data], laidTests := true, laidLooks := .later }
def ModelRunsUptoCardSaid : Prop := Claim7.holds Tryd.pinned (.plain (OpenSpec.upto modelRunsSpec)) modelRunsUptoCard

/-- THE SECOND FORM's CARD OF 'testimonykeep.ModelBack'. -/
def modelBackUptoCard : Claim7 := { stood := { row := modelBackUptoRow, standIns := [], harness := (true, "a0f5812fe4a797078d98233cb019719f85c5b8287db9dcb9e4f5d4cdeae7ae20"), looks := true }, kinds := [], alts := [], laidByText := true, laidKinds := [.data], laidTests := true, laidLooks := .later }
def ModelBackUptoCardSaid : Prop := Claim7.holds Tryd.pinned (.plain (OpenSpec.upto modelBackSpec)) modelBackUptoCard
end Rows
end Go.Proofs.YtcfomkogojggnaaDoor
