/-
  DERIVED. GIVEN WITH THE SEED: THE CARDS: each row of YtmonbkoelehdlaaDoorRows.lean that lists a variable, with what it lists TIED to the program's text (the seventh form; the later family's looks); each row that meets fmt, with fmt's text TOLD by the authors' own Lean function (tested against real Go, not proved from fmt's source: count such statements apart). THE CARD IS WHAT COUNTS. Prove the row's statement (the work); the ties are given (YtmonbkoelehdlaaDoorTie.lean); close each card by the builder's one call (the guide's Derived/Test/ToyasCard.lean, 'card_holds'). Laid BY PROGRAM, IN A SANDBOX (cutbox-door.mjs). By AI agents, Wed Nov 11 2026. No macro, syntax, notation, axiom, sorry.
-/
import Derived.Test.YtmonbkoelehdlaaDoorRows
import GoSem.ClaimSeven
namespace Go.Proofs.YtmonbkoelehdlaaDoor
namespace Rows

/-- THE TIED CARD OF 'testimonylaw.ClockTimes'. -/
def clockTimesCard : Claim7 := { stood := { row := clockTimesRow, standIns := [], harness := (true, "8c42d171531b892168cb5a5eeabc0b78c68a83363b4ce06bfdd763a8dd81bf89"), looks := true }, kinds := [], alts := [], laidByText := true, laidKinds := [.handle, .data], laidTests := true, laidLooks := .later }
def ClockTimesCardSaid : Prop := Claim7.holds Tryd.pinned (.plain (OpenSpec.ofChange clockTimesSpec)) clockTimesCard

/-- THE TIED CARD OF 'testimonylaw.ClockVectors'. -/
def clockVectorsCard : Claim7 := { stood := { row := clockVectorsRow, standIns := [], harness := (true, "8c42d171531b892168cb5a5eeabc0b78c68a83363b4ce06bfdd763a8dd81bf89"), looks := true }, kinds := [], alts := [], laidByText := true, laidKinds := [.handle, .data], laidTests := true, laidLooks := .later }
def ClockVectorsCardSaid : Prop := Claim7.holds Tryd.pinned (.plain (OpenSpec.ofChange clockVectorsSpec)) clockVectorsCard

/-- THE TIED CARD OF 'testimonylaw.ClockAhead'. -/
def clockAheadCard : Claim7 := { stood := { row := clockAheadRow, standIns := [], harness := (true, "8c42d171531b892168cb5a5eeabc0b78c68a83363b4ce06bfdd763a8dd81bf89"), looks := true }, kinds := [], alts := [], laidByText := true, laidKinds := [.handle, .data], laidTests := true, laidLooks := .later }
def ClockAheadCardSaid : Prop := Claim7.holds Tryd.pinned (.plain (OpenSpec.ofChange clockAheadSpec)) clockAheadCard

/-- THE TIED CARD OF 'testimonylaw.ClockSteady'. -/
def clockSteadyCard : Claim7 := { stood := { row := clockSteadyRow, standIns := [], harness := (true, "8c42d171531b892168cb5a5eeabc0b78c68a83363b4ce06bfdd763a8dd81bf89"), looks := true }, kinds := [], alts := [], laidByText := true, laidKinds := [.handle, .data], laidTests := true, laidLooks := .later }
def ClockSteadyCardSaid : Prop := Claim7.holds Tryd.pinned (.plain (OpenSpec.ofChange clockSteadySpec)) clockSteadyCard

/-- THE TIED CARD OF 'testimonylaw.ClockBelow'. -/
def clockBelowCard : Claim7 := { stood := { row := clockBelowRow, standIns := [], harness := (true, "8c42d171531b892168cb5a5eeabc0b78c68a83363b4ce06bfdd763a8dd81bf89"), looks := true }, kinds := [], alts := [], laidByText := true, laidKinds := [.handle, .data], laidTests := true, laidLooks := .later }
def ClockBelowCardSaid : Prop := Claim7.holds Tryd.pinned (.plain (OpenSpec.ofChange clockBelowSpec)) clockBelowCard

/-- THE TIED CARD OF 'testimonylaw.ClockCuts'. -/
def clockCutsCard : Claim7 := { stood := { row := clockCutsRow, standIns := [], harness := (true, "8c42d171531b892168cb5a5eeabc0b78c68a83363b4ce06bfdd763a8dd81bf89"), looks := true }, kinds := [], alts := [], laidByText := true, laidKinds := [.handle, .data], laidTests := true, laidLooks := .later }
def ClockCutsCardSaid : Prop := Claim7.holds Tryd.pinned (.plain (OpenSpec.ofChange clockCutsSpec)) clockCutsCard

/-- THE SECOND FORM's CARD OF 'testimonylaw.ClockTimes'. -/
def clockTimesUptoCard : Claim7 := { stood := { row := clockTimesUptoRow, standIns := [], harness := (true, "8c42d171531b892168cb5a5eeabc0b78c68a83363b4ce06bfdd763a8dd81bf89"), looks := true }, kinds := [], alts := [], laidByText := true, laidKinds := [.handle, .data], laidTests := true, laidLooks := .later }
def ClockTimesUptoCardSaid : Prop := Claim7.holds Tryd.pinned (.plain (OpenSpec.upto clockTimesSpec)) clockTimesUptoCard

/-- THE SECOND FORM's CARD OF 'testimonylaw.ClockVectors'. -/
def clockVectorsUptoCard : Claim7 := { stood := { row := clockVectorsUptoRow, standIns := [], harness := (true, "8c42d171531b892168cb5a5eeabc0b78c68a83363b4ce06bfdd763a8dd81bf89"), looks := true }, kinds := [], alts := [], laidByText := true, laidKinds := [.handle, .data], laidTests := true, laidLooks := .later }
def ClockVectorsUptoCardSaid : Prop := Claim7.holds Tryd.pinned (.plain (OpenSpec.upto clockVectorsSpec)) clockVectorsUptoCard

/-- THE SECOND FORM's CARD OF 'testimonylaw.ClockAhead'. -/
def clockAheadUptoCard : Claim7 := { stood := { row := clockAheadUptoRow, standIns := [], harness := (true, "8c42d171531b892168cb5a5eeabc0b78c68a83363b4ce06bfdd763a8dd81bf89"), looks := true }, kinds := [], alts := [], laidByText := true, laidKinds := [.handle, .data], laidTests := true, laidLooks := .later }
def ClockAheadUptoCardSaid : Prop := Claim7.holds Tryd.pinned (.plain (OpenSpec.upto clockAheadSpec)) clockAheadUptoCard

/-- THE SECOND FORM's CARD OF 'testimonylaw.ClockSteady'. -/
def clockSteadyUptoCard : Claim7 := { stood := { row := clockSteadyUptoRow, standIns := [], harness := (true, "8c42d171531b892168cb5a5eeabc0b78c68a83363b4ce06bfdd763a8dd81bf89"), looks := true }, kinds := [], alts := [], laidByText := true, laidKinds := [.handle, .data], laidTests := true, laidLooks := .later }
def ClockSteadyUptoCardSaid : Prop := Claim7.holds Tryd.pinned (.plain (OpenSpec.upto clockSteadySpec)) clockSteadyUptoCard

/-- THE SECOND FORM's CARD OF 'testimonylaw.ClockBelow'. -/
def clockBelowUptoCard : Claim7 := { stood := { row := clockBelowUptoRow, standIns := [], harness := (true, "8c42d171531b892168cb5a5eeabc0b78c68a83363b4ce06bfdd763a8dd81bf89"), looks := true }, kinds := [], alts := [], laidByText := true, laidKinds := [.handle, .data], laidTests := true, laidLooks := .later }
def ClockBelowUptoCardSaid : Prop := Claim7.holds Tryd.pinned (.plain (OpenSpec.upto clockBelowSpec)) clockBelowUptoCard

/-- THE SECOND FORM's CARD OF 'testimonylaw.ClockCuts'. -/
def clockCutsUptoCard : Claim7 := { stood := { row := clockCutsUptoRow, standIns := [], harness := (true, "8c42d171531b892168cb5a5eeabc0b78c68a83363b4ce06bfdd763a8dd81bf89"), looks := true }, kinds := [], alts := [], laidByText := true, laidKinds := [.handle, .data], laidTests := true, laidLooks := .later }
def ClockCutsUptoCardSaid : Prop := Claim7.holds Tryd.pinned (.plain (OpenSpec.upto clockCutsSpec)) clockCutsUptoCard
end Rows
end Go.Proofs.YtmonbkoelehdlaaDoor
