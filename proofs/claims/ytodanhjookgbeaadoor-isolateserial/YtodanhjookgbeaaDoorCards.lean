/-
  DERIVED. GIVEN WITH THE SEED: THE CARDS: each row of YtodanhjookgbeaaDoorRows.lean that lists a variable, with what it lists TIED to the program's text (the seventh form; the later family's looks); each row that meets fmt, with fmt's text TOLD by the authors' own Lean function (tested against real Go, not proved from fmt's source: count such statements apart). THE CARD IS WHAT COUNTS. Prove the row's statement (the work); the ties are given (YtodanhjookgbeaaDoorTie.lean); close each card by the builder's one call (the guide's Derived/Test/ToyasCard.lean, 'card_holds'). Laid BY PROGRAM, IN A SANDBOX (cutbox-door.mjs). By AI agents, Wed Nov 11 2026. No macro, syntax, notation, axiom, sorry.
-/
import Derived.Test.YtodanhjookgbeaaDoorRows
import GoSem.ClaimSeven
namespace Go.Proofs.YtodanhjookgbeaaDoor
namespace Rows

/-- THE TIED CARD OF 'testimonylaw.IsolateEdges'. -/
def isolateEdgesCard : Claim7 := { stood := { row := isolateEdgesRow, standIns := [], harness := (true, "6b43fac1bded1e0664b1e2388b5e348448f7d9cff19b786f9158088cb2bd4809"), looks := true }, kinds := [], alts := [], laidByText := true, laidKinds := [.handle], laidTests := true, laidLooks := .later }
def IsolateEdgesCardSaid : Prop := Claim7.holds Tryd.pinned (.plain (OpenSpec.ofChange isolateEdgesSpec)) isolateEdgesCard

/-- THE TIED CARD OF 'testimonylaw.IsolateFinds'. -/
def isolateFindsCard : Claim7 := { stood := { row := isolateFindsRow, standIns := [], harness := (true, "6b43fac1bded1e0664b1e2388b5e348448f7d9cff19b786f9158088cb2bd4809"), looks := true }, kinds := [], alts := [], laidByText := true, laidKinds := [.handle], laidTests := true, laidLooks := .later }
def IsolateFindsCardSaid : Prop := Claim7.holds Tryd.pinned (.plain (OpenSpec.ofChange isolateFindsSpec)) isolateFindsCard

/-- THE TIED CARD OF 'testimonylaw.IsolateSerial'. -/
def isolateSerialCard : Claim7 := { stood := { row := isolateSerialRow, standIns := [], harness := (true, "6b43fac1bded1e0664b1e2388b5e348448f7d9cff19b786f9158088cb2bd4809"), looks := true }, kinds := [], alts := [], laidByText := true, laidKinds := [.handle], laidTests := true, laidLooks := .later }
def IsolateSerialCardSaid : Prop := Claim7.holds Tryd.pinned (.plain (OpenSpec.ofChange isolateSerialSpec)) isolateSerialCard

/-- THE SECOND FORM's CARD OF 'testimonylaw.IsolateEdges'. -/
def isolateEdgesUptoCard : Claim7 := { stood := { row := isolateEdgesUptoRow, standIns := [], harness := (true, "6b43fac1bded1e0664b1e2388b5e348448f7d9cff19b786f9158088cb2bd4809"), looks := true }, kinds := [], alts := [], laidByText := true, laidKinds := [.handle], laidTests := true, laidLooks := .later }
def IsolateEdgesUptoCardSaid : Prop := Claim7.holds Tryd.pinned (.plain (OpenSpec.upto isolateEdgesSpec)) isolateEdgesUptoCard

/-- THE SECOND FORM's CARD OF 'testimonylaw.IsolateFinds'. -/
def isolateFindsUptoCard : Claim7 := { stood := { row := isolateFindsUptoRow, standIns := [], harness := (true, "6b43fac1bded1e0664b1e2388b5e348448f7d9cff19b786f9158088cb2bd4809"), looks := true }, kinds := [], alts := [], laidByText := true, laidKinds := [.handle], laidTests := true, laidLooks := .later }
def IsolateFindsUptoCardSaid : Prop := Claim7.holds Tryd.pinned (.plain (OpenSpec.upto isolateFindsSpec)) isolateFindsUptoCard

/-- THE SECOND FORM's CARD OF 'testimonylaw.IsolateSerial'. -/
def isolateSerialUptoCard : Claim7 := { stood := { row := isolateSerialUptoRow, standIns := [], harness := (true, "6b43fac1bded1e0664b1e2388b5e348448f7d9cff19b786f9158088cb2bd4809"), looks := true }, kinds := [], alts := [], laidByText := true, laidKinds := [.handle], laidTests := true, laidLooks := .later }
def IsolateSerialUptoCardSaid : Prop := Claim7.holds Tryd.pinned (.plain (OpenSpec.upto isolateSerialSpec)) isolateSerialUptoCard
end Rows
end Go.Proofs.YtodanhjookgbeaaDoor
