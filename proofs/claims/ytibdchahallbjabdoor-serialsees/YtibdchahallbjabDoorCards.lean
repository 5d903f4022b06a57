/-
  DERIVED. GIVEN WITH THE SEED: THE CARDS: each row of YtibdchahallbjabDoorRows.lean that lists a variable, with what it lists TIED to the program's text (the seventh form; the later family's looks); each row that meets fmt, with fmt's text TOLD by the authors' own Lean function (tested against real Go, not proved from fmt's source: count such statements apart). THE CARD IS WHAT COUNTS. Prove the row's statement (the work); the ties are given (YtibdchahallbjabDoorTie.lean); close each card by the builder's one call (the guide's Derived/Test/ToyasCard.lean, 'card_holds'). Laid BY PROGRAM, IN A SANDBOX (cutbox-door.mjs). By AI agents, Wed Nov 11 2026. No macro, syntax, notation, axiom, sorry.
-/
import Derived.Test.YtibdchahallbjabDoorRows
import GoSem.ClaimSeven
namespace Go.Proofs.YtibdchahallbjabDoor
namespace Rows

/-- THE TIED CARD OF 'testimonylaw.SerialClashes'. -/
def serialClashesCard : Claim7 := { stood := { row := serialClashesRow, standIns := [], harness := (true, "2ba6903c70de88e158b4d0152d8ccce5c5d79fc1090afd0b3e6e3981f839bf13"), looks := true }, kinds := [], alts := [], laidByText := true, laidKinds := [.handle, .data], laidTests := true, laidLooks := .later }
def SerialClashesCardSaid : Prop := Claim7.holds Tryd.pinned (.plain (OpenSpec.ofChange serialClashesSpec)) serialClashesCard

/-- THE TIED CARD OF 'testimonylaw.SerialSees'. -/
def serialSeesCard : Claim7 := { stood := { row := serialSeesRow, standIns := [], harness := (true, "2ba6903c70de88e158b4d0152d8ccce5c5d79fc1090afd0b3e6e3981f839bf13"), looks := true }, kinds := [], alts := [], laidByText := true, laidKinds := [.handle, .data], laidTests := true, laidLooks := .later }
def SerialSeesCardSaid : Prop := Claim7.holds Tryd.pinned (.plain (OpenSpec.ofChange serialSeesSpec)) serialSeesCard

/-- THE TIED CARD OF 'testimonylaw.SerialCareful'. -/
def serialCarefulCard : Claim7 := { stood := { row := serialCarefulRow, standIns := [], harness := (true, "2ba6903c70de88e158b4d0152d8ccce5c5d79fc1090afd0b3e6e3981f839bf13"), looks := true }, kinds := [], alts := [], laidByText := true, laidKinds := [.handle, .data], laidTests := true, laidLooks := .later }
def SerialCarefulCardSaid : Prop := Claim7.holds Tryd.pinned (.plain (OpenSpec.ofChange serialCarefulSpec)) serialCarefulCard

/-- THE TIED CARD OF 'testimonykeep.SerialBernstein'. -/
def serialBernsteinCard : Claim7 := { stood := { row := serialBernsteinRow, standIns := [], harness := (true, "2ba6903c70de88e158b4d0152d8ccce5c5d79fc1090afd0b3e6e3981f839bf13"), looks := true }, kinds := [], alts := [], laidByText := true, laidKinds := [.handle], laidTests := true, laidLooks := .later }
def SerialBernsteinCardSaid : Prop := Claim7.holds Tryd.pinned (.plain (OpenSpec.ofChange serialBernsteinSpec)) serialBernsteinCard

/-- THE TIED CARD OF 'testimonykeep.SerialOne'. -/
def serialOneCard : Claim7 := { stood := { row := serialOneRow, standIns := [], harness := (true, "2ba6903c70de88e158b4d0152d8ccce5c5d79fc1090afd0b3e6e3981f839bf13"), looks := true }, kinds := [], alts := [], laidByText := true, laidKinds := [.handle], laidTests := true, laidLooks := .later }
def SerialOneCardSaid : Prop := Claim7.holds Tryd.pinned (.plain (OpenSpec.ofChange serialOneSpec)) serialOneCard

/-- THE TIED CARD OF 'testimonykeep.SerialKinds'. -/
def serialKindsCard : Claim7 := { stood := { row := serialKindsRow, standIns := [], harness := (true, "2ba6903c70de88e158b4d0152d8ccce5c5d79fc1090afd0b3e6e3981f839bf13"), looks := true }, kinds := [], alts := [], laidByText := true, laidKinds := [.handle], laidTests := true, laidLooks := .later }
def SerialKindsCardSaid : Prop := Claim7.holds Tryd.pinned (.plain (OpenSpec.ofChange serialKindsSpec)) serialKindsCard

/-- THE SECOND FORM's CARD OF 'testimonylaw.SerialClashes'. -/
def serialClashesUptoCard : Claim7 := { stood := { row := serialClashesUptoRow, standIns := [], harness := (true, "2ba6903c70de88e158b4d0152d8ccce5c5d79fc1090afd0b3e6e3981f839bf13"), looks := true }, kinds := [], alts := [], laidByText := true, laidKinds := [.handle, .data], laidTests := true, laidLooks := .later }
def SerialClashesUptoCardSaid : Prop := Claim7.holds Tryd.pinned (.plain (OpenSpec.upto serialClashesSpec)) serialClashesUptoCard

/-- THE SECOND FORM's CARD OF 'testimonylaw.SerialSees'. -/
def serialSeesUptoCard : Claim7 := { stood := { row := serialSeesUptoRow, standIns := [], harness := (true, "2ba6903c70de88e158b4d0152d8ccce5c5d79fc1090afd0b3e6e3981f839bf13"), looks := true }, kinds := [], alts := [], laidByText := true, laidKinds := [.handle, .data], laidTests := true, laidLooks := .later }
def SerialSeesUptoCardSaid : Prop := Claim7.holds Tryd.pinned (.plain (OpenSpec.upto serialSeesSpec)) serialSeesUptoCard

/-- THE SECOND FORM's CARD OF 'testimonylaw.SerialCareful'. -/
def serialCarefulUptoCard : Claim7 := { stood := { row := serialCarefulUptoRow, standIns := [], harness := (true, "2ba6903c70de88e158b4d0152d8ccce5c5d79fc1090afd0b3e6e3981f839bf13"), looks := true }, kinds := [], alts := [], laidByText := true, laidKinds := [.handle, .data], laidTests := true, laidLooks := .later }
def SerialCarefulUptoCardSaid : Prop := Claim7.holds Tryd.pinned (.plain (OpenSpec.upto serialCarefulSpec)) serialCarefulUptoCard

/-- THE SECOND FORM's CARD OF 'testimonykeep.SerialBernstein'. -/
def serialBernsteinUptoCard : Claim7 := { stood := { row := serialBernsteinUptoRow, standIns := [], harness := (true, "2ba6903c70de88e158b4d0152d8ccce5c5d79fc1090afd0b3e6e3981f839bf13"), looks := true }, kinds := [], alts := [], laidByText := true, laidKinds := [.handle], laidTests := true, laidLooks := .later }
def SerialBernsteinUptoCardSaid : Prop := Claim7.holds Tryd.pinned (.plain (OpenSpec.upto serialBernsteinSpec)) serialBernsteinUptoCard

/-- THE SECOND FORM's CARD OF 'testimonykeep.SerialOne'. -/
def serialOneUptoCard : Claim7 := { stood := { row := serialOneUptoRow, standIns := [], harness := (true, "2ba6903c70de88e158b4d0152d8ccce5c5d79fc1090afd0b3e6e3981f839bf13"), looks := true }, kinds := [], alts := [], laidByText := true, laidKinds := [.handle], laidTests := true, laidLooks := .later }
def SerialOneUptoCardSaid : Prop := Claim7.holds Tryd.pinned (.plain (OpenSpec.upto serialOneSpec)) serialOneUptoCard

/-- THE SECOND FORM's CARD OF 'testimonykeep.SerialKinds'. -/
def serialKindsUptoCard : Claim7 := { stood := { row := serialKindsUptoRow, standIns := [], harness := (true, "2ba6903c70de88e158b4d0152d8ccce5c5d79fc1090afd0b3e6e3981f839bf13"), looks := true }, kinds := [], alts := [], laidByText := true, laidKinds := [.handle], laidTests := true, laidLooks := .later }
def SerialKindsUptoCardSaid : Prop := Claim7.holds Tryd.pinned (.plain (OpenSpec.upto serialKindsSpec)) serialKindsUptoCard
end Rows
end Go.Proofs.YtibdchahallbjabDoor
