/-
  DERIVED. GIVEN WITH THE SEED: THE CARDS: each row of YtaopigjhdkdklaaDoorRows.lean that lists a variable, with what it lists TIED to the program's text (the seventh form; the later family's looks); each row that meets fmt, with fmt's text TOLD by the authors' own Lean function (tested against real Go, not proved from fmt's source: count such statements apart). THE CARD IS WHAT COUNTS. Prove the row's statement (the work); the ties are given (YtaopigjhdkdklaaDoorTie.lean); close each card by the builder's one call (the guide's Derived/Test/ToyasCard.lean, 'card_holds'). Laid BY PROGRAM, IN A SANDBOX (cutbox-door.mjs). By AI agents, Wed Nov 11 2026. No macro, syntax, notation, axiom, sorry.
-/
import Derived.Test.YtaopigjhdkdklaaDoorRows
import GoSem.ClaimSeven
namespace Go.Proofs.YtaopigjhdkdklaaDoor
namespace Rows

/-- THE TIED CARD OF 'testimonylaw.MvccPlays'. -/
def mvccPlaysCard : Claim7 := { stood := { row := mvccPlaysRow, standIns := [], harness := (true, "3943887e10407429c4efe6698c5e4d830bbba6ba1d57c8eabd7a7be0853d88c5"), looks := true }, kinds := [], alts := [], laidByText := true, laidKinds := [.handle], laidTests := true, laidLooks := .later }
def MvccPlaysCardSaid : Prop := Claim7.holds Tryd.pinned (.plain (OpenSpec.ofChange mvccPlaysSpec)) mvccPlaysCard

/-- THE TIED CARD OF 'testimonykeep.MvccSnapshot'. -/
def mvccSnapshotCard : Claim7 := { stood := { row := mvccSnapshotRow, standIns := [], harness := (true, "3943887e10407429c4efe6698c5e4d830bbba6ba1d57c8eabd7a7be0853d88c5"), looks := true }, kinds := [], alts := [], laidByText := true, laidKinds := [.handle], laidTests := true, laidLooks := .later }
def MvccSnapshotCardSaid : Prop := Claim7.holds Tryd.pinned (.plain (OpenSpec.ofChange mvccSnapshotSpec)) mvccSnapshotCard

/-- THE TIED CARD OF 'testimonykeep.MvccFekete'. -/
def mvccFeketeCard : Claim7 := { stood := { row := mvccFeketeRow, standIns := [], harness := (true, "3943887e10407429c4efe6698c5e4d830bbba6ba1d57c8eabd7a7be0853d88c5"), looks := true }, kinds := [], alts := [], laidByText := true, laidKinds := [.handle], laidTests := true, laidLooks := .later }
def MvccFeketeCardSaid : Prop := Claim7.holds Tryd.pinned (.plain (OpenSpec.ofChange mvccFeketeSpec)) mvccFeketeCard

/-- THE TIED CARD OF 'testimonykeep.MvccCareful'. -/
def mvccCarefulCard : Claim7 := { stood := { row := mvccCarefulRow, standIns := [], harness := (true, "3943887e10407429c4efe6698c5e4d830bbba6ba1d57c8eabd7a7be0853d88c5"), looks := true }, kinds := [], alts := [], laidByText := true, laidKinds := [.handle], laidTests := true, laidLooks := .later }
def MvccCarefulCardSaid : Prop := Claim7.holds Tryd.pinned (.plain (OpenSpec.ofChange mvccCarefulSpec)) mvccCarefulCard

/-- THE TIED CARD OF 'testimonykeep.MvccFirst'. -/
def mvccFirstCard : Claim7 := { stood := { row := mvccFirstRow, standIns := [], harness := (true, "3943887e10407429c4efe6698c5e4d830bbba6ba1d57c8eabd7a7be0853d88c5"), looks := true }, kinds := [], alts := [], laidByText := true, laidKinds := [.handle], laidTests := true, laidLooks := .later }
def MvccFirstCardSaid : Prop := Claim7.holds Tryd.pinned (.plain (OpenSpec.ofChange mvccFirstSpec)) mvccFirstCard

/-- THE SECOND FORM's CARD OF 'testimonylaw.MvccPlays'. -/
def mvccPlaysUptoCard : Claim7 := { stood := { row := mvccPlaysUptoRow, standIns := [], harness := (true, "3943887e10407429c4efe6698c5e4d830bbba6ba1d57c8eabd7a7be0853d88c5"), looks := true }, kinds := [], alts := [], laidByText := true, laidKinds := [.handle], laidTests := true, laidLooks := .later }
def MvccPlaysUptoCardSaid : Prop := Claim7.holds Tryd.pinned (.plain (OpenSpec.upto mvccPlaysSpec)) mvccPlaysUptoCard

/-- THE SECOND FORM's CARD OF 'testimonykeep.MvccSnapshot'. -/
def mvccSnapshotUptoCard : Claim7 := { stood := { row := mvccSnapshotUptoRow, standIns := [], harness := (true, "3943887e10407429c4efe6698c5e4d830bbba6ba1d57c8eabd7a7be0853d88c5"), looks := true }, kinds := [], alts := [], laidByText := true, laidKinds := [.handle], laidTests := true, laidLooks := .later }
def MvccSnapshotUptoCardSaid : Prop := Claim7.holds Tryd.pinned (.plain (OpenSpec.upto mvccSnapshotSpec)) mvccSnapshotUptoCard

/-- THE SECOND FORM's CARD OF 'testimonykeep.MvccFekete'. -/
def mvccFeketeUptoCard : Claim7 := { stood := { row := mvccFeketeUptoRow, standIns := [], harness := (true, "3943887e10407429c4efe6698c5e4d830bbba6ba1d57c8eabd7a7be0853d88c5"), looks := true }, kinds := [], alts := [], laidByText := true, laidKinds := [.handle], laidTests := true, laidLooks := .later }
def MvccFeketeUptoCardSaid : Prop := Claim7.holds Tryd.pinned (.plain (OpenSpec.upto mvccFeketeSpec)) mvccFeketeUptoCard

/-- THE SECOND FORM's CARD OF 'testimonykeep.MvccCareful'. -/
def mvccCarefulUptoCard : Claim7 := { stood := { row := mvccCarefulUptoRow, standIns := [], harness := (true, "3943887e10407429c4efe6698c5e4d830bbba6ba1d57c8eabd7a7be0853d88c5"), looks := true }, kinds := [], alts := [], laidByText := true, laidKinds := [.handle], laidTests := true, laidLooks := .later }
def MvccCarefulUptoCardSaid : Prop := Claim7.holds Tryd.pinned (.plain (OpenSpec.upto mvccCarefulSpec)) mvccCarefulUptoCard

/-- THE SECOND FORM's CARD OF 'testimonykeep.MvccFirst'. -/
def mvccFirstUptoCard : Claim7 := { stood := { row := mvccFirstUptoRow, standIns := [], harness := (true, "3943887e10407429c4efe6698c5e4d830bbba6ba1d57c8eabd7a7be0853d88c5"), looks := true }, kinds := [], alts := [], laidByText := true, laidKinds := [.handle], laidTests := true, laidLooks := .later }
def MvccFirstUptoCardSaid : Prop := Claim7.holds Tryd.pinned (.plain (OpenSpec.upto mvccFirstSpec)) mvccFirstUptoCard
end Rows
end Go.Proofs.YtaopigjhdkdklaaDoor
