/-
  DERIVED. GIVEN WITH THE SEED: THE CARDS: each row of YtelndpbkheoeaaaDoorRows.lean that lists a variable, with what it lists TIED to the program's text (the seventh form; the later family's looks); each row that meets fmt, with fmt's text TOLD by the authors' own Lean function (tested against real Go, not proved from fmt's source: count such statements apart). THE CARD IS WHAT COUNTS. Prove the row's statement (the work); the ties are given (YtelndpbkheoeaaaDoorTie.lean); close each card by the builder's one call (the guide's Derived/Test/ToyasCard.lean, 'card_holds'). Laid BY PROGRAM, IN A SANDBOX (cutbox-door.mjs). By AI agents, Wed Nov 11 2026. No macro, syntax, notation, axiom, sorry.
-/
import Derived.Test.YtelndpbkheoeaaaDoorRows
import GoSem.ClaimSeven
namespace Go.Proofs.YtelndpbkheoeaaaDoor
namespace Rows

/-- THE TIED CARD OF 'testimonylaw.ZoneZones'. -/
def zoneZonesCard : Claim7 := { stood := { row := zoneZonesRow, standIns := [], harness := (true, "162d809aa49b4a21e096bb0feb798f8ae4d354a1fb249d60faa3134ac372b6ba"), looks := true }, kinds := [], alts := [], laidByText := true, laidKinds := [.handle], laidTests := true, laidLooks := .later }
def ZoneZonesCardSaid : Prop := Claim7.holds Tryd.pinned (.plain (OpenSpec.ofChange zoneZonesSpec)) zoneZonesCard

/-- THE TIED CARD OF 'testimonylaw.ZoneFits'. -/
def zoneFitsCard : Claim7 := { stood := { row := zoneFitsRow, standIns := [], harness := (true, "162d809aa49b4a21e096bb0feb798f8ae4d354a1fb249d60faa3134ac372b6ba"), looks := true }, kinds := [], alts := [], laidByText := true, laidKinds := [.handle], laidTests := true, laidLooks := .later }
def ZoneFitsCardSaid : Prop := Claim7.holds Tryd.pinned (.plain (OpenSpec.ofChange zoneFitsSpec)) zoneFitsCard

/-- THE TIED CARD OF 'testimonylaw.QueueFinds'. -/
def queueFindsCard : Claim7 := { stood := { row := queueFindsRow, standIns := [], harness := (true, "162d809aa49b4a21e096bb0feb798f8ae4d354a1fb249d60faa3134ac372b6ba"), looks := true }, kinds := [], alts := [], laidByText := true, laidKinds := [.handle], laidTests := true, laidLooks := .later }
def QueueFindsCardSaid : Prop := Claim7.holds Tryd.pinned (.plain (OpenSpec.ofChange queueFindsSpec)) queueFindsCard

/-- THE TIED CARD OF 'testimonykeep.QueueBad'. -/
def queueBadCard : Claim7 := { stood := { row := queueBadRow, standIns := [], harness := (true, "162d809aa49b4a21e096bb0feb798f8ae4d354a1fb249d60faa3134ac372b6ba"), looks := true }, kinds := [], alts := [], laidByText := true, laidKinds := [.data, .data, .data, .data], laidTests := true, laidLooks := .later }
def QueueBadCardSaid : Prop := Claim7.holds Tryd.pinned (.plain (OpenSpec.ofChange queueBadSpec)) queueBadCard

/-- THE SECOND FORM's CARD OF 'testimonylaw.ZoneZones'. -/
def zoneZonesUptoCard : Claim7 := { stood := { row := zoneZonesUptoRow, standIns := [], harness := (true, "162d809aa49b4a21e096bb0feb798f8ae4d354a1fb249d60faa3134ac372b6ba"), looks := true }, kinds := [], alts := [], laidByText := true, laidKinds := [.handle], laidTests := true, laidLooks := .later }
def ZoneZonesUptoCardSaid : Prop := Claim7.holds Tryd.pinned (.plain (OpenSpec.upto zoneZonesSpec)) zoneZonesUptoCard

/-- THE SECOND FORM's CARD OF 'testimonylaw.ZoneFits'. -/
def zoneFitsUptoCard : Claim7 := { stood := { row := zoneFitsUptoRow, standIns := [], harness := (true, "162d809aa49b4a21e096bb0feb798f8ae4d354a1fb249d60faa3134ac372b6ba"), looks := true }, kinds := [], alts := [], laidByText := true, laidKinds := [.handle], laidTests := true, laidLooks := .later }
def ZoneFitsUptoCardSaid : Prop := Claim7.holds Tryd.pinned (.plain (OpenSpec.upto zoneFitsSpec)) zoneFitsUptoCard

/-- THE SECOND FORM's CARD OF 'testimonylaw.QueueFinds'. -/
def queueFindsUptoCard : Claim7 := { stood := { row := queueFindsUptoRow, standIns := [], harness := (true, "162d809aa49b4a21e096bb0feb798f8ae4d354a1fb249d60faa3134ac372b6ba"), looks := true }, kinds := [], alts := [], laidByText := true, laidKinds := [.handle], laidTests := true, laidLooks := .later }
def QueueFindsUptoCardSaid : Prop := Claim7.holds Tryd.pinned (.plain (OpenSpec.upto queueFindsSpec)) queueFindsUptoCard

/-- THE SECOND FORM's CARD OF 'testimonykeep.QueueBad'. -/
def queueBadUptoCard : Claim7 := { stood := { row := queueBadUptoRow, standIns := [], harness := (true, "162d809aa49b4a21e096bb0feb798f8ae4d354a1fb249d60faa3134ac372b6ba"), looks := true }, kinds := [], alts := [], laidByText := true, laidKinds := [.data, .data, .data, .data], laidTests := true, laidLooks := .later }
def QueueBadUptoCardSaid : Prop := Claim7.holds Tryd.pinned (.plain (OpenSpec.upto queueBadSpec)) queueBadUptoCard
end Rows
end Go.Proofs.YtelndpbkheoeaaaDoor
