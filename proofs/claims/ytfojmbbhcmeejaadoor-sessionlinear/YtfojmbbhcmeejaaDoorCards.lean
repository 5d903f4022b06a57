/-
  DERIVED. GIVEN WITH THE SEED: THE CARDS: each row of YtfojmbbhcmeejaaDoorRows.lean that lists a variable, with what it lists TIED to the program's text (the seventh form; the later family's looks); each row that meets fmt, with fmt's text TOLD by the authors' own Lean function (tested against real Go, not proved from fmt's source: count such statements apart). THE CARD IS WHAT COUNTS. Prove the row's statement (the work); the ties are given (YtfojmbbhcmeejaaDoorTie.lean); close each card by the builder's one call (the guide's Derived/Test/ToyasCard.lean, 'card_holds'). Laid BY PROGRAM, IN A SANDBOX (cutbox-door.mjs). By AI agents, Wed Nov 11 2026. No macro, syntax, notation, axiom, sorry.
-/
import Derived.Test.YtfojmbbhcmeejaaDoorRows
import GoSem.ClaimSeven
namespace Go.Proofs.YtfojmbbhcmeejaaDoor
namespace Rows

/-- THE TIED CARD OF 'testimonylaw.CausalAhead'. -/
def causalAheadCard : Claim7 := { stood := { row := causalAheadRow, standIns := [], harness := (true, "1f5e464250b3f87e593a63df641df243162c05bdd0ab05794c31a5657d812f86"), looks := true }, kinds := [], alts := [], laidByText := true, laidKinds := [.handle], laidTests := true, laidLooks := .later }
def CausalAheadCardSaid : Prop := Claim7.holds Tryd.pinned (.plain (OpenSpec.ofChange causalAheadSpec)) causalAheadCard

/-- THE TIED CARD OF 'testimonylaw.CausalFinds'. -/
def causalFindsCard : Claim7 := { stood := { row := causalFindsRow, standIns := [], harness := (true, "1f5e464250b3f87e593a63df641df243162c05bdd0ab05794c31a5657d812f86"), looks := true }, kinds := [], alts := [], laidByText := true, laidKinds := [.handle], laidTests := true, laidLooks := .later }
def CausalFindsCardSaid : Prop := Claim7.holds Tryd.pinned (.plain (OpenSpec.ofChange causalFindsSpec)) causalFindsCard

/-- THE TIED CARD OF 'testimonykeep.CausalWeaker'. -/
def causalWeakerCard : Claim7 := { stood := { row := causalWeakerRow, standIns := [], harness := (true, "1f5e464250b3f87e593a63df641df243162c05bdd0ab05794c31a5657d812f86"), looks := true }, kinds := [], alts := [], laidByText := true, laidKinds := [.data, .data, .data, .data], laidTests := true, laidLooks := .later }
def CausalWeakerCardSaid : Prop := Claim7.holds Tryd.pinned (.plain (OpenSpec.ofChange causalWeakerSpec)) causalWeakerCard

/-- THE TIED CARD OF 'testimonykeep.CausalOrder'. -/
def causalOrderCard : Claim7 := { stood := { row := causalOrderRow, standIns := [], harness := (true, "1f5e464250b3f87e593a63df641df243162c05bdd0ab05794c31a5657d812f86"), looks := true }, kinds := [], alts := [], laidByText := true, laidKinds := [.data, .data, .data, .data], laidTests := true, laidLooks := .later }
def CausalOrderCardSaid : Prop := Claim7.holds Tryd.pinned (.plain (OpenSpec.ofChange causalOrderSpec)) causalOrderCard

/-- THE TIED CARD OF 'testimonylaw.SessionBroken'. -/
def sessionBrokenCard : Claim7 := { stood := { row := sessionBrokenRow, standIns := [], harness := (true, "1f5e464250b3f87e593a63df641df243162c05bdd0ab05794c31a5657d812f86"), looks := true }, kinds := [], alts := [], laidByText := true, laidKinds := [.handle], laidTests := true, laidLooks := .later }
def SessionBrokenCardSaid : Prop := Claim7.holds Tryd.pinned (.plain (OpenSpec.ofChange sessionBrokenSpec)) sessionBrokenCard

/-- THE TIED CARD OF 'testimonykeep.SessionLinear'. -/
def sessionLinearCard : Claim7 := { stood := { row := sessionLinearRow, standIns := [], harness := (true, "1f5e464250b3f87e593a63df641df243162c05bdd0ab05794c31a5657d812f86"), looks := true }, kinds := [], alts := [], laidByText := true, laidKinds := [.data, .data, .data, .data], laidTests := true, laidLooks := .later }
def SessionLinearCardSaid : Prop := Claim7.holds Tryd.pinned (.plain (OpenSpec.ofChange sessionLinearSpec)) sessionLinearCard

/-- THE SECOND FORM's CARD OF 'testimonylaw.CausalAhead'. -/
def causalAheadUptoCard : Claim7 := { stood := { row := causalAheadUptoRow, standIns := [], harness := (true, "1f5e464250b3f87e593a63df641df243162c05bdd0ab05794c31a5657d812f86"), looks := true }, kinds := [], alts := [], laidByText := true, laidKinds := [.handle], laidTests := true, laidLooks := .later }
def CausalAheadUptoCardSaid : Prop := Claim7.holds Tryd.pinned (.plain (OpenSpec.upto causalAheadSpec)) causalAheadUptoCard

/-- THE SECOND FORM's CARD OF 'testimonylaw.CausalFinds'. -/
def causalFindsUptoCard : Claim7 := { stood := { row := causalFindsUptoRow, standIns := [], harness := (true, "1f5e464250b3f87e593a63df641df243162c05bdd0ab05794c31a5657d812f86"), looks := true }, kinds := [], alts := [], laidByText := true, laidKinds := [.handle], laidTests := true, laidLooks := .later }
def CausalFindsUptoCardSaid : Prop := Claim7.holds Tryd.pinned (.plain (OpenSpec.upto causalFindsSpec)) causalFindsUptoCard

/-- THE SECOND FORM's CARD OF 'testimonykeep.CausalWeaker'. -/
def causalWeakerUptoCard : Claim7 := { stood := { row := causalWeakerUptoRow, standIns := [], harness := (true, "1f5e464250b3f87e593a63df641df243162c05bdd0ab05794c31a5657d812f86"), looks := true }, kinds := [], alts := [], laidByText := true, laidKinds := [.data, .data, .data, .data], laidTests := true, laidLooks := .later }
def CausalWeakerUptoCardSaid : Prop := Claim7.holds Tryd.pinned (.plain (OpenSpec.upto causalWeakerSpec)) causalWeakerUptoCard

/-- THE SECOND FORM's CARD OF 'testimonykeep.CausalOrder'. -/
def causalOrderUptoCard : Claim7 := { stood := { row := causalOrderUptoRow, standIns := [], harness := (true, "1f5e464250b3f87e593a63df641df243162c05bdd0ab05794c31a5657d812f86"), looks := true }, kinds := [], alts := [], laidByText := true, laidKinds := [.data, .data, .data, .data], laidTests := true, laidLooks := .later }
def CausalOrderUptoCardSaid : Prop := Claim7.holds Tryd.pinned (.plain (OpenSpec.upto causalOrderSpec)) causalOrderUptoCard

/-- THE SECOND FORM's CARD OF 'testimonylaw.SessionBroken'. -/
def sessionBrokenUptoCard : Claim7 := { stood := { row := sessionBrokenUptoRow, standIns := [], harness := (true, "1f5e464250b3f87e593a63df641df243162c05bdd0ab05794c31a5657d812f86"), looks := true }, kinds := [], alts := [], laidByText := true, laidKinds := [.handle], laidTests := true, laidLooks := .later }
def SessionBrokenUptoCardSaid : Prop := Claim7.holds Tryd.pinned (.plain (OpenSpec.upto sessionBrokenSpec)) sessionBrokenUptoCard

/-- THE SECOND FORM's CARD OF 'testimonykeep.SessionLinear'. -/
def sessionLinearUptoCard : Claim7 := { stood := { row := sessionLinearUptoRow, standIns := [], harness := (true, "1f5e464250b3f87e593a63df641df243162c05bdd0ab05794c31a5657d812f86"), looks := true }, kinds := [], alts := [], laidByText := true, laidKinds := [.data, .data, .data, .data], laidTests := true, laidLooks := .later }
def SessionLinearUptoCardSaid : Prop := Claim7.holds Tryd.pinned (.plain (OpenSpec.upto sessionLinearSpec)) sessionLinearUptoCard
end Rows
end Go.Proofs.YtfojmbbhcmeejaaDoor
