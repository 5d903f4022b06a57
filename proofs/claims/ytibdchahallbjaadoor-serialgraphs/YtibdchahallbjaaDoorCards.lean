/-
  DERIVED. GIVEN WITH THE SEED: THE CARDS: each row of YtibdchahallbjaaDoorRows.lean that lists a variable, with what it lists TIED to the program's text (the seventh form; the later family's looks); each row that meets fmt, with fmt's text TOLD by the authors' own Lean function (tested against real Go, not proved from fmt's source: count such statements apart). THE CARD IS WHAT COUNTS. Prove the row's statement (the work); the ties are given (YtibdchahallbjaaDoorTie.lean); close each card by the builder's one call (the guide's Derived/Test/ToyasCard.lean, 'card_holds'). Laid BY PROGRAM, IN A SANDBOX (cutbox-door.mjs). By AI agents, Wed Nov 11 2026. No macro, syntax, notation, axiom, sorry.
-/
import Derived.Test.YtibdchahallbjaaDoorRows
import GoSem.ClaimSeven
namespace Go.Proofs.YtibdchahallbjaaDoor
namespace Rows

/-- THE TIED CARD OF 'testimonylaw.GraphOrders'. -/
def graphOrdersCard : Claim7 := { stood := { row := graphOrdersRow, standIns := [], harness := (true, "02acc4ec9df102f372df9cf145256d8a081a71a006701f840b845c60407eeffc"), looks := true }, kinds := [], alts := [], laidByText := true, laidKinds := [.handle], laidTests := true, laidLooks := .later }
def GraphOrdersCardSaid : Prop := Claim7.holds Tryd.pinned (.plain (OpenSpec.ofChange graphOrdersSpec)) graphOrdersCard

/-- THE TIED CARD OF 'testimonylaw.GraphCycles'. -/
def graphCyclesCard : Claim7 := { stood := { row := graphCyclesRow, standIns := [], harness := (true, "02acc4ec9df102f372df9cf145256d8a081a71a006701f840b845c60407eeffc"), looks := true }, kinds := [], alts := [], laidByText := true, laidKinds := [.handle], laidTests := true, laidLooks := .later }
def GraphCyclesCardSaid : Prop := Claim7.holds Tryd.pinned (.plain (OpenSpec.ofChange graphCyclesSpec)) graphCyclesCard

/-- THE TIED CARD OF 'testimonylaw.GraphCloses'. -/
def graphClosesCard : Claim7 := { stood := { row := graphClosesRow, standIns := [], harness := (true, "02acc4ec9df102f372df9cf145256d8a081a71a006701f840b845c60407eeffc"), looks := true }, kinds := [], alts := [], laidByText := true, laidKinds := [.handle], laidTests := true, laidLooks := .later }
def GraphClosesCardSaid : Prop := Claim7.holds Tryd.pinned (.plain (OpenSpec.ofChange graphClosesSpec)) graphClosesCard

/-- THE TIED CARD OF 'testimonykeep.GraphEither'. -/
def graphEitherCard : Claim7 := { stood := { row := graphEitherRow, standIns := [], harness := (true, "02acc4ec9df102f372df9cf145256d8a081a71a006701f840b845c60407eeffc"), looks := true }, kinds := [], alts := [], laidByText := true, laidKinds := [.handle], laidTests := true, laidLooks := .later }
def GraphEitherCardSaid : Prop := Claim7.holds Tryd.pinned (.plain (OpenSpec.ofChange graphEitherSpec)) graphEitherCard

/-- THE TIED CARD OF 'testimonylaw.SerialChecks'. -/
def serialChecksCard : Claim7 := { stood := { row := serialChecksRow, standIns := [], harness := (true, "02acc4ec9df102f372df9cf145256d8a081a71a006701f840b845c60407eeffc"), looks := true }, kinds := [], alts := [], laidByText := true, laidKinds := [.handle, .data], laidTests := true, laidLooks := .later }
def SerialChecksCardSaid : Prop := Claim7.holds Tryd.pinned (.plain (OpenSpec.ofChange serialChecksSpec)) serialChecksCard

/-- THE TIED CARD OF 'testimonylaw.SerialGraphs'. -/
def serialGraphsCard : Claim7 := { stood := { row := serialGraphsRow, standIns := [], harness := (true, "02acc4ec9df102f372df9cf145256d8a081a71a006701f840b845c60407eeffc"), looks := true }, kinds := [], alts := [], laidByText := true, laidKinds := [.handle, .data], laidTests := true, laidLooks := .later }
def SerialGraphsCardSaid : Prop := Claim7.holds Tryd.pinned (.plain (OpenSpec.ofChange serialGraphsSpec)) serialGraphsCard

/-- THE SECOND FORM's CARD OF 'testimonylaw.GraphOrders'. -/
def graphOrdersUptoCard : Claim7 := { stood := { row := graphOrdersUptoRow, standIns := [], harness := (true, "02acc4ec9df102f372df9cf145256d8a081a71a006701f840b845c60407eeffc"), looks := true }, kinds := [], alts := [], laidByText := true, laidKinds := [.handle], laidTests := true, laidLooks := .later }
def GraphOrdersUptoCardSaid : Prop := Claim7.holds Tryd.pinned (.plain (OpenSpec.upto graphOrdersSpec)) graphOrdersUptoCard

/-- THE SECOND FORM's CARD OF 'testimonylaw.GraphCycles'. -/
def graphCyclesUptoCard : Claim7 := { stood := { row := graphCyclesUptoRow, standIns := [], harness := (true, "02acc4ec9df102f372df9cf145256d8a081a71a006701f840b845c60407eeffc"), looks := true }, kinds := [], alts := [], laidByText := true, laidKinds := [.handle], laidTests := true, laidLooks := .later }
def GraphCyclesUptoCardSaid : Prop := Claim7.holds Tryd.pinned (.plain (OpenSpec.upto graphCyclesSpec)) graphCyclesUptoCard

/-- THE SECOND FORM's CARD OF 'testimonylaw.GraphCloses'. -/
def graphClosesUptoCard : Claim7 := { stood := { row := graphClosesUptoRow, standIns := [], harness := (true, "02acc4ec9df102f372df9cf145256d8a081a71a006701f840b845c60407eeffc"), looks := true }, kinds := [], alts := [], laidByText := true, laidKinds := [.handle], laidTests := true, laidLooks := .later }
def GraphClosesUptoCardSaid : Prop := Claim7.holds Tryd.pinned (.plain (OpenSpec.upto graphClosesSpec)) graphClosesUptoCard

/-- THE SECOND FORM's CARD OF 'testimonykeep.GraphEither'. -/
def graphEitherUptoCard : Claim7 := { stood := { row := graphEitherUptoRow, standIns := [], harness := (true, "02acc4ec9df102f372df9cf145256d8a081a71a006701f840b845c60407eeffc"), looks := true }, kinds := [], alts := [], laidByText := true, laidKinds := [.handle], laidTests := true, laidLooks := .later }
def GraphEitherUptoCardSaid : Prop := Claim7.holds Tryd.pinned (.plain (OpenSpec.upto graphEitherSpec)) graphEitherUptoCard

/-- THE SECOND FORM's CARD OF 'testimonylaw.SerialChecks'. -/
def serialChecksUptoCard : Claim7 := { stood := { row := serialChecksUptoRow, standIns := [], harness := (true, "02acc4ec9df102f372df9cf145256d8a081a71a006701f840b845c60407eeffc"), looks := true }, kinds := [], alts := [], laidByText := true, laidKinds := [.handle, .data], laidTests := true, laidLooks := .later }
def SerialChecksUptoCardSaid : Prop := Claim7.holds Tryd.pinned (.plain (OpenSpec.upto serialChecksSpec)) serialChecksUptoCard

/-- THE SECOND FORM's CARD OF 'testimonylaw.SerialGraphs'. -/
def serialGraphsUptoCard : Claim7 := { stood := { row := serialGraphsUptoRow, standIns := [], harness := (true, "02acc4ec9df102f372df9cf145256d8a081a71a006701f840b845c60407eeffc"), looks := true }, kinds := [], alts := [], laidByText := true, laidKinds := [.handle, .data], laidTests := true, laidLooks := .later }
def SerialGraphsUptoCardSaid : Prop := Claim7.holds Tryd.pinned (.plain (OpenSpec.upto serialGraphsSpec)) serialGraphsUptoCard
end Rows
end Go.Proofs.YtibdchahallbjaaDoor
