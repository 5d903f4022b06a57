/-
  DERIVED. GIVEN WITH THE SEED: THE CARDS: each row of YthphoiadhddggaaDoorRows.lean that lists a variable, with what it lists TIED to the program's text (the seventh form; the later family's looks); each row that meets fmt, with fmt's text TOLD by the authors' own Lean function (tested against real Go, not proved from fmt's source: count such statements apart). THE CARD IS WHAT COUNTS. Prove the row's statement (the work); the ties are given (YthphoiadhddggaaDoorTie.lean); close each card by the builder's one call (the guide's Derived/Test/ToyasCard.lean, 'card_holds'). Laid BY PROGRAM, IN A SANDBOX (cutbox-door.mjs). By AI agents, Wed Nov 11 2026. No macro, syntax, notation, axiom, sorry.
-/
import Derived.Test.YthphoiadhddggaaDoorRows
import GoSem.ClaimSeven
namespace Go.Proofs.YthphoiadhddggaaDoor
namespace Rows

/-- THE TIED CARD OF 'testimonylaw.MergeCounts'. -/
def mergeCountsCard : Claim7 := { stood := { row := mergeCountsRow, standIns := [], harness := (true, "f268e1ad803387b3e982431d90d7bcc5db7393cec3ea4f67ef8f8d429996c9a3"), looks := true }, kinds := [], alts := [], laidByText := true, laidKinds := [.handle], laidTests := true, laidLooks := .later }
def MergeCountsCardSaid : Prop := Claim7.holds Tryd.pinned (.plain (OpenSpec.ofChange mergeCountsSpec)) mergeCountsCard

/-- THE TIED CARD OF 'testimonylaw.MergeThings'. -/
def mergeThingsCard : Claim7 := { stood := { row := mergeThingsRow, standIns := [], harness := (true, "f268e1ad803387b3e982431d90d7bcc5db7393cec3ea4f67ef8f8d429996c9a3"), looks := true }, kinds := [], alts := [], laidByText := true, laidKinds := [.handle], laidTests := true, laidLooks := .later }
def MergeThingsCardSaid : Prop := Claim7.holds Tryd.pinned (.plain (OpenSpec.ofChange mergeThingsSpec)) mergeThingsCard

/-- THE SECOND FORM's CARD OF 'testimonylaw.MergeCounts'. -/
def mergeCountsUptoCard : Claim7 := { stood := { row := mergeCountsUptoRow, standIns := [], harness := (true, "f268e1ad803387b3e982431d90d7bcc5db7393cec3ea4f67ef8f8d429996c9a3"), looks := true }, kinds := [], alts := [], laidByText := true, laidKinds := [.handle], laidTests := true, laidLooks := .later }
def MergeCountsUptoCardSaid : Prop := Claim7.holds Tryd.pinned (.plain (OpenSpec.upto mergeCountsSpec)) mergeCountsUptoCard

/-- THE SECOND FORM's CARD OF 'testimonylaw.MergeThings'. -/
def mergeThingsUptoCard : Claim7 := { stood := { row := mergeThingsUptoRow, standIns := [], harness := (true, "f268e1ad803387b3e982431d90d7bcc5db7393cec3ea4f67ef8f8d429996c9a3"), looks := true }, kinds := [], alts := [], laidByText := true, laidKinds := [.handle], laidTests := true, laidLooks := .later }
def MergeThingsUptoCardSaid : Prop := Claim7.holds Tryd.pinned (.plain (OpenSpec.upto mergeThingsSpec)) mergeThingsUptoCard
end Rows
end Go.Proofs.YthphoiadhddggaaDoor
