/-
  DERIVED. GIVEN WITH THE SEED: THE CARDS: each row of YtggdjongbmdefaaDoorRows.lean that lists a variable, with what it lists TIED to the program's text (the seventh form; the later family's looks); each row that meets fmt, with fmt's text TOLD by the authors' own Lean function (tested against real Go, not proved from fmt's source: count such statements apart). THE CARD IS WHAT COUNTS. Prove the row's statement (the work); the ties are given (YtggdjongbmdefaaDoorTie.lean); close each card by the builder's one call (the guide's Derived/Test/ToyasCard.lean, 'card_holds'). Laid BY PROGRAM, IN A SANDBOX (cutbox-door.mjs). By AI agents, Wed Nov 11 2026. No macro, syntax, notation, axiom, sorry.
-/
import Derived.Test.YtggdjongbmdefaaDoorRows
import GoSem.ClaimSeven
namespace Go.Proofs.YtggdjongbmdefaaDoor
namespace Rows

/-- THE TIED CARD OF 'testimonylaw.NetLinks'. -/
def netLinksCard : Claim7 := { stood := { row := netLinksRow, standIns := [], harness := (true, "44c42505a22ae5b05fb7d48d997a7dba4241d82d87880f16b1510ca1073980e5"), looks := true }, kinds := [], alts := [], laidByText := true, laidKinds := [.handle], laidTests := true, laidLooks := .later }
def NetLinksCardSaid : Prop := Claim7.holds Tryd.pinned (.plain (OpenSpec.ofChange netLinksSpec)) netLinksCard

/-- THE TIED CARD OF 'testimonylaw.NetPlays'. -/
def netPlaysCard : Claim7 := { stood := { row := netPlaysRow, standIns := [], harness := (true, "44c42505a22ae5b05fb7d48d997a7dba4241d82d87880f16b1510ca1073980e5"), looks := true }, kinds := [], alts := [], laidByText := true, laidKinds := [.handle], laidTests := true, laidLooks := .later }
def NetPlaysCardSaid : Prop := Claim7.holds Tryd.pinned (.plain (OpenSpec.ofChange netPlaysSpec)) netPlaysCard

/-- THE TIED CARD OF 'testimonylaw.StoreSetups'. -/
def storeSetupsCard : Claim7 := { stood := { row := storeSetupsRow, standIns := [], harness := (true, "44c42505a22ae5b05fb7d48d997a7dba4241d82d87880f16b1510ca1073980e5"), looks := true }, kinds := [], alts := [], laidByText := true, laidKinds := [.handle], laidTests := true, laidLooks := .later }
def StoreSetupsCardSaid : Prop := Claim7.holds Tryd.pinned (.plain (OpenSpec.ofChange storeSetupsSpec)) storeSetupsCard

/-- THE SECOND FORM's CARD OF 'testimonylaw.NetLinks'. -/
def netLinksUptoCard : Claim7 := { stood := { row := netLinksUptoRow, standIns := [], harness := (true, "44c42505a22ae5b05fb7d48d997a7dba4241d82d87880f16b1510ca1073980e5"), looks := true }, kinds := [], alts := [], laidByText := true, laidKinds := [.handle], laidTests := true, laidLooks := .later }
def NetLinksUptoCardSaid : Prop := Claim7.holds Tryd.pinned (.plain (OpenSpec.upto netLinksSpec)) netLinksUptoCard

/-- THE SECOND FORM's CARD OF 'testimonylaw.NetPlays'. -/
def netPlaysUptoCard : Claim7 := { stood := { row := netPlaysUptoRow, standIns := [], harness := (true, "44c42505a22ae5b05fb7d48d997a7dba4241d82d87880f16b1510ca1073980e5"), looks := true }, kinds := [], alts := [], laidByText := true, laidKinds := [.handle], laidTests := true, laidLooks := .later }
def NetPlaysUptoCardSaid : Prop := Claim7.holds Tryd.pinned (.plain (OpenSpec.upto netPlaysSpec)) netPlaysUptoCard

/-- THE SECOND FORM's CARD OF 'testimonylaw.StoreSetups'. -/
def storeSetupsUptoCard : Claim7 := { stood := { row := storeSetupsUptoRow, standIns := [], harness := (true, "44c42505a22ae5b05fb7d48d997a7dba4241d82d87880f16b1510ca1073980e5"), looks := true }, kinds := [], alts := [], laidByText := true, laidKinds := [.handle], laidTests := true, laidLooks := .later }
def StoreSetupsUptoCardSaid : Prop := Claim7.holds Tryd.pinned (.plain (OpenSpec.upto storeSetupsSpec)) storeSetupsUptoCard
end Rows
end Go.Proofs.YtggdjongbmdefaaDoor
