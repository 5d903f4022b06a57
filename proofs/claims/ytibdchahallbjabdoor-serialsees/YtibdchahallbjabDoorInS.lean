/-
  What came in, for a statement over steps.
-/
import Derived.Test.YtibdchahallbjabDoorAtC
namespace Go.Proofs.YtibdchahallbjabDoor
open Go.RowKit

structure InC (w : World) (a : Option Addr) (cap : Nat) (l : List Stp) : Prop where
  max : l.length ≤ maxLen
  cap : l.length ≤ cap
  at_ : StpsQ w a l
  fine : FineAt w
  typ : TypAt w
theorem InC.below {w w' : World} {a : Option Addr} {cap : Nat} {l : List Stp} (h : InC w a cap l) (hb : Below w.heap.size w w') : InC w' a cap l := ⟨h.max, h.cap, h.at_.below hb, h.fine.below hb, h.typ.below hb⟩
end Go.Proofs.YtibdchahallbjabDoor
