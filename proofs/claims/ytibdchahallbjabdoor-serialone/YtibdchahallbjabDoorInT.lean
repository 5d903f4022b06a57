/-
  What came in, for a statement over steps that reads no fault of the document's.
-/
import Derived.Test.YtibdchahallbjabDoorAtC
namespace Go.Proofs.YtibdchahallbjabDoor
open Go.RowKit

structure InT (w : World) (a : Option Addr) (cap : Nat) (l : List Stp) : Prop where
  max : l.length ≤ maxLen
  cap : l.length ≤ cap
  at_ : StpsQ w a l
  typ : TypAt w
theorem InT.below {w w' : World} {a : Option Addr} {cap : Nat} {l : List Stp} (h : InT w a cap l) (hb : Below w.heap.size w w') : InT w' a cap l := ⟨h.max, h.cap, h.at_.below hb, h.typ.below hb⟩
end Go.Proofs.YtibdchahallbjabDoor
