/-
  Plain facts on what may be of an event: numbers alone; nothing of the program is named here.
  What the functions that judge one event do: contracts over the translated program.
-/
import Derived.Test.YtncnojgemmcplaaGreatDoorProg
import Derived.WalkKit
import Derived.WalkSpells
import Derived.WalkLawsBesides
namespace Go.Proofs.YtncnojgemmcplaaGreatDoor

def numB (n : Int) : Bool := decide (-1000000 ≤ n ∧ n ≤ 1000000)
def eightB (n : Int) : Bool := decide (0 ≤ n ∧ n < 8)


end Go.Proofs.YtncnojgemmcplaaGreatDoor

namespace Go.Proofs.YtncnojgemmcplaaGreatDoor
open Go.RowKit

/-- What 'told' makes of a number: nil of 0, else that number as an error. -/
def toldV (n : Int) : Value := if n = 0 then .nilIface else .iface 38 (.int .i64 n)

end Go.Proofs.YtncnojgemmcplaaGreatDoor
