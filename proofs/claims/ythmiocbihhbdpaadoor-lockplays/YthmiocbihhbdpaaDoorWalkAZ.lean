/-
  What the small functions on an event do: contracts over the translated program.
  What the functions that judge one event do: contracts over the translated program.
-/
import Derived.Test.YthmiocbihhbdpaaDoorProg
import Derived.Test.YthmiocbihhbdpaaDoorPlainAZ
import Derived.WalkKit
import Derived.WalkSpells
import Derived.WalkLawsBesides
namespace Go.Proofs.YthmiocbihhbdpaaDoor
open Go.RowKit

end Go.Proofs.YthmiocbihhbdpaaDoor

namespace Go.Proofs.YthmiocbihhbdpaaDoor
open Go.RowKit

/-- What 'told' makes of a number: nil of 0, else that number as an error. -/
def toldV (n : Int) : Value := if n = 0 then .nilIface else .iface 29 (.int .i64 n)

end Go.Proofs.YthmiocbihhbdpaaDoor
