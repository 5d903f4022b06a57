/-
  What the functions that judge one event do: contracts over the translated program.
-/
import Derived.Test.YtaopigjhdkdklaaDoorProg
import Derived.WalkKit
import Derived.WalkSpells
import Derived.WalkLawsBesides
namespace Go.Proofs.YtaopigjhdkdklaaDoor
open Go.RowKit

/-- What 'told' makes of a number: nil of 0, else that number as an error. -/
def toldV (n : Int) : Value := if n = 0 then .nilIface else .iface 29 (.int .i64 n)

end Go.Proofs.YtaopigjhdkdklaaDoor
