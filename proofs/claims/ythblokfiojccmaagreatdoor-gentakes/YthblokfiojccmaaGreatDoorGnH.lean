/-
  How deep a generator is: with enough room what is given next hangs on no room.
-/
import Derived.Test.YthblokfiojccmaaGreatDoorGnP
namespace Go.Proofs.YthblokfiojccmaaGreatDoor.Gn

def htLe : Nat → Gt → Prop
  | 0, _ => False
  | _ + 1, .rd _ => True
  | _ + 1, .wr _ _ _ => True
  | n + 1, .lim g _ => htLe n g
  | n + 1, .mix l => ∀ g ∈ l, htLe n g
  | n + 1, .thn l => ∀ g ∈ l, htLe n g





end Go.Proofs.YthblokfiojccmaaGreatDoor.Gn
