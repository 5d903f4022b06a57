/-
  How much of the program's tape was used.
-/
import Derived.Test.YthblokfiojccmaaGreatDoorTpW
namespace Go.Proofs.YthblokfiojccmaaGreatDoor.Gn
open Go.RowKit

set_option maxHeartbeats 4000000 in
theorem used_any (base B o : Nat) (t : Tp) (w : World) (h : TpAt w base B o t) :
    Calls Tryz.prog 9 #[.pointer (some ⟨B, o, none⟩)] w fun e w' => e = .returned (.int .i64 t.u) ∧ w' = w := by
  have c1 := h.used
  clear h
  go_enter Tryz.func9, Tryz.ntmps9
  go_wp2
  go_ret
  exact ⟨rfl, rfl⟩
end Go.Proofs.YthblokfiojccmaaGreatDoor.Gn
