/-
  The statement EventJudges walked: whatever the ops, true.
-/
import Derived.Test.YtelndpbkheoeaaaGreatDoorRefB
import Derived.Test.YtelndpbkheoeaaaGreatDoorAsZ
import Derived.Deep.RegionHeld3
namespace Go.Proofs.YtelndpbkheoeaaaGreatDoor
open Go.RowKit

theorem globB {W w1 : World} {x : Value} (hb : Below W.heap.size W w1) (h : W.cell? ⟨0, 0, none⟩ = some x) : w1.cell? ⟨0, 0, none⟩ = some x :=
  (hb.cell (p := ⟨0, 0, none⟩) (World.block_lt_of_cell? W ⟨0, 0, none⟩ h)).trans h

set_option maxHeartbeats 400000 in
theorem checkOps_none (a : Option Addr) (cap : Nat) (w : World) : Calls Tryz.prog 24 #[.slice a 0 cap] w fun e w' => e = .returned (toldV 0) ∧ w' = w := by
  rw [toldV_zero]
  go_enter Tryz.func24, Tryz.ntmps24
  go_wp2
  refine wp_loop_rounds 1 ?_
  rw [rounds_succ]
  go_wp2
  go_ret
  exact ⟨rfl, rfl⟩

end Go.Proofs.YtelndpbkheoeaaaGreatDoor
