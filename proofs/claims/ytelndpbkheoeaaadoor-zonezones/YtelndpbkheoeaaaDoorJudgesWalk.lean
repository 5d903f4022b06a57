/-
  The statement EventJudges walked: whatever the ops, true.
-/
import Derived.Test.YtelndpbkheoeaaaDoorRefB
import Derived.Test.YtelndpbkheoeaaaDoorAsZ
import Derived.Deep.RegionHeld3
namespace Go.Proofs.YtelndpbkheoeaaaDoor
open Go.RowKit

theorem globB {W w1 : World} {x : Value} (hb : Below W.heap.size W w1) (h : W.cell? ⟨1, 0, none⟩ = some x) : w1.cell? ⟨1, 0, none⟩ = some x :=
  (hb.cell (p := ⟨1, 0, none⟩) (World.block_lt_of_cell? W ⟨1, 0, none⟩ h)).trans h

set_option maxHeartbeats 400000 in
theorem checkOps_none (a : Option Addr) (cap : Nat) (w : World) : Calls Tryd.prog 25 #[.slice a 0 cap] w fun e w' => e = .returned (toldV 0) ∧ w' = w := by
  rw [toldV_zero]
  go_enter Tryd.func25, Tryd.ntmps25
  go_wp2
  refine wp_loop_rounds 1 ?_
  rw [rounds_succ]
  go_wp2
  go_ret
  exact ⟨rfl, rfl⟩

set_option maxRecDepth 100000 in
set_option maxHeartbeats 400000 in
theorem opsCheck_none (a : Option Addr) (cap : Nat) (w : World) : Calls Tryd.prog 27 #[.slice a 0 cap] w fun e w' => e = .returned (.int .i64 0) ∧ w' = w := by
  go_enter Tryd.func27, Tryd.ntmps27
  go_wp2
  refine wp_loop_rounds 1 ?_
  rw [rounds_succ]
  go_wp2
  go_ret
  exact ⟨rfl, rfl⟩

end Go.Proofs.YtelndpbkheoeaaaDoor
