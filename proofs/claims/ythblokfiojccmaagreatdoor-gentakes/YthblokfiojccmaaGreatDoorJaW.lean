/-
  The statements' own bare, walked, at what the program's functions tell.
-/
import Derived.Test.YthblokfiojccmaaGreatDoorAsZ
namespace Go.Proofs.YthblokfiojccmaaGreatDoor
open Go.RowKit

/-- errors.errorType as it is laid. -/
def GlE (w : World) : Prop := 1 < w.heap.size ∧ w.cell? ⟨1, 0, none⟩ = some (.iface 167 (.agg #[.pointer (some ⟨10, 32, none⟩)]))
set_option maxRecDepth 100000 in
set_option maxHeartbeats 1000000 in
theorem bare_any (n : Int) (w : World) (hg : GlE w) : Calls Tryz.prog 7 #[toldV n, .int .i64 n] w fun e w' => e = .returned (.bool true) ∧ Below w.heap.size w w' := by
  by_cases h : n = 0
  · subst h
    rw [toldV_zero]
    go_enter Tryz.func7, Tryz.ntmps7
    go_wp2_with fail
    refine (at_nil w).mono ?_
    rintro e w1 ⟨rfl, hb⟩
    go_wp2
    go_ret
    exact ⟨rfl, hb⟩
  · rw [toldV_pos h]
    clear h
    go_enter Tryz.func7, Tryz.ntmps7
    go_wp2_with fail
    refine (at_errno n w hg.2).mono ?_
    rintro e w1 ⟨rfl, hb⟩
    go_wp2
    go_ret
    exact ⟨rfl, hb⟩
end Go.Proofs.YthblokfiojccmaaGreatDoor
