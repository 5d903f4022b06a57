/-
  The statements' own bare, walked, at what the program's functions tell.
-/
import Derived.Test.YtdncnljcihblbaaDoorAsZ
namespace Go.Proofs.YtdncnljcihblbaaDoor
open Go.RowKit

/-- errors.errorType as it is laid. -/
def GlE (w : World) : Prop := 0 < w.heap.size ∧ w.cell? ⟨0, 0, none⟩ = some (.iface 139 (.agg #[.pointer (some ⟨1, 32, none⟩)]))
theorem GlE.below {w w' : World} (h : GlE w) (hb : Below w.heap.size w w') : GlE w' := ⟨Nat.lt_of_lt_of_le h.1 hb.size, (hb.cell (p := ⟨0, 0, none⟩) h.1).trans h.2⟩
set_option maxRecDepth 100000 in
set_option maxHeartbeats 1000000 in
theorem bare_any (n : Int) (w : World) (hg : GlE w) : Calls Tryd.prog 10 #[toldV n, .int .i64 n] w fun e w' => e = .returned (.bool true) ∧ Below w.heap.size w w' := by
  by_cases h : n = 0
  · subst h
    rw [toldV_zero]
    go_enter Tryd.func10, Tryd.ntmps10
    go_wp2_with fail
    refine (at_nil w).mono ?_
    rintro e w1 ⟨rfl, hb⟩
    go_wp2
    go_ret
    exact ⟨rfl, hb⟩
  · rw [toldV_pos h]
    clear h
    go_enter Tryd.func10, Tryd.ntmps10
    go_wp2_with fail
    refine (at_errno n w hg.2).mono ?_
    rintro e w1 ⟨rfl, hb⟩
    go_wp2
    go_ret
    exact ⟨rfl, hb⟩
end Go.Proofs.YtdncnljcihblbaaDoor
