/-
  Package linear's earlierOfProcess: walked.
-/
import Derived.Test.YtfojmbbhcmeejaaDoorWalkCZ
namespace Go.Proofs.YtfojmbbhcmeejaaDoor
open Go.RowKit

def sameB (x y : Opn) : Bool := decide (x.p = y.p) && decide (x.c < y.c)

set_option maxHeartbeats 400000 in
theorem same_any (x y : Opn) (w : World) : Calls Tryd.prog 36 #[x.agg, y.agg] w fun e w' => e = .returned (.bool (sameB x y)) ∧ Below w.heap.size w w' := by
  unfold Opn.agg
  by_cases h1 : x.p = y.p
  · by_cases h2 : x.c < y.c
    · have e : sameB x y = true := by simp [sameB, h1, h2]
      rw [e]; clear e
      go_enter Tryd.func36, Tryd.ntmps36
      go_wp2
      go_ret
      exact ⟨rfl, belA (belA (Below.refl _ _) _) _⟩
    · have e : sameB x y = false := by simp [sameB, h2]
      rw [e]; clear e
      go_enter Tryd.func36, Tryd.ntmps36
      go_wp2
      go_ret
      exact ⟨by simp, belA (belA (Below.refl _ _) _) _⟩
  · have e : sameB x y = false := by simp [sameB, h1]
    rw [e]; clear e
    go_enter Tryd.func36, Tryd.ntmps36
    go_wp2
    go_ret
    exact ⟨rfl, belA (belA (Below.refl _ _) _) _⟩

end Go.Proofs.YtfojmbbhcmeejaaDoor
