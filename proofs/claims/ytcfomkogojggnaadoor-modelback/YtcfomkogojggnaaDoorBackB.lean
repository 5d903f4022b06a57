/-
  The small functions that the statement ModelBack asks: walked.
-/
import Derived.Test.YtcfomkogojggnaaDoorBackA
namespace Go.Proofs.YtcfomkogojggnaaDoor
open Go.RowKit

set_option maxHeartbeats 400000 in
theorem pick12_any (a : Int) (w : World) : Calls Tryd.prog 27 #[.int .i64 a, .int .i64 12] w fun e w' => (∃ p, e = .returned (.int .i64 p)) ∧ w' = w := by
  go_enter Tryd.func27, Tryd.ntmps27
  go_wp2
  go_ret
  exact ⟨⟨_, rfl⟩, rfl⟩

set_option maxHeartbeats 400000 in
theorem pick4_any (a : Int) (w : World) : Calls Tryd.prog 27 #[.int .i64 a, .int .i64 4] w fun e w' => (∃ p, e = .returned (.int .i64 p)) ∧ w' = w := by
  go_enter Tryd.func27, Tryd.ntmps27
  go_wp2
  go_ret
  exact ⟨⟨_, rfl⟩, rfl⟩

set_option maxRecDepth 100000 in
set_option maxHeartbeats 1000000 in
theorem stepped_any (w : World) (hK : KnownAt w) (hpos : 1 < w.heap.size) : Calls Tryd.prog 28 #[] w fun e w' => e = .returned (.bool true) ∧ Below w.heap.size w w' := by
  have HS := hideIt (start_any 1 w)
  have hb := below_grown (startGrown w 1)
  have HT := hideIt (step_any 1 2 5 0 [0] (startV w 1) (startW w 1) (hK.below hpos hb) (startAt w 1).has (fun e => by cases e) (by decide) (Nat.lt_of_lt_of_le hpos hb.size))
  have HB := hideIt hb
  rw [show stepM 1 [0] 2 5 0 = some ([5], 0) from rfl] at HT
  simp only [startV, startW, show oneB 1 = true from rfl, if_true] at HS HT HB
  clear hb hK
  go_enter Tryd.func28, Tryd.ntmps28
  go_wp2_with (first | (go_at_call 20; refine HS.out.mono ?_; rintro e w1 ⟨rfl, hw1⟩; have hw1 := hw1.symm; subst hw1) | (go_at_call 22; refine HT.out.mono ?_; rintro e w2 ⟨hb2, v2, rfl, hr2⟩; have HB2 := hideIt hb2; obtain ⟨g, off, cap, rfl, hc⟩ := hr2.has.one; clear hb2 hr2))
  go_ret
  exact ⟨rfl, belJ HB.out HB2.out⟩

end Go.Proofs.YtcfomkogojggnaaDoor
