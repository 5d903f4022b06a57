/-
  Package clock's Less, walked.
-/
import Derived.Test.YtmonbkoelehdlabEqV
namespace Go.Proofs.Ytmonbkoelehdlab
open Go.RowKit

def lessB (v u : Nat → Int) : Bool := !eqB v u && leB v u
set_option maxRecDepth 100000 in
set_option maxHeartbeats 1000000 in
theorem less_any (v u : Nat → Int) (w : World) : Calls Try.prog 9 #[vecA v, vecA u] w fun e w' => e = .returned (.bool (lessB v u)) ∧ Below w.heap.size w w' := by
  have heq : ∀ W', (Op.equalIn 10000 23 (vecA v) (vecA u)).run Try.prog W' = .ok (eqB v u) W' := fun W' => eq45 W' v u 23 (.inr rfl)
  have HW : Hid (∀ W', Calls Try.prog 8 #[vecA v, vecA u] W' fun e w' => e = .returned (.bool (leB v u)) ∧ Below W'.heap.size W' w') := fun W' => within_any v u W'
  have HV : Hid (VecB ((w.alloc (vecO v 23)).alloc (vecO u 23)) w.heap.size v) := (vecB_new w v 23).alloc _
  have HU : Hid (VecB ((w.alloc (vecO v 23)).alloc (vecO u 23)) (w.heap.size + 1) u) := by
    have := vecB_new (w.alloc (vecO v 23)) u 23
    rw [World.size_alloc] at this
    exact this
  have HB : Hid (Below w.heap.size w ((w.alloc (vecO v 23)).alloc (vecO u 23))) := belA (belA (Below.refl _ _) _) _
  have HR : Hid (lessB v u = (!eqB v u && leB v u)) := rfl
  unfold vecO at HV HU HB
  unfold vecA at *
  generalize eqB v u = eb at heq HR
  go_enter Try.func9, Try.ntmps9
  cases eb
  · go_wp2_with fail
    refine (HW.out _).mono ?_
    rintro e w2 ⟨rfl, hb2⟩
    go_wp2
    go_ret
    exact ⟨ret_bool (by rw [HR.out]; simp), belJ HB.out hb2⟩
  · go_wp2
    go_ret
    exact ⟨ret_bool (by rw [HR.out]; simp), HB.out⟩
end Go.Proofs.Ytmonbkoelehdlab
