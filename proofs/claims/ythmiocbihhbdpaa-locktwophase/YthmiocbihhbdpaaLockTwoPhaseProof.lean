/-
  Proved: whatever plan and picks are handed in, the statement LockTwoPhase (what is done under locks clashes without a way round, is strict, and all are over: who was ended aborts, each other one does all its steps and commits) returns true, and what was handed in reads behind the call as before; without a condition.
-/
import Derived.Test.YthmiocbihhbdpaaRows
import Derived.Test.YthmiocbihhbdpaaOpenPZ
import Derived.Test.YthmiocbihhbdpaaPwW
import Derived.SizedLaws
namespace Go.Proofs.Ythmiocbihhbdpaa
open Go.ChangeShapes Go.WideShapes Go.ChangeAt Go.RowKit

theorem readLockTwoPhase : ∀ t ∈ [23, 24], Try.prog.readableRec t = true ∧ t < Try.prog.types.size := by
  intro t ht
  simp only [List.mem_cons, List.not_mem_nil, or_false] at ht
  rcases ht with rfl | rfl <;> exact ⟨by kernel_rfl, of_decide_eq_true (by kernel_rfl)⟩

/-- What the program tells of whatever plan. -/
theorem playOk : PlayOk := fun p ks pa ka pc kc W hz hkm hp hk => playP_any p ks hz hkm pa ka pc kc W hp hk

theorem lockTwoPhase_vars : Rows.lockTwoPhaseSpec.plain.varTypes Try.prog = [] := by kernel_rfl

set_option maxRecDepth 100000 in
theorem lockTwoPhase_lifted (os : Os) (started : os.Started) (H : Type) (enc : TypeId × Value → H) :
    ReturnsInHanded {} Try.checked os 3 .any (Rows.lockTwoPhaseSpec.pre6 enc Try.prog Try.f3 Rows.lockTwoPhaseRow.domain false) (Rows.lockTwoPhaseSpec.post enc Try.prog Try.f3 false true false false) := by
  refine returnsInHanded_of_change_sized (C := Try.checked) own started (by kernel_rfl) Try.func3
    (ChangeSpec.witness6 (enc := enc) (C := Try.checked) false ⟨#[], #[.slice none 0 0, .slice none 0 0], []⟩ 8 (by kernel_rfl) (by kernel_rfl) (by kernel_rfl) (by kernel_rfl)) ?_
  intro W base args ds gs before hval0 hW _ hz0 _
  have hval : ∀ (j : Nat) t v, Try.f3.params[j]? = some t → args[j]? = some v → Value.okWide Try.prog W .any base t v := hval0
  have hW' := hW
  obtain ⟨p, q, hA0, hV, rfl, hfz, hnd⟩ := hW
  have hz : (DataW.weightsEach Try.prog (Try.f3.params.toList ++ Rows.lockTwoPhaseSpec.plain.varTypes Try.prog) (ds ++ gs)).all (· ≤ reachBytes) = true := hz0
  have hA : DataW.TrodAll enc Try.prog W 0 (fun _ => true) true Try.f3.params.toList args.toList ds p := hA0
  rw [Try.params3] at hA hval hz
  rw [lockTwoPhase_vars] at hz
  have hA1 := hA
  obtain ⟨v0, vs0, d0, ds0, p0, q0, e0, rfl, rfl, h0, hA⟩ := trodAll_cons hA
  obtain ⟨v1, vs1, d1, ds1, p1, q1, rfl, rfl, rfl, h1, hA⟩ := trodAll_cons hA
  obtain ⟨rfl, rfl, rfl⟩ := trodAll_nil hA
  obtain rfl : args = #[v0, v1] := by
    rw [← Array.toArray_toList (xs := args), e0]
  obtain ⟨rfl, rfl⟩ := trodVars_none hV
  obtain ⟨a, len, cap, rfl⟩ := okWide_slice Try.underlying23 (hval 0 23 v0 rfl rfl)
  obtain ⟨a1, len1, cap1, rfl⟩ := okWide_slice Try.underlying24 (hval 1 24 v1 rfl rfl)
  obtain ⟨pl, rfl, hQ, hZ⟩ := plan_of_Trod h0
  obtain ⟨ks, rfl, hkm, hK⟩ := picks_of_Trod h1
  have hZ' := hZ fun n hn => by
    have := List.all_eq_true.1 hz n (DataW.weights_mem_each (j := 0) (t := 23) (d := d0) rfl rfl n hn)
    simpa using this
  clear hA0 hval0 hz0 hz hZ
  refine (two_walk playOk lq_z pl ks hZ' (by have := hZ'.few; unfold maxLen; omega) a a1 cap cap1 W hQ hK hkm).mono fun e W' ⟨he, bel⟩ => ?_
  subst he
  exact ⟨_, rfl, _, _, _, [], _, [], hW', trodAll_mk1 (shut_bool Try.underlying4 _), trodAll_belowP laidOut bel readLockTwoPhase hA1, rfl, bel.frame _, fun h => by cases h⟩

theorem lockTwoPhase_holds : Rows.LockTwoPhaseSaid :=
  OpenClaim.holds_of_wide 3 Try.f3 rfl rfl rfl rfl rfl rfl rfl ⟨rfl, rfl, rfl, rfl, rfl⟩ rfl rfl rfl rfl rfl (by kernel_rfl) Try.func3 (by kernel_rfl)
    (of_decide_eq_true (by kernel_rfl)) (by unfold Func.isWrapper; rw [if_neg (of_decide_eq_false (by kernel_rfl))]; exact ⟨rfl, rfl⟩)
    (fun os started H enc _ => lockTwoPhase_lifted os started H enc)
#print axioms lockTwoPhase_holds
end Go.Proofs.Ythmiocbihhbdpaa
