/-
  Proved: whatever is handed in, the statement MergeLattice (counters and what was written last are lattices: whichever way, once or twice, they come together to the same, chapter 15) returns true, and what was handed in reads behind the call as before; without a condition.
-/
import Derived.Test.YthphoiadhddggaaRows
import Derived.Test.YthphoiadhddggaaOpenM
import Derived.Test.YthphoiadhddggaaOpenN
import Derived.Test.YthphoiadhddggaaLtW
namespace Go.Proofs.Ythphoiadhddggaa
open Go.ChangeShapes Go.WideShapes Go.ChangeAt Go.RowKit

theorem readMergeLattice : ∀ t ∈ [28, 28, 28, 23, 23, 23], Try.prog.readableRec t = true ∧ t < Try.prog.types.size := by
  intro t ht
  simp only [List.mem_cons, List.not_mem_nil, or_false] at ht
  rcases ht with rfl | rfl | rfl | rfl | rfl | rfl <;> exact ⟨by kernel_rfl, of_decide_eq_true (by kernel_rfl)⟩

set_option maxRecDepth 100000 in
theorem mergeLattice_lifted (os : Os) (started : os.Started) (H : Type) (enc : TypeId × Value → H) :
    ReturnsInHanded {} Try.checked os 4 .any (Rows.mergeLatticeSpec.pre6 enc Try.prog Try.f4 Rows.mergeLatticeRow.domain false) (Rows.mergeLatticeSpec.post enc Try.prog Try.f4 false true false false) := by
  refine returnsInHanded_of_change (C := Try.checked) own started (by kernel_rfl) Try.func4
    (ChangeSpec.witness6 (enc := enc) (C := Try.checked) false ⟨#[], #[.slice none 0 0, .slice none 0 0, .slice none 0 0, .agg #[.int .i64 0, .int .i64 0, .int .i64 0], .agg #[.int .i64 0, .int .i64 0, .int .i64 0], .agg #[.int .i64 0, .int .i64 0, .int .i64 0]], []⟩ 8 (by kernel_rfl) (by kernel_rfl) (by kernel_rfl) (by kernel_rfl)) ?_
  intro W base args ds gs before hval0 hW _ _
  have hval : ∀ (j : Nat) t v, Try.f4.params[j]? = some t → args[j]? = some v → Value.okWide Try.prog W .any base t v := hval0
  have hW' := hW
  obtain ⟨p, q, hA0, hV, rfl, hfz, hnd⟩ := hW
  have hA : DataW.TrodAll enc Try.prog W 0 (fun _ => true) true Try.f4.params.toList args.toList ds p := hA0
  rw [Try.params4] at hA hval
  have hA1 := hA
  obtain ⟨v0, vs0, d0, ds0, p0, q0, e0, rfl, rfl, h0, hA⟩ := trodAll_cons hA
  obtain ⟨v1, vs1, d1, ds1, p1, q1, rfl, rfl, rfl, h1, hA⟩ := trodAll_cons hA
  obtain ⟨v2, vs2, d2, ds2, p2, q2, rfl, rfl, rfl, h2, hA⟩ := trodAll_cons hA
  obtain ⟨v3, vs3, d3, ds3, p3, q3, rfl, rfl, rfl, h3, hA⟩ := trodAll_cons hA
  obtain ⟨v4, vs4, d4, ds4, p4, q4, rfl, rfl, rfl, h4, hA⟩ := trodAll_cons hA
  obtain ⟨v5, vs5, d5, ds5, p5, q5, rfl, rfl, rfl, h5, hA⟩ := trodAll_cons hA
  obtain ⟨rfl, rfl, rfl⟩ := trodAll_nil hA
  obtain rfl : args = #[v0, v1, v2, v3, v4, v5] := by
    rw [← Array.toArray_toList (xs := args), e0]
  obtain ⟨rfl, rfl⟩ := trodVars_none hV
  obtain ⟨A0, len0, cap0, rfl⟩ := okWide_slice Try.underlying28 (hval 0 28 v0 rfl rfl)
  obtain ⟨l0, rfl, hq0⟩ := ints_of_Trod h0
  obtain ⟨A1, len1, cap1, rfl⟩ := okWide_slice Try.underlying28 (hval 1 28 v1 rfl rfl)
  obtain ⟨l1, rfl, hq1⟩ := ints_of_Trod h1
  obtain ⟨A2, len2, cap2, rfl⟩ := okWide_slice Try.underlying28 (hval 2 28 v2 rfl rfl)
  obtain ⟨l2, rfl, hq2⟩ := ints_of_Trod h2
  obtain ⟨x3, y3, z3, rfl⟩ := last_of_Trod (okWide_struct Try.underlying23 (hval 3 23 v3 rfl rfl)) h3
  obtain ⟨x4, y4, z4, rfl⟩ := last_of_Trod (okWide_struct Try.underlying23 (hval 4 23 v4 rfl rfl)) h4
  obtain ⟨x5, y5, z5, rfl⟩ := last_of_Trod (okWide_struct Try.underlying23 (hval 5 23 v5 rfl rfl)) h5
  clear hA0 hval0
  refine (lattice_walk l0 l1 l2 A0 A1 A2 cap0 cap1 cap2 x3 y3 z3 x4 y4 z4 x5 y5 z5 W hq0 hq1 hq2).mono fun e W' ⟨he, bel⟩ => ?_
  subst he
  exact ⟨_, rfl, _, _, _, [], _, [], hW', trodAll_mk1 (shut_bool Try.underlying4 _), trodAll_belowP laidOut bel readMergeLattice hA1, rfl, bel.frame _, fun h => by cases h⟩

theorem mergeLattice_holds : Rows.MergeLatticeSaid :=
  OpenClaim.holds_of_wide 4 Try.f4 rfl rfl rfl rfl rfl rfl rfl ⟨rfl, rfl, rfl, rfl, rfl⟩ rfl rfl rfl rfl rfl (by kernel_rfl) Try.func4 (by kernel_rfl)
    (of_decide_eq_true (by kernel_rfl)) (by unfold Func.isWrapper; rw [if_neg (of_decide_eq_false (by kernel_rfl))]; exact ⟨rfl, rfl⟩)
    (fun os started H enc _ => mergeLattice_lifted os started H enc)
#print axioms mergeLattice_holds
end Go.Proofs.Ythphoiadhddggaa
