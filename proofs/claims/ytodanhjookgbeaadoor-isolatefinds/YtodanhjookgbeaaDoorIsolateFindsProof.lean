/-
  Proved: whatever story is handed in, the statement IsolateFinds (which of Adya's six things can't be, and the level, are the document's) returns true, and what was handed in reads behind the call as before; the variable errors.errorType holds what the text of the program lays.
-/
import Derived.Test.YtodanhjookgbeaaDoorCards
import Derived.Test.YtodanhjookgbeaaDoorTie
import Derived.Test.YtodanhjookgbeaaDoorOpenY
import Derived.Test.YtodanhjookgbeaaDoorJaWZ
import Derived.Test.YtodanhjookgbeaaDoorJtW
namespace Go.Proofs.YtodanhjookgbeaaDoor
open Go.ChangeShapes Go.WideShapes Go.ChangeAt Go.RowKit

theorem readIsolateFinds : ∀ t ∈ [25], Tryd.prog.readableRec t = true ∧ t < Tryd.prog.types.size := by
  intro t ht
  simp only [List.mem_cons, List.not_mem_nil, or_false] at ht
  rcases ht with rfl <;> exact ⟨by kernel_rfl, of_decide_eq_true (by kernel_rfl)⟩

theorem isolateFinds_door_met (os : Os) (args : Array Value) : laidMetH Tryd.prog laidG ((World.doorLaid Tryd.prog 16 os).forCall (fun _ _ => 0) ⟨#[], args, []⟩).memory :=
  laidMetH_of_parts3 (fuel := 8) (laidMet_of_run' 8 (by kernel_rfl) (by kernel_rfl)) (by kernel_rfl) (by kernel_rfl)

theorem isolateFinds_vars : Rows.isolateFindsSpec.plain.varTypes Tryd.prog = [] := by kernel_rfl

set_option maxRecDepth 100000 in
theorem isolateFinds_lifted (os : Os) (started : os.Started) (H : Type) (enc : TypeId × Value → H) :
    ReturnsInHanded {} Tryd.checked os 4 .any (fun w args => (Rows.isolateFindsSpec.pre enc Tryd.prog Tryd.f4 [] false w args ∧ laidMetH Tryd.prog laidG w) ∧ sizedMet enc Tryd.prog Tryd.f4 (OpenSpec.ofChange Rows.isolateFindsSpec) false w args)
      (Rows.isolateFindsSpec.post enc Tryd.prog Tryd.f4 false true false false) := by
  refine returnsInHanded_of_change_and (C := Tryd.checked) (X := fun w _ => laidMetH Tryd.prog laidG w) (fun _ _ _ hh h => h.of_heap hh) own started (by kernel_rfl) Tryd.func4
    (ChangeSpec.witness_shaped (enc := enc) (C := Tryd.checked) (os := os) (X := fun w _ => laidMetH Tryd.prog laidG w) false (World.doorLaid Tryd.prog 16 os) #[.agg #[.slice none 0 0, .slice none 0 0]] 8 rfl (World.shaped_of_RefB (by kernel_rfl) (by kernel_rfl)) (by kernel_rfl) (by kernel_rfl) (by kernel_rfl) (isolateFinds_door_met os _)) ?_
  intro W base args ds gs before hval0 hW _ hz0 hL _
  have hval : ∀ (j : Nat) t v, Tryd.f4.params[j]? = some t → args[j]? = some v → Value.okWide Tryd.prog W .any base t v := hval0
  have hW' := hW
  obtain ⟨p, q, hA0, hV, rfl, hfz, hnd⟩ := hW
  have hz : (DataW.weightsEach Tryd.prog (Tryd.f4.params.toList ++ Rows.isolateFindsSpec.plain.varTypes Tryd.prog) (ds ++ gs)).all (· ≤ reachBytes) = true := hz0
  have hA : DataW.TrodAll enc Tryd.prog W 0 (fun _ => true) true Tryd.f4.params.toList args.toList ds p := hA0
  rw [Tryd.params4] at hA hval hz
  rw [isolateFinds_vars] at hz
  have hA1 := hA
  obtain ⟨v0, vs0, d0, ds0, p0, q0, e0, rfl, rfl, h0, hA⟩ := trodAll_cons hA
  obtain ⟨rfl, rfl, rfl⟩ := trodAll_nil hA
  obtain rfl : args = #[v0] := by
    rw [← Array.toArray_toList (xs := args), e0]
  obtain ⟨rfl, rfl⟩ := trodVars_none hV
  obtain ⟨s, a, b, ca, cb, rfl, hS, hZ⟩ := sty_of_Trod (okWide_struct Tryd.underlying25 (hval 0 25 v0 rfl rfl)) h0
  have hZ' := hZ fun n hn => by
    have := List.all_eq_true.1 hz n (DataW.weights_mem_each (j := 0) (t := 25) (d := d0) rfl rfl n hn)
    simpa using this
  have hr := reachBytes_lt
  have hSz : StyZ s := ⟨by have := hZ'.1; omega, fun k hk => by have := hZ'.2.1 k hk; omega, by have := hZ'.2.2; omega⟩
  clear hA0 hval0 hz0 hz hZ hZ' hr
  refine (finds_walk s hSz a b ca cb W hS (glE_of hL)).mono fun e W' ⟨he, bel⟩ => ?_
  subst he
  exact ⟨_, rfl, _, _, _, [], _, [], hW', trodAll_mk1 (shut_bool Tryd.underlying4 _), trodAll_belowP laidOut bel readIsolateFinds hA1, rfl, bel.frame _, fun h => by cases h⟩

theorem isolateFinds_row : Rows.IsolateFindsSaid :=
  OpenClaim.holds_of_wide 4 Tryd.f4 rfl rfl rfl rfl rfl rfl rfl ⟨rfl, rfl, rfl, rfl, rfl⟩ rfl rfl rfl rfl rfl (by kernel_rfl) Tryd.func4 (by kernel_rfl)
    (of_decide_eq_true (by kernel_rfl)) (by unfold Func.isWrapper; rw [if_neg (of_decide_eq_false (by kernel_rfl))]; exact ⟨rfl, rfl⟩)
    (fun os started H enc _ => isolateFinds_lifted os started H enc)

theorem isolateFinds_holds : Rows.IsolateFindsCardSaid :=
  Claim7.holds_tied_plain_at .later [] [.handle] true (true, "6b43fac1bded1e0664b1e2388b5e348448f7d9cff19b786f9158088cb2bd4809") true
    isolateFinds_row (fun _ h => by cases h) (by kernel_rfl) (fun _ h => by cases h) isolateFinds_row_tie rfl ⟨rfl, rfl⟩ (by kernel_rfl) rfl
    (fun f fn hf hfn => by
      obtain rfl : f = 4 := Option.some.inj ((show Tryd.prog.funcNamed "testimony/testimonylaw.IsolateFinds" = some 4 by kernel_rfl).symm.trans hf) |>.symm
      obtain rfl : fn = Tryd.f4 := (Option.some.inj (Tryd.func4.symm.trans hfn)).symm
      exact ⟨by kernel_rfl, fun j t ht => by
        rw [Tryd.params4] at ht
        have hm : t ∈ [25] := by simpa using Array.mem_of_getElem? ht
        have hall : ([25].all fun u => !Tryd.prog.wantsStandIn u) = true := by kernel_rfl
        exact (show Tryd.prog.wantsStandIn t = false by simpa using List.all_eq_true.1 hall t hm)⟩)
    (by kernel_rfl)
#print axioms isolateFinds_holds
end Go.Proofs.YtodanhjookgbeaaDoor
