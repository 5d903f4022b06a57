/-
  Proved: whatever is handed in, the statement StoreSetups (which setups may be, and which stamps are older, is as the document has it) returns true, and what was handed in reads behind the call as before; the variable errors.errorType holds what the text of the program lays.
-/
import Derived.Test.YtggdjongbmdefaaDoorCards
import Derived.Test.YtggdjongbmdefaaDoorTie
import Derived.Test.YtggdjongbmdefaaDoorOpenS
import Derived.Test.YtggdjongbmdefaaDoorOpenH
import Derived.Test.YtggdjongbmdefaaDoorSsW
import Derived.Test.YtggdjongbmdefaaDoorJaW
namespace Go.Proofs.YtggdjongbmdefaaDoor
open Go.ChangeShapes Go.WideShapes Go.ChangeAt Go.RowKit

theorem readStoreSetups : ∀ t ∈ [63, 65, 65], Tryd.prog.readableRec t = true ∧ t < Tryd.prog.types.size := by
  intro t ht
  simp only [List.mem_cons, List.not_mem_nil, or_false] at ht
  rcases ht with rfl | rfl | rfl <;> exact ⟨by kernel_rfl, of_decide_eq_true (by kernel_rfl)⟩

theorem storeSetups_door_met (os : Os) (args : Array Value) : laidMetH Tryd.prog laidG ((World.doorLaid Tryd.prog 16 os).forCall (fun _ _ => 0) ⟨#[], args, []⟩).memory :=
  laidMetH_of_parts3 (fuel := 8) (laidMet_of_run' 8 (by kernel_rfl) (by kernel_rfl)) (by kernel_rfl) (by kernel_rfl)

set_option maxRecDepth 100000 in
theorem storeSetups_lifted (os : Os) (started : os.Started) (H : Type) (enc : TypeId × Value → H) :
    ReturnsInHanded {} Tryd.checked os 5 .any (fun w args => (Rows.storeSetupsSpec.pre enc Tryd.prog Tryd.f5 [] false w args ∧ laidMetH Tryd.prog laidG w) ∧ sizedMet enc Tryd.prog Tryd.f5 (OpenSpec.ofChange Rows.storeSetupsSpec) false w args)
      (Rows.storeSetupsSpec.post enc Tryd.prog Tryd.f5 false true false false) := by
  refine returnsInHanded_of_change_and (C := Tryd.checked) (X := fun w _ => laidMetH Tryd.prog laidG w) (fun _ _ _ hh h => h.of_heap hh) own started (by kernel_rfl) Tryd.func5
    (ChangeSpec.witness_shaped (enc := enc) (C := Tryd.checked) (os := os) (X := fun w _ => laidMetH Tryd.prog laidG w) false (World.doorLaid Tryd.prog 16 os) #[.agg #[.int .i64 0, .int .i64 0, .int .i64 0, .int .i64 0, .bool false], .agg #[.int .i64 0, .int .i64 0], .agg #[.int .i64 0, .int .i64 0]] 8 rfl (World.shaped_of_RefB (by kernel_rfl) (by kernel_rfl)) (by kernel_rfl) (by kernel_rfl) (by kernel_rfl) (storeSetups_door_met os _)) ?_
  intro W base args ds gs before hval0 hW _ _ hL _
  have hval : ∀ (j : Nat) t v, Tryd.f5.params[j]? = some t → args[j]? = some v → Value.okWide Tryd.prog W .any base t v := hval0
  have hW' := hW
  obtain ⟨p, q, hA0, hV, rfl, hfz, hnd⟩ := hW
  have hA : DataW.TrodAll enc Tryd.prog W 0 (fun _ => true) true Tryd.f5.params.toList args.toList ds p := hA0
  rw [Tryd.params5] at hA hval
  have hA1 := hA
  obtain ⟨v0, vs0, d0, ds0, p0, q0, e0, rfl, rfl, h0, hA⟩ := trodAll_cons hA
  obtain ⟨v1, vs1, d1, ds1, p1, q1, rfl, rfl, rfl, h1, hA⟩ := trodAll_cons hA
  obtain ⟨v2, vs2, d2, ds2, p2, q2, rfl, rfl, rfl, h2, hA⟩ := trodAll_cons hA
  obtain ⟨rfl, rfl, rfl⟩ := trodAll_nil hA
  obtain rfl : args = #[v0, v1, v2] := by
    rw [← Array.toArray_toList (xs := args), e0]
  obtain ⟨rfl, rfl⟩ := trodVars_none hV
  obtain ⟨n0, k0, a0, t0, b0, rfl⟩ := setup_of_Trod (okWide_struct Tryd.underlying63 (hval 0 63 v0 rfl rfl)) h0
  obtain ⟨s1, c1, rfl⟩ := stamp_of_Trod (okWide_struct Tryd.underlying65 (hval 1 65 v1 rfl rfl)) h1
  obtain ⟨s2, c2, rfl⟩ := stamp_of_Trod (okWide_struct Tryd.underlying65 (hval 2 65 v2 rfl rfl)) h2
  clear hA0 hval0
  refine (setups_walk n0 k0 a0 t0 b0 s1 c1 s2 c2 W (glE_of hL)).mono fun e W' ⟨he, bel⟩ => ?_
  subst he
  exact ⟨_, rfl, _, _, _, [], _, [], hW', trodAll_mk1 (shut_bool Tryd.underlying4 _), trodAll_belowP laidOut bel readStoreSetups hA1, rfl, bel.frame _, fun h => by cases h⟩

theorem storeSetups_row : Rows.StoreSetupsSaid :=
  OpenClaim.holds_of_wide 5 Tryd.f5 rfl rfl rfl rfl rfl rfl rfl ⟨rfl, rfl, rfl, rfl, rfl⟩ rfl rfl rfl rfl rfl (by kernel_rfl) Tryd.func5 (by kernel_rfl)
    (of_decide_eq_true (by kernel_rfl)) (by unfold Func.isWrapper; rw [if_neg (of_decide_eq_false (by kernel_rfl))]; exact ⟨rfl, rfl⟩)
    (fun os started H enc _ => storeSetups_lifted os started H enc)

theorem storeSetups_holds : Rows.StoreSetupsCardSaid :=
  Claim7.holds_tied_plain_at .later [] [.handle] true (true, "44c42505a22ae5b05fb7d48d997a7dba4241d82d87880f16b1510ca1073980e5") true
    storeSetups_row (fun _ h => by cases h) (by kernel_rfl) (fun _ h => by cases h) storeSetups_row_tie rfl ⟨rfl, rfl⟩ (by kernel_rfl) rfl
    (fun f fn hf hfn => by
      obtain rfl : f = 5 := Option.some.inj ((show Tryd.prog.funcNamed "testimony/testimonylaw.StoreSetups" = some 5 by kernel_rfl).symm.trans hf) |>.symm
      obtain rfl : fn = Tryd.f5 := (Option.some.inj (Tryd.func5.symm.trans hfn)).symm
      exact ⟨by kernel_rfl, fun j t ht => by
        rw [Tryd.params5] at ht
        have hm : t ∈ [63, 65, 65] := by simpa using Array.mem_of_getElem? ht
        have hall : ([63, 65, 65].all fun u => !Tryd.prog.wantsStandIn u) = true := by kernel_rfl
        exact (show Tryd.prog.wantsStandIn t = false by simpa using List.all_eq_true.1 hall t hm)⟩)
    (by kernel_rfl)
#print axioms storeSetups_holds
end Go.Proofs.YtggdjongbmdefaaDoor
