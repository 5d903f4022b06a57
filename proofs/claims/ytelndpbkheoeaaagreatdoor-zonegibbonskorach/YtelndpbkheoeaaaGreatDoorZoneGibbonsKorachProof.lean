/-
  Proved: whatever ops are handed in, the statement ZoneGibbonsKorach (Gibbons and Korach: zones fit just if the search finds an order, chapter 5) returns true, and what was handed in reads behind the call as before; the listed variables hold what the text of the program lays.
-/
import Derived.Test.YtelndpbkheoeaaaGreatDoorCards
import Derived.Test.YtelndpbkheoeaaaGreatDoorTie
import Derived.Test.YtelndpbkheoeaaaGreatDoorOpenL
import Derived.Test.YtelndpbkheoeaaaGreatDoorZonWZ
namespace Go.Proofs.YtelndpbkheoeaaaGreatDoor
open Go.ChangeShapes Go.WideShapes Go.ChangeAt Go.RowKit

def laidZoneGibbonsKorach : List (String × DataW Unit) := [("math/bits.deBruijn32tab", Rows.laid_math_bits_deBruijn32tab), ("math/bits.deBruijn64tab", Rows.laid_math_bits_deBruijn64tab), ("internal/strconv.uint64pow10", Rows.laid_internal_strconv_uint64pow10), ("errors.errorType", Rows.laid_errors_errorType), ("testimony/model.known", Rows.laid_testimony_model_known)]
theorem knownZoneGibbonsKorach {W : World} (h : laidMetH Tryz.prog laidZoneGibbonsKorach W) : KnownAt W := known_of (laidMetH.filter (fun x => x.1 == "testimony/model.known") h)

theorem readZoneGibbonsKorach : ∀ t ∈ [22], Tryz.prog.readableRec t = true ∧ t < Tryz.prog.types.size := by
  intro t ht
  simp only [List.mem_cons, List.not_mem_nil, or_false] at ht
  rcases ht with rfl <;> exact ⟨by kernel_rfl, of_decide_eq_true (by kernel_rfl)⟩

theorem zoneGibbonsKorach_door_met (os : Os) (args : Array Value) : laidMetH Tryz.prog laidZoneGibbonsKorach ((World.doorLaid Tryz.prog 92 os).forCall (fun _ _ => 0) ⟨#[], args, []⟩).memory :=
  laidMetH_of_parts3 (fuel := 8) (laidMet_of_run' 8 (by kernel_rfl) (by kernel_rfl)) (by kernel_rfl) (by kernel_rfl)

set_option maxRecDepth 100000 in
theorem zoneGibbonsKorach_lifted (os : Os) (started : os.Started) (H : Type) (enc : TypeId × Value → H) :
    ReturnsInHanded {} Tryz.checked os 3 .any (fun w args => (Rows.zoneGibbonsKorachSpec.pre enc Tryz.prog Tryz.f3 [] false w args ∧ laidMetH Tryz.prog laidZoneGibbonsKorach w) ∧ sizedMet enc Tryz.prog Tryz.f3 (OpenSpec.ofChange Rows.zoneGibbonsKorachSpec) false w args)
      (Rows.zoneGibbonsKorachSpec.post enc Tryz.prog Tryz.f3 false true false false) := by
  refine returnsInHanded_of_change_and (C := Tryz.checked) (X := fun w _ => laidMetH Tryz.prog laidZoneGibbonsKorach w) (fun _ _ _ hh h => h.of_heap hh) own started (by kernel_rfl) Tryz.func3
    (ChangeSpec.witness_shaped (enc := enc) (C := Tryz.checked) (os := os) (X := fun w _ => laidMetH Tryz.prog laidZoneGibbonsKorach w) false (World.doorLaid Tryz.prog 92 os) #[.slice none 0 0] 8 rfl (World.shaped_of_RefB (by kernel_rfl) (by kernel_rfl)) (by kernel_rfl) (by kernel_rfl) (by kernel_rfl) (zoneGibbonsKorach_door_met os _)) ?_
  intro W base args ds gs before hval0 hW _ _ hL _
  have hval : ∀ (j : Nat) t v, Tryz.f3.params[j]? = some t → args[j]? = some v → Value.okWide Tryz.prog W .any base t v := hval0
  have hW' := hW
  obtain ⟨p, q, hA0, hV, rfl, hfz, hnd⟩ := hW
  have hA : DataW.TrodAll enc Tryz.prog W 0 (fun _ => true) true Tryz.f3.params.toList args.toList ds p := hA0
  rw [Tryz.params3] at hA hval
  have hA1 := hA
  obtain ⟨v0, vs0, d0, ds0, p0, q0, e0, rfl, rfl, h0, hA⟩ := trodAll_cons hA
  obtain ⟨rfl, rfl, rfl⟩ := trodAll_nil hA
  obtain rfl : args = #[v0] := by
    rw [← Array.toArray_toList (xs := args), e0]
  obtain ⟨rfl, rfl⟩ := trodVars_none hV
  obtain ⟨A0, len0, cap0, rfl⟩ := okWide_slice Tryz.underlying22 (hval 0 22 v0 rfl rfl)
  obtain ⟨l0, hl0⟩ := opsIn_of_Trod h0
  have hK := knownZoneGibbonsKorach hL
  have hg := handle_of hL (by simp [laidZoneGibbonsKorach])
  clear hA0 hval0
  refine (gk_walk l0 _ W hl0 hK hg).mono fun e W' ⟨he, bel⟩ => ?_
  subst he
  exact ⟨_, rfl, _, _, _, [], _, [], hW', trodAll_mk1 (shut_bool Tryz.underlying4 _), trodAll_belowP laidOut bel readZoneGibbonsKorach hA1, rfl, bel.frame _, fun h => by cases h⟩

theorem zoneGibbonsKorach_row : Rows.ZoneGibbonsKorachSaid :=
  OpenClaim.holds_of_wide 3 Tryz.f3 rfl rfl rfl rfl rfl rfl rfl ⟨rfl, rfl, rfl, rfl, rfl⟩ rfl rfl rfl rfl rfl (by kernel_rfl) Tryz.func3 (by kernel_rfl)
    (of_decide_eq_true (by kernel_rfl)) (by unfold Func.isWrapper; rw [if_neg (of_decide_eq_false (by kernel_rfl))]; exact ⟨rfl, rfl⟩)
    (fun os started H enc _ => zoneGibbonsKorach_lifted os started H enc)

theorem zoneGibbonsKorach_holds : Rows.ZoneGibbonsKorachCardSaid :=
  Claim7.holds_tied_plain_at .later [] [.data, .data, .data, .handle, .data] true (true, "50a23e4bcf9b024b07bdddcd717d067f43af3927437a27e43179c80f40a72fd3") true
    zoneGibbonsKorach_row (fun _ h => by cases h) (by kernel_rfl) (fun _ h => by cases h) zoneGibbonsKorach_row_tie rfl ⟨rfl, rfl⟩ (by kernel_rfl) rfl
    (fun f fn hf hfn => by
      obtain rfl : f = 3 := Option.some.inj ((show Tryz.prog.funcNamed "testimony/testimonykeep.ZoneGibbonsKorach" = some 3 by kernel_rfl).symm.trans hf) |>.symm
      obtain rfl : fn = Tryz.f3 := (Option.some.inj (Tryz.func3.symm.trans hfn)).symm
      exact ⟨by kernel_rfl, fun j t ht => by
        rw [Tryz.params3] at ht
        have hm : t ∈ [22] := by simpa using Array.mem_of_getElem? ht
        have hall : ([22].all fun u => !Tryz.prog.wantsStandIn u) = true := by kernel_rfl
        exact (show Tryz.prog.wantsStandIn t = false by simpa using List.all_eq_true.1 hall t hm)⟩)
    (by kernel_rfl)
#print axioms zoneGibbonsKorach_holds
end Go.Proofs.YtelndpbkheoeaaaGreatDoor
