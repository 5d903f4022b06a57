/-
  The statement GraphCycles, walked.
-/
import Derived.Test.YtibdchahallbjaaDoorPyW
import Derived.Test.YtibdchahallbjaaDoorCyD
namespace Go.Proofs.YtibdchahallbjaaDoor
open Go.RowKit

theorem eq26_nil (W : World) : (binOp .eql 26 (.slice none 0 0) (.slice none 0 0)).run Tryd.prog W = .ok (.bool true) W := by kernel_rfl
theorem eq26_some (p : Addr) (m c : Nat) (W : World) : (binOp .eql 26 (.slice (some p) m c) (.slice none 0 0)).run Tryd.prog W = .ok (.bool false) W := by kernel_rfl
theorem cyL_len (R : List (List Bool)) : (natI (cyL R)).length ≤ 60 := by
  unfold natI cyL
  rw [List.length_map]
  split
  · rename_i ok
    rcases cycD_spec (gB R) R.length with ⟨d, e, hd⟩ | ⟨e, _⟩
    · rw [e]
      have := cyc_few hd.cyc (cyc_simple hd.cyc hd.short)
      have := (ckG_ok ok).1
      simp; omega
    · rw [e]; simp
  · simp

set_option maxRecDepth 100000 in
set_option maxHeartbeats 4000000 in
theorem gy_walk (R : List (List Bool)) (a : Option Addr) (cap : Nat) (w : World) (h : InG w a cap R) :
    Calls Tryd.prog 4 #[.slice a R.length cap] w fun e w' => e = .returned (.bool true) ∧ Below w.heap.size w w' := by
  have HI := hideIt h
  have hm2 : R.length ≤ 9223372036854775807 := h.max
  clear h
  have HF := hideIt (flat_any R a cap w HI.out.max HI.out.row HI.out.at_)
  have HLn := hideIt (cyL_len R)
  go_enter Tryd.func4, Tryd.ntmps4
  go_wp2_with fail
  refine HF.out.mono ?_
  clear HF
  rintro e w1 ⟨b, rfl, rfl⟩
  cases b
  · go_wp2
    go_ret
    exact ⟨rfl, Below.refl _ _⟩
  by_cases hmid : 6 < R.length ∧ R.length ≤ 40
  · have h1 := hmid.1
    have h2 := hmid.2
    have h1' : (6 : Int) < R.length := by omega
    have h2' : (R.length : Int) ≤ 40 := by omega
    clear hmid
    go_wp2
    go_ret
    exact ⟨rfl, Below.refl _ _⟩
  have HC := hideIt (rGCheck_any R a cap w1 HI.out.max HI.out.row HI.out.at_)
  have HMid : Hid ((R.length ≤ 6) ∨ (40 < R.length)) := by show (R.length ≤ 6) ∨ (40 < R.length); omega
  clear hmid
  by_cases ok : ckG R = 0
  · have h40 := (ckG_ok ok).1
    have h6 : R.length ≤ 6 := by rcases HMid.out with h | h <;> omega
    have HCd := hideIt (rCycle_any R ok a cap w1 HI.out.at_)
    rw [ok] at HC
    go_wp2_with fail
    refine HC.out.mono ?_
    clear HC
    rintro e w2 ⟨rfl, rfl⟩
    go_wp2_with fail
    refine HCd.out.mono ?_
    clear HCd
    rintro e W ⟨v3, rfl, hcase, hb3⟩
    have HBW := hideIt hb3
    clear hb3
    rcases hcase with ⟨hno, rfl⟩ | ⟨c, hc, hrow⟩
    · have HOg : Hid (cyG R = 8) := by unfold cyG; rw [if_pos ok, hno]; rfl
      have HWant : Hid (HasI W (.slice none 0 0) (natI (cyL R))) := by
        have e : cyL R = [] := by unfold cyL; rw [if_pos ok, hno]; rfl
        rw [e]; exact hasI_nil _
      clear hno ok
      have e26 := eq26_nil W
      have HCo := hideIt (gCycle_any R a cap W HI.out.max HI.out.row (HI.out.at_.below HBW.out))
      go_wp2_with fail
      refine HCo.out.mono ?_
      clear HCo
      rintro e w5 ⟨v5, rfl, hrow5, hb5⟩
      have HB5 := hideIt (belJ HBW.out hb5)
      have HH5 := hideIt hrow5.hasI
      have HW5 := hideIt (HWant.out.below hb5)
      have HBa := hideIt (bare_any (cyG R) w5 (HI.out.below HB5.out).typ)
      clear hrow5 hb5
      rw [HOg.out] at HBa
      rw [HOg.out]
      generalize toldV 8 = tv at HBa ⊢
      go_wp2_with fail
      refine HBa.out.mono ?_
      clear HBa
      rintro e w6 ⟨rfl, hb6⟩
      have HB6 := hideIt (belJ HB5.out hb6)
      have HSa := hideIt (sameInts_any (natI (cyL R)) HLn.out v5 (.slice none 0 0) w6 (HH5.out.below hb6) (HW5.out.below hb6))
      clear hb6
      go_wp2_with fail
      refine HSa.out.mono ?_
      clear HSa
      rintro e w7 ⟨rfl, hb7⟩
      go_wp2
      go_ret
      exact ⟨rfl, belJ HB6.out hb7⟩
    · have HOg : Hid (cyG R = 0) := by unfold cyG; rw [if_pos ok, hc]; rfl
      have hcl : cyL R = c := by unfold cyL; rw [if_pos ok, hc]; rfl
      have hpos : 0 < (natI c).length := by
        rcases cycD_spec (gB R) R.length with ⟨d, e, hd⟩ | ⟨e, _⟩
        · rw [hc] at e
          obtain rfl := Option.some.inj e
          unfold natI; rw [List.length_map]; exact hd.cyc.2.1
        · rw [hc] at e; cases e
      obtain ⟨va, vc, rfl, hvc, hvr⟩ := hrow
      obtain ⟨vg, vo, rfl, hv0⟩ := hvr 0 hpos
      clear hv0
      have HWant : Hid (HasI W (.slice (some ⟨vg, vo, none⟩) (natI c).length vc) (natI (cyL R))) := by
        rw [hcl]; exact ⟨_, vc, rfl, hvc, hvr⟩
      clear hc ok hvr hcl hpos
      have e26 := eq26_some ⟨vg, vo, none⟩ (natI c).length vc W
      have HCo := hideIt (gCycle_any R a cap W HI.out.max HI.out.row (HI.out.at_.below HBW.out))
      go_wp2_with fail
      refine HCo.out.mono ?_
      clear HCo
      rintro e w5 ⟨v5, rfl, hrow5, hb5⟩
      have HB5 := hideIt (belJ HBW.out hb5)
      have HH5 := hideIt hrow5.hasI
      have HW5 := hideIt (HWant.out.below hb5)
      have HBa := hideIt (bare_any (cyG R) w5 (HI.out.below HB5.out).typ)
      clear hrow5 hb5
      rw [HOg.out] at HBa
      rw [HOg.out]
      generalize toldV 0 = tv at HBa ⊢
      go_wp2_with fail
      refine HBa.out.mono ?_
      clear HBa
      rintro e w6 ⟨rfl, hb6⟩
      have HB6 := hideIt (belJ HB5.out hb6)
      have HSa := hideIt (sameInts_any (natI (cyL R)) HLn.out v5 (.slice (some ⟨vg, vo, none⟩) (natI c).length vc) w6 (HH5.out.below hb6) (HW5.out.below hb6))
      clear hb6
      go_wp2_with fail
      refine HSa.out.mono ?_
      clear HSa
      rintro e w7 ⟨rfl, hb7⟩
      go_wp2
      go_ret
      exact ⟨rfl, belJ HB6.out hb7⟩
  · have HOg : Hid (cyG R = ckG R) := by show cyG R = ckG R; unfold cyG; rw [if_neg ok]
    have HWant : Hid (HasI w1 (.slice none 0 0) (natI (cyL R))) := by
      have e : cyL R = [] := by unfold cyL; rw [if_neg ok]
      rw [e]; exact hasI_nil _
    have HBW : Hid (Below w1.heap.size w1 w1) := Below.refl _ _
    obtain ⟨cg, HCg⟩ : ∃ cg, Hid (ckG R = cg) := ⟨_, hideIt rfl⟩
    rw [HCg.out] at HC HOg ok
    rcases HMid.out with h6 | h40
    · go_wp2_with fail
      refine HC.out.mono ?_
      clear HC
      rintro e W ⟨rfl, rfl⟩
      have HCo := hideIt (gCycle_any R a cap W HI.out.max HI.out.row (HI.out.at_.below HBW.out))
      go_wp2_with fail
      refine HCo.out.mono ?_
      clear HCo
      rintro e w5 ⟨v5, rfl, hrow5, hb5⟩
      have HB5 := hideIt (belJ HBW.out hb5)
      have HH5 := hideIt hrow5.hasI
      have HW5 := hideIt (HWant.out.below hb5)
      have HBa := hideIt (bare_any (cyG R) w5 (HI.out.below HB5.out).typ)
      clear hrow5 hb5
      rw [HOg.out] at HBa
      rw [HOg.out]
      generalize toldV cg = tv at HBa ⊢
      go_wp2_with fail
      refine HBa.out.mono ?_
      clear HBa
      rintro e w6 ⟨rfl, hb6⟩
      have HB6 := hideIt (belJ HB5.out hb6)
      have HSa := hideIt (sameInts_any (natI (cyL R)) HLn.out v5 (.slice none 0 0) w6 (HH5.out.below hb6) (HW5.out.below hb6))
      clear hb6
      go_wp2_with fail
      refine HSa.out.mono ?_
      clear HSa
      rintro e w7 ⟨rfl, hb7⟩
      go_wp2
      go_ret
      exact ⟨rfl, belJ HB6.out hb7⟩
    · have h6' : (6 : Int) < R.length := by omega
      have h40' : ¬ (R.length : Int) ≤ 40 := by omega
      go_wp2_with fail
      refine HC.out.mono ?_
      clear HC
      rintro e W ⟨rfl, rfl⟩
      have HCo := hideIt (gCycle_any R a cap W HI.out.max HI.out.row (HI.out.at_.below HBW.out))
      go_wp2_with fail
      refine HCo.out.mono ?_
      clear HCo
      rintro e w5 ⟨v5, rfl, hrow5, hb5⟩
      have HB5 := hideIt (belJ HBW.out hb5)
      have HH5 := hideIt hrow5.hasI
      have HW5 := hideIt (HWant.out.below hb5)
      have HBa := hideIt (bare_any (cyG R) w5 (HI.out.below HB5.out).typ)
      clear hrow5 hb5
      rw [HOg.out] at HBa
      rw [HOg.out]
      generalize toldV cg = tv at HBa ⊢
      go_wp2_with fail
      refine HBa.out.mono ?_
      clear HBa
      rintro e w6 ⟨rfl, hb6⟩
      have HB6 := hideIt (belJ HB5.out hb6)
      have HSa := hideIt (sameInts_any (natI (cyL R)) HLn.out v5 (.slice none 0 0) w6 (HH5.out.below hb6) (HW5.out.below hb6))
      clear hb6
      go_wp2_with fail
      refine HSa.out.mono ?_
      clear HSa
      rintro e w7 ⟨rfl, hb7⟩
      go_wp2
      go_ret
      exact ⟨rfl, belJ HB6.out hb7⟩
end Go.Proofs.YtibdchahallbjaaDoor
