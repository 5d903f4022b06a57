/-
  The statement GraphOrders, walked.
-/
import Derived.Test.YtibdchahallbjaaDoorPoW
import Derived.Test.YtibdchahallbjaaDoorFlW
import Derived.Test.YtibdchahallbjaaDoorSmI
namespace Go.Proofs.YtibdchahallbjaaDoor
open Go.RowKit

/-- A graph that came in, and what the listed variable holds. -/
structure InG (w : World) (a : Option Addr) (cap : Nat) (R : List (List Bool)) : Prop where
  max : R.length ≤ maxLen
  row : ∀ r ∈ R, r.length ≤ maxLen
  at_ : GrQ w a R
  typ : TypAt w
theorem InG.below {w w' : World} {a : Option Addr} {cap : Nat} {R : List (List Bool)} (h : InG w a cap R) (hb : Below w.heap.size w w') : InG w' a cap R := ⟨h.max, h.row, h.at_.below hb, h.typ.below hb⟩
theorem oL_len (R : List (List Bool)) : (natI (oL R)).length ≤ 60 := by
  unfold natI oL
  rw [List.length_map]
  split
  · rename_i ok
    cases h : ordG (gB R) R.length R.length with
    | none => simp
    | some L => simp; rw [(ordG_ok h).1]; have := (ckG_ok ok).1; omega
  · simp

set_option maxRecDepth 100000 in
set_option maxHeartbeats 4000000 in
theorem go_walk (R : List (List Bool)) (a : Option Addr) (cap : Nat) (w : World) (h : InG w a cap R) :
    Calls Tryd.prog 3 #[.slice a R.length cap] w fun e w' => e = .returned (.bool true) ∧ Below w.heap.size w w' := by
  have HI := hideIt h
  clear h
  have HF := hideIt (flat_any R a cap w HI.out.max HI.out.row HI.out.at_)
  have HLn := hideIt (oL_len R)
  go_enter Tryd.func3, Tryd.ntmps3
  go_wp2_with fail
  refine HF.out.mono ?_
  clear HF
  rintro e w1 ⟨b, rfl, rfl⟩
  cases b
  · go_wp2
    go_ret
    exact ⟨rfl, Below.refl _ _⟩
  have HC := hideIt (rGCheck_any R a cap w1 HI.out.max HI.out.row HI.out.at_)
  by_cases ok : ckG R = 0
  · have HCd := hideIt (rOrder_any R ok a cap w1 HI.out.at_)
    rw [ok] at HC
    go_wp2_with fail
    refine HC.out.mono ?_
    clear HC
    rintro e w2 ⟨rfl, rfl⟩
    go_wp2_with fail
    refine HCd.out.mono ?_
    clear HCd
    rintro e W ⟨v3, okb, rfl, hcase, hb3⟩
    have HBW := hideIt hb3
    clear hb3
    rcases hcase with ⟨L, hord, rfl, hrow⟩ | ⟨hord, rfl, rfl⟩
    · have HOg : Hid (oG R = 0) := by unfold oG; rw [if_pos ok, hord]; rfl
      have HWant : Hid (HasI W v3 (natI (oL R))) := by
        have e : oL R = L := by unfold oL; rw [if_pos ok, hord]; rfl
        rw [e]; exact hrow.hasI
      clear hord hrow ok
      have HCo := hideIt (gOrder_any R a cap W HI.out.max HI.out.row (HI.out.at_.below HBW.out))
      go_wp2_with fail
      refine HCo.out.mono ?_
      clear HCo
      rintro e w5 ⟨v5, rfl, hrow5, hb5⟩
      have hin5 := HI.out.below (belJ HBW.out hb5)
      have HB5 := hideIt (belJ HBW.out hb5)
      have HH5 := hideIt hrow5.hasI
      have HW5 := hideIt (HWant.out.below hb5)
      have HIn5 := hideIt hin5
      have HBa := hideIt (bare_any (oG R) w5 hin5.typ)
      clear hrow5 hb5 hin5
      rw [HOg.out] at HBa
      rw [HOg.out]
      generalize toldV 0 = tv at HBa ⊢
      go_wp2_with fail
      refine HBa.out.mono ?_
      clear HBa
      rintro e w6 ⟨rfl, hb6⟩
      have HB6 := hideIt (belJ HB5.out hb6)
      have HSa := hideIt (sameInts_any (natI (oL R)) HLn.out v5 v3 w6 (HH5.out.below hb6) (HW5.out.below hb6))
      clear hb6
      go_wp2_with fail
      refine HSa.out.mono ?_
      clear HSa
      rintro e w7 ⟨rfl, hb7⟩
      have HB7 := hideIt (belJ HB6.out hb7)
      clear hb7
      have HCc := hideIt (gCheck_any R a cap w7 HI.out.max HI.out.row (HI.out.at_.below HB7.out))
      have HCr := hideIt (rGCheck_any R a cap w7 HI.out.max HI.out.row (HI.out.at_.below HB7.out))
      have HBb := hideIt (bare_any (ckG R) w7 (HI.out.below HB7.out).typ)
      generalize toldV (ckG R) = cv at HCc HBb
      generalize ckG R = cn at HCr HBb
      go_wp2_with fail
      refine HCc.out.mono ?_
      clear HCc
      rintro e w8 ⟨rfl, rfl⟩
      go_wp2_with fail
      refine HCr.out.mono ?_
      clear HCr
      rintro e w9 ⟨rfl, rfl⟩
      go_wp2_with fail
      refine HBb.out.mono ?_
      clear HBb
      rintro e w10 ⟨rfl, hb10⟩
      go_wp2
      go_ret
      exact ⟨rfl, belJ HB7.out hb10⟩
    · have HOg : Hid (oG R = 11) := by unfold oG; rw [if_pos ok, hord]; rfl
      have HWant : Hid (HasI W (.slice none 0 0) (natI (oL R))) := by
        have e : oL R = [] := by unfold oL; rw [if_pos ok, hord]; rfl
        rw [e]; exact hasI_nil _
      clear hord ok
      have HCo := hideIt (gOrder_any R a cap W HI.out.max HI.out.row (HI.out.at_.below HBW.out))
      go_wp2_with fail
      refine HCo.out.mono ?_
      clear HCo
      rintro e w5 ⟨v5, rfl, hrow5, hb5⟩
      have hin5 := HI.out.below (belJ HBW.out hb5)
      have HB5 := hideIt (belJ HBW.out hb5)
      have HH5 := hideIt hrow5.hasI
      have HW5 := hideIt (HWant.out.below hb5)
      have HIn5 := hideIt hin5
      have HBa := hideIt (bare_any (oG R) w5 hin5.typ)
      clear hrow5 hb5 hin5
      rw [HOg.out] at HBa
      rw [HOg.out]
      generalize toldV 11 = tv at HBa ⊢
      go_wp2_with fail
      refine HBa.out.mono ?_
      clear HBa
      rintro e w6 ⟨rfl, hb6⟩
      have HB6 := hideIt (belJ HB5.out hb6)
      have HSa := hideIt (sameInts_any (natI (oL R)) HLn.out v5 (.slice none 0 0) w6 (HH5.out.below hb6) (HW5.out.below hb6))
      clear hb6
      go_wp2_with fail
      refine HSa.out.mono ?_
      clear HSa
      rintro e w7 ⟨rfl, hb7⟩
      have HB7 := hideIt (belJ HB6.out hb7)
      clear hb7
      have HCc := hideIt (gCheck_any R a cap w7 HI.out.max HI.out.row (HI.out.at_.below HB7.out))
      have HCr := hideIt (rGCheck_any R a cap w7 HI.out.max HI.out.row (HI.out.at_.below HB7.out))
      have HBb := hideIt (bare_any (ckG R) w7 (HI.out.below HB7.out).typ)
      generalize toldV (ckG R) = cv at HCc HBb
      generalize ckG R = cn at HCr HBb
      go_wp2_with fail
      refine HCc.out.mono ?_
      clear HCc
      rintro e w8 ⟨rfl, rfl⟩
      go_wp2_with fail
      refine HCr.out.mono ?_
      clear HCr
      rintro e w9 ⟨rfl, rfl⟩
      go_wp2_with fail
      refine HBb.out.mono ?_
      clear HBb
      rintro e w10 ⟨rfl, hb10⟩
      go_wp2
      go_ret
      exact ⟨rfl, belJ HB7.out hb10⟩
  · have HOg : Hid (oG R = ckG R) := by show oG R = ckG R; unfold oG; rw [if_neg ok]
    have HWant : Hid (HasI w1 (.slice none 0 0) (natI (oL R))) := by
      have e : oL R = [] := by unfold oL; rw [if_neg ok]
      rw [e]; exact hasI_nil _
    have HBW : Hid (Below w1.heap.size w1 w1) := Below.refl _ _
    obtain ⟨cg, HCg⟩ : ∃ cg, Hid (ckG R = cg) := ⟨_, hideIt rfl⟩
    rw [HCg.out] at HC HOg ok
    go_wp2_with fail
    refine HC.out.mono ?_
    clear HC
    rintro e W ⟨rfl, rfl⟩
    have HCo := hideIt (gOrder_any R a cap W HI.out.max HI.out.row (HI.out.at_.below HBW.out))
    go_wp2_with fail
    refine HCo.out.mono ?_
    clear HCo
    rintro e w5 ⟨v5, rfl, hrow5, hb5⟩
    have hin5 := HI.out.below (belJ HBW.out hb5)
    have HB5 := hideIt (belJ HBW.out hb5)
    have HH5 := hideIt hrow5.hasI
    have HW5 := hideIt (HWant.out.below hb5)
    have HIn5 := hideIt hin5
    have HBa := hideIt (bare_any (oG R) w5 hin5.typ)
    clear hrow5 hb5 hin5
    rw [HOg.out] at HBa
    rw [HOg.out]
    generalize toldV cg = tv at HBa ⊢
    go_wp2_with fail
    refine HBa.out.mono ?_
    clear HBa
    rintro e w6 ⟨rfl, hb6⟩
    have HB6 := hideIt (belJ HB5.out hb6)
    have HSa := hideIt (sameInts_any (natI (oL R)) HLn.out v5 (.slice none 0 0) w6 (HH5.out.below hb6) (HW5.out.below hb6))
    clear hb6
    go_wp2_with fail
    refine HSa.out.mono ?_
    clear HSa
    rintro e w7 ⟨rfl, hb7⟩
    have HB7 := hideIt (belJ HB6.out hb7)
    clear hb7
    have HCc := hideIt (gCheck_any R a cap w7 HI.out.max HI.out.row (HI.out.at_.below HB7.out))
    have HCr := hideIt (rGCheck_any R a cap w7 HI.out.max HI.out.row (HI.out.at_.below HB7.out))
    have HBb := hideIt (bare_any (ckG R) w7 (HI.out.below HB7.out).typ)
    generalize toldV (ckG R) = cv at HCc HBb
    generalize ckG R = cn at HCr HBb
    go_wp2_with fail
    refine HCc.out.mono ?_
    clear HCc
    rintro e w8 ⟨rfl, rfl⟩
    go_wp2_with fail
    refine HCr.out.mono ?_
    clear HCr
    rintro e w9 ⟨rfl, rfl⟩
    go_wp2_with fail
    refine HBb.out.mono ?_
    clear HBb
    rintro e w10 ⟨rfl, hb10⟩
    go_wp2
    go_ret
    exact ⟨rfl, belJ HB7.out hb10⟩
end Go.Proofs.YtibdchahallbjaaDoor
