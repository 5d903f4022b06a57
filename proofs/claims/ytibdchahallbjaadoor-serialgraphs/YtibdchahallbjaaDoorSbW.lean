/-
  The statement SerialChecks, walked.
-/
import Derived.Test.YtibdchahallbjaaDoorSeW
import Derived.Test.YtibdchahallbjaaDoorSsW
namespace Go.Proofs.YtibdchahallbjaaDoor
open Go.RowKit

/-- Steps that came in, and what the two listed variables hold. -/
structure InC (w : World) (a : Option Addr) (cap : Nat) (l : List Stp) : Prop where
  max : l.length ≤ maxLen
  cap : l.length ≤ cap
  at_ : StpsQ w a l
  fine : FineAt w
  typ : TypAt w
theorem InC.below {w w' : World} {a : Option Addr} {cap : Nat} {l : List Stp} (h : InC w a cap l) (hb : Below w.heap.size w w') : InC w' a cap l := ⟨h.max, h.cap, h.at_.below hb, h.fine.below hb, h.typ.below hb⟩
theorem doneL_len (l : List Stp) : (doneL l).length ≤ l.length := List.length_filter_le _ _

set_option maxRecDepth 100000 in
set_option maxHeartbeats 4000000 in
theorem sc_walk (l : List Stp) (a : Option Addr) (cap : Nat) (w : World) (h : InC w a cap l) :
    Calls Tryd.prog 7 #[.slice a l.length cap] w fun e w' => e = .returned (.bool true) ∧ Below w.heap.size w w' := by
  have HI := hideIt h
  have hm2 : l.length ≤ 9223372036854775807 := h.max
  clear h
  by_cases h100 : l.length ≤ 100
  · have HC := hideIt (sCheck_any l a cap w HI.out.max HI.out.at_)
    have hd := Nat.le_trans (doneL_len l) h100
    go_enter Tryd.func7, Tryd.ntmps7
    go_wp2_with fail
    refine HC.out.mono ?_
    clear HC
    rintro e w1 ⟨v1, n, pl, rfl, her, hck, hb1⟩
    have HE1 := hideIt her
    have HK := hideIt hck
    have HB1 := hideIt hb1
    have HC := hideIt (mixed_any l a cap w1 h100 (HI.out.below hb1).at_)
    clear her hck hb1
    go_wp2_with fail
    refine HC.out.mono ?_
    clear HC
    rintro e w2 ⟨a2, c2, rfl, hc2, hq2, hb2⟩
    have HB2 := hideIt (belJ HB1.out hb2)
    have HE2 := hideIt (HE1.out.below hb2)
    have HC := hideIt (rSCheck_any l a2 c2 w2 hc2 h100 hq2 (HI.out.below HB2.out).fine)
    clear hq2 hb2
    go_wp2_with fail
    refine HC.out.mono ?_
    clear HC
    rintro e w3 ⟨n3, pl3, rfl, hck3, hb3⟩
    obtain ⟨rfl, rfl⟩ := hck3.one HK.out
    have HB3 := hideIt (belJ HB2.out hb3)
    have HC := hideIt (at_told v1 n3 pl3 w3 (HE2.out.below hb3) (HI.out.below HB3.out).typ)
    clear hck3 hb3 HE1 HE2
    go_wp2_with fail
    refine HC.out.mono ?_
    clear HC
    rintro e w4 ⟨rfl, hb4⟩
    have HB4 := hideIt (belJ HB3.out hb4)
    have HC := hideIt (sDone_any l a cap w4 h100 (HI.out.below HB4.out).at_)
    clear hb4
    go_wp2_with fail
    refine HC.out.mono ?_
    clear HC
    rintro e w5 ⟨v5, rfl, ho5, hb5⟩
    obtain ⟨a5, c5, rfl, hc5, hq5⟩ := stpsQ_ownT ho5
    have HB5 := hideIt (belJ HB4.out hb5)
    have HQ5 := hideIt hq5
    have HC := hideIt (mixed_any l a cap w5 h100 (HI.out.below HB5.out).at_)
    clear ho5 hb5 hq5
    go_wp2_with fail
    refine HC.out.mono ?_
    clear HC
    rintro e w6 ⟨a6, c6, rfl, hc6, hq6, hb6⟩
    have HB6 := hideIt (belJ HB5.out hb6)
    have HQ6 := hideIt (HQ5.out.below hb6)
    have HC := hideIt (rDone_any l a6 c6 w6 h100 hq6)
    clear hq6 hb6
    go_wp2_with fail
    refine HC.out.mono ?_
    clear HC
    rintro e w7 ⟨v7, rfl, ho7, hb7⟩
    obtain ⟨a7, c7, rfl, hc7, hq7⟩ := stpsQ_own ho7
    have HB7 := hideIt (belJ HB6.out hb7)
    have HC := hideIt (sameSteps_any (doneL l) a5 a7 c5 c7 w7 hd (HQ6.out.below hb7) hq7)
    clear ho7 hb7 hq7
    go_wp2_with fail
    refine HC.out.mono ?_
    clear HC
    rintro e w8 ⟨rfl, hb8⟩
    go_wp2
    go_ret
    exact ⟨rfl, belJ HB7.out hb8⟩
  · have h100' : (100 : Int) < l.length := by omega
    go_enter Tryd.func7, Tryd.ntmps7
    go_wp2
    go_ret
    exact ⟨rfl, Below.refl _ _⟩
end Go.Proofs.YtibdchahallbjaaDoor
