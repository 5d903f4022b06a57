/-
  The statement SerialGraphs, walked.
-/
import Derived.Test.YtibdchahallbjaaDoorPrW
import Derived.Test.YtibdchahallbjaaDoorSbW
import Derived.Test.YtibdchahallbjaaDoorGcW
namespace Go.Proofs.YtibdchahallbjaaDoor
open Go.RowKit

set_option maxRecDepth 100000 in
set_option maxHeartbeats 4000000 in
theorem sg_walk (l : List Stp) (a : Option Addr) (cap : Nat) (w : World) (h : InC w a cap l) :
    Calls Tryd.prog 8 #[.slice a l.length cap] w fun e w' => e = .returned (.bool true) ∧ Below w.heap.size w w' := by
  have HI := hideIt h
  have hm2 : l.length ≤ 9223372036854775807 := h.max
  clear h
  by_cases h100 : l.length ≤ 100
  · have HC := hideIt (mixed_any l a cap w h100 HI.out.at_)
    go_enter Tryd.func8, Tryd.ntmps8
    go_wp2_with fail
    refine HC.out.mono ?_
    clear HC
    rintro e w2 ⟨a2, c2, rfl, hc2, hq2, hb2⟩
    have HB2 := hideIt hb2
    have HQ2 := hideIt hq2
    have HC := hideIt (rSCheck_any l a2 c2 w2 hc2 h100 hq2 (HI.out.below hb2).fine)
    clear hq2 hb2
    go_wp2_with fail
    refine HC.out.mono ?_
    clear HC
    rintro e w3 ⟨n, pl, rfl, hck, hb3⟩
    have HK := hideIt hck
    have HB3 := hideIt (belJ HB2.out hb3)
    have HQ3 := hideIt (HQ2.out.below hb3)
    clear hck hb3 HQ2
    unfold fltA
    have HBx : Hid (Below w.heap.size w (w3.alloc (.cells #[.int .i64 n, .int .i64 pl] 49))) := belA HB3.out _
    have HQx := hideIt (HQ3.out.below ((Below.refl _ _).alloc (Nat.le_refl _) (.cells #[.int .i64 n, .int .i64 pl] 49)))
    have c0 : (w3.alloc (.cells #[.int .i64 n, .int .i64 pl] 49)).cell? ⟨w3.heap.size, 0, none⟩ = some (.int .i64 n) := by simp
    have c1 : (w3.alloc (.cells #[.int .i64 n, .int .i64 pl] 49)).cell? ⟨w3.heap.size, 1, none⟩ = some (.int .i64 pl) := by simp
    go_upto_region 6 with fail
    generalize w3.alloc (.cells #[.int .i64 n, .int .i64 pl] 49) = W3 at HBx HQx c0 c1 ⊢
    generalize w3.heap.size = F at c0 c1 ⊢
    clear HB2 HB3 HQ3
    have hFl3 := World.block_lt_of_cell? W3 _ c0
    by_cases hn : n = 0
    · subst hn
      obtain ⟨h60, hok, rfl⟩ := HK.out.ok
      have HC := hideIt (rSGraph_any l (fun s hs => by
        obtain ⟨i, hi, rfl⟩ := List.getElem_of_mem hs
        have := (fltQ_zero (hok i hi)).1
        rwa [stZ_at hi] at this) a2 c2 W3 h100 HQx.out)
      unfold SgTold at HC
      clear hok
      go_wp2_with fail
      refine HC.out.mono ?_
      clear HC
      rintro e W ⟨v4, gs4, A4, rfl, hout4, hgs4, hA4, hb4⟩
      have HBW := hideIt (belJ HBx.out hb4)
      have HR4 := hideIt (hout4.readM hgs4)
      have HA4 := hideIt hA4
      have f0 := (hb4.cell (p := ⟨F, 0, none⟩) hFl3).trans c0
      have f1 := (hb4.cell (p := ⟨F, 1, none⟩) hFl3).trans c1
      have hFl : F < W.heap.size := Nat.lt_of_lt_of_le hFl3 hb4.size
      clear hout4 hA4 hb4 c0 c1 hgs4
      have HC := hideIt (sGraph_any l a cap W HI.out.max (HI.out.below HBW.out).at_)
      unfold PgTold at HC
      go_wp2_with fail
      refine HC.out.mono ?_
      clear HC
      rintro e w5 ⟨v5, er5, n5, pl5, rfl, her, hck5, hno5, hok5, hb5⟩
      obtain ⟨rfl, rfl⟩ := hck5.one HK.out
      have HB5 := hideIt (belJ HBW.out hb5)
      have d0 := (hb5.cell (p := ⟨F, 0, none⟩) hFl).trans f0
      have d1 := (hb5.cell (p := ⟨F, 1, none⟩) hFl).trans f1
      have HC := hideIt (at_told er5 0 (-1) w5 her (HI.out.below HB5.out).typ)
      obtain ⟨G5, rb5, A5, rfl, hM5, hA5⟩ := hok5 rfl
      have HW5 := hideIt (HR4.out.below hb5)
      have HV5 : Hid (ReadM w5 (.slice (some ⟨G5, 0, none⟩) 8 8) 8 A4) := hM5.readM.same fun i k hi hk => by
        have h1 := hA5 i k hi hk
        have h2 := HA4.out i k hi hk
        cases e1 : A5 i k <;> cases e2 : A4 i k <;> simp [e1, e2] at h1 h2 <;> first | rfl | exact absurd h1 h2 | exact absurd h2 h1
      clear hM5 hA5
      clear her hck5 hno5 hok5 hb5 f0 f1
      unfold fltA at HC
      go_wp2_with fail
      refine HC.out.mono ?_
      clear HC
      rintro e w6 ⟨rfl, hb6⟩
      have HB6 := hideIt (belJ HB5.out hb6)
      have HC := hideIt (sameBools_any 8 (by decide) A4 (.slice (some ⟨G5, 0, none⟩) 8 8) v4 w6 (HV5.out.below hb6) (HW5.out.below hb6))
      clear hb6
      go_wp2_with fail
      refine HC.out.mono ?_
      clear HC
      rintro e w7 ⟨rfl, hb7⟩
      go_wp2
      go_ret
      exact ⟨rfl, belJ HB6.out hb7⟩
    · have HBW := HBx
      have hFl := hFl3
      have f0 := c0
      have f1 := c1
      have hn' : ¬ (n = 0) := hn
      clear c0 c1
      generalize W3 = W at *
      have HC := hideIt (sGraph_any l a cap W HI.out.max (HI.out.below HBW.out).at_)
      unfold PgTold at HC
      go_wp2_with fail
      refine HC.out.mono ?_
      clear HC
      rintro e w5 ⟨v5, er5, n5, pl5, rfl, her, hck5, hno5, hok5, hb5⟩
      obtain ⟨rfl, rfl⟩ := hck5.one HK.out
      have HB5 := hideIt (belJ HBW.out hb5)
      have d0 := (hb5.cell (p := ⟨F, 0, none⟩) hFl).trans f0
      have d1 := (hb5.cell (p := ⟨F, 1, none⟩) hFl).trans f1
      have HC := hideIt (at_told er5 n5 pl5 w5 her (HI.out.below HB5.out).typ)
      obtain rfl := hno5 hn
      have HW5 : Hid (ReadM w5 (.slice none 0 0) 0 (fun _ _ => false)) := readM_nil _ _
      have HV5 : Hid (ReadM w5 (.slice none 0 0) 0 (fun _ _ => false)) := readM_nil _ _
      clear her hck5 hno5 hok5 hb5 f0 f1
      unfold fltA at HC
      go_wp2_with fail
      refine HC.out.mono ?_
      clear HC
      rintro e w6 ⟨rfl, hb6⟩
      have HB6 := hideIt (belJ HB5.out hb6)
      have HC := hideIt (sameBools_any 0 (by decide) (fun _ _ => false) (.slice none 0 0) (.slice none 0 0) w6 (HV5.out.below hb6) (HW5.out.below hb6))
      clear hb6
      go_wp2_with fail
      refine HC.out.mono ?_
      clear HC
      rintro e w7 ⟨rfl, hb7⟩
      go_wp2
      go_ret
      exact ⟨rfl, belJ HB6.out hb7⟩
  · have h100' : (100 : Int) < l.length := by omega
    go_enter Tryd.func8, Tryd.ntmps8
    go_wp2
    go_ret
    exact ⟨rfl, Below.refl _ _⟩
end Go.Proofs.YtibdchahallbjaaDoor
