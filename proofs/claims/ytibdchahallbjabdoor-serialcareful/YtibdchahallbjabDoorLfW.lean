/-
  The statement SerialCareful, walked.
-/
import Derived.Test.YtibdchahallbjabDoorCfW
import Derived.Test.YtibdchahallbjabDoorRfW
import Derived.Test.YtibdchahallbjabDoorInS
namespace Go.Proofs.YtibdchahallbjabDoor
open Go.RowKit

set_option maxRecDepth 100000 in
set_option maxHeartbeats 8000000 in
theorem sf_walk (l : List Stp) (a : Option Addr) (cap : Nat) (w : World) (h : InC w a cap l) :
    Calls Tryd.prog 5 #[.slice a l.length cap] w fun e w' => e = .returned (.bool true) ∧ Below w.heap.size w w' := by
  have HI := hideIt h
  have hm2 : l.length ≤ 9223372036854775807 := h.max
  clear h
  by_cases h100 : l.length ≤ 100
  · have HC := hideIt (mixed_any l a cap w h100 HI.out.at_)
    go_enter Tryd.func5, Tryd.ntmps5
    go_wp2_with fail
    refine HC.out.mono ?_
    clear HC
    rintro e w2 ⟨a2, c2, rfl, hc2, hq2, hb2⟩
    have HB2 := hideIt hb2
    have HQ2 := hideIt hq2
    have HC := hideIt (rSCheck_any l a2 c2 w2 hc2 h100 hq2 (HI.out.below hb2).fine)
    clear hq2 hb2
    go_wp2_with fail
    refine HC.out.mono ?_
    clear HC
    rintro e w3 ⟨n, pl, rfl, hck, hb3⟩
    have HK := hideIt hck
    have HB3 := hideIt (belJ HB2.out hb3)
    have HQ3 := hideIt (HQ2.out.below hb3)
    clear hck hb3 HQ2
    unfold fltA
    have HBx : Hid (Below w.heap.size w (w3.alloc (.cells #[.int .i64 n, .int .i64 pl] 27))) := belA HB3.out _
    have HQx := hideIt (HQ3.out.below ((Below.refl _ _).alloc (Nat.le_refl _) (.cells #[.int .i64 n, .int .i64 pl] 27)))
    have c0 : (w3.alloc (.cells #[.int .i64 n, .int .i64 pl] 27)).cell? ⟨w3.heap.size, 0, none⟩ = some (.int .i64 n) := by simp
    have c1 : (w3.alloc (.cells #[.int .i64 n, .int .i64 pl] 27)).cell? ⟨w3.heap.size, 1, none⟩ = some (.int .i64 pl) := by simp
    go_upto_region 6 with fail
    generalize w3.alloc (.cells #[.int .i64 n, .int .i64 pl] 27) = W3 at HBx HQx c0 c1 ⊢
    generalize w3.heap.size = F at c0 c1 ⊢
    clear HB2 HB3 HQ3
    have hFl3 := World.block_lt_of_cell? W3 _ c0
    by_cases hn : n = 0
    · subst hn
      obtain ⟨h60, hok, rfl⟩ := HK.out.ok
      have HC := hideIt (rCareful_any l hok a2 c2 W3 hc2 h60 HQx.out)
      obtain ⟨tr, htr⟩ : ∃ x, x = noneB (badR l) l.length := ⟨_, rfl⟩
      obtain ⟨tc, htc⟩ : ∃ x, x = noneB (badC l) l.length := ⟨_, rfl⟩
      obtain ⟨ts, hts⟩ : ∃ x, x = noneB (badS l) l.length := ⟨_, rfl⟩
      rw [← htr, ← htc, ← hts] at HC
      have HT := hideIt (And.intro htr (And.intro htc hts))
      clear hok htr htc hts
      go_wp2_with fail
      refine HC.out.mono ?_
      clear HC
      rintro e W ⟨rfl, hb4⟩
      have HBW := hideIt (belJ HBx.out hb4)
      have f0 := (hb4.cell (p := ⟨F, 0, none⟩) hFl3).trans c0
      have f1 := (hb4.cell (p := ⟨F, 1, none⟩) hFl3).trans c1
      have hFl : F < W.heap.size := Nat.lt_of_lt_of_le hFl3 hb4.size
      clear hb4 c0 c1
      have HC := hideIt (careful_any l a cap W HI.out.max (HI.out.below HBW.out).at_)
      unfold CfTold at HC
      go_wp2_with fail
      refine HC.out.mono ?_
      clear HC
      rintro e w5 ⟨rr, rc, rs, er5, n5, pl5, rfl, her, hck5, hno5, hok5, hb5⟩
      obtain ⟨hn5, hp5⟩ := hck5.one HK.out
      subst hn5 hp5
      have HB5 := hideIt (belJ HBW.out hb5)
      have d0 := (hb5.cell (p := ⟨F, 0, none⟩) hFl).trans f0
      have d1 := (hb5.cell (p := ⟨F, 1, none⟩) hFl).trans f1
      have hF5 : F < w5.heap.size := World.block_lt_of_cell? w5 _ d0
      obtain ⟨e1, e2, e3⟩ := hok5 rfl
      rw [← HT.out.1] at e1
      rw [← HT.out.2.1] at e2
      rw [← HT.out.2.2] at e3
      subst e1 e2 e3
      clear HT
      clear hck5 hno5 hok5
      have bA : Below w5.heap.size w5 (w5.alloc (.cells #[.bool rr, .bool rc, .bool rs] 48)) := belA (Below.refl _ _) _
      have k0 : (w5.alloc (.cells #[.bool rr, .bool rc, .bool rs] 48)).cell? ⟨w5.heap.size, 0, none⟩ = some (.bool rr) := by simp
      have k1 : (w5.alloc (.cells #[.bool rr, .bool rc, .bool rs] 48)).cell? ⟨w5.heap.size, 1, none⟩ = some (.bool rc) := by simp
      have k2 : (w5.alloc (.cells #[.bool rr, .bool rc, .bool rs] 48)).cell? ⟨w5.heap.size, 2, none⟩ = some (.bool rs) := by simp
      have hKl : w5.heap.size < (w5.alloc (.cells #[.bool rr, .bool rc, .bool rs] 48)).heap.size := by simp
      have HBa := hideIt (belJ HB5.out bA)
      have HC := hideIt (at_told er5 0 (-1) (w5.alloc (.cells #[.bool rr, .bool rc, .bool rs] 48)) (her.below bA) (HI.out.below HBa.out).typ)
      have x0 := (bA.cell (p := ⟨F, 0, none⟩) hF5).trans d0
      have x1 := (bA.cell (p := ⟨F, 1, none⟩) hF5).trans d1
      clear her hb5 f0 f1 bA
      unfold fltA at HC
      go_upto_region 9 with fail
      generalize w5.alloc _ = W5 at HBa HC k0 k1 k2 hKl x0 x1 ⊢
      generalize w5.heap.size = KB at k0 k1 k2 hKl hF5 ⊢
      clear d0 d1 HB5
      go_wp2_with fail
      refine HC.out.mono ?_
      clear HC
      rintro e w6 ⟨rfl, hb6⟩
      have y0 := (hb6.cell (p := ⟨KB, 0, none⟩) hKl).trans k0
      have y1 := (hb6.cell (p := ⟨KB, 1, none⟩) hKl).trans k1
      have y2 := (hb6.cell (p := ⟨KB, 2, none⟩) hKl).trans k2
      have HB6 := hideIt (belJ HBa.out hb6)
      clear hb6 k0 k1 k2 x0 x1
      cases rr <;> cases rc <;> cases rs
      all_goals
        go_wp2
        go_ret
        exact ⟨rfl, HB6.out⟩
    · have HBW := HBx
      have hFl := hFl3
      have f0 := c0
      have f1 := c1
      have hn' : (n == 0) = false := by simp [hn]
      clear c0 c1
      have HC := hideIt (careful_any l a cap W3 HI.out.max (HI.out.below HBW.out).at_)
      unfold CfTold at HC
      go_wp2_with fail
      refine HC.out.mono ?_
      clear HC
      rintro e w5 ⟨rr, rc, rs, er5, n5, pl5, rfl, her, hck5, hno5, hok5, hb5⟩
      obtain ⟨rfl, rfl⟩ := hck5.one HK.out
      have HB5 := hideIt (belJ HBW.out hb5)
      have d0 := (hb5.cell (p := ⟨F, 0, none⟩) hFl).trans f0
      have d1 := (hb5.cell (p := ⟨F, 1, none⟩) hFl).trans f1
      have hF5 : F < w5.heap.size := World.block_lt_of_cell? w5 _ d0
      obtain ⟨rfl, rfl, rfl⟩ := hno5 hn
      clear hck5 hno5 hok5
      have bA : Below w5.heap.size w5 (w5.alloc (.cells #[.bool false, .bool false, .bool false] 48)) := belA (Below.refl _ _) _
      have k0 : (w5.alloc (.cells #[.bool false, .bool false, .bool false] 48)).cell? ⟨w5.heap.size, 0, none⟩ = some (.bool false) := by simp
      have k1 : (w5.alloc (.cells #[.bool false, .bool false, .bool false] 48)).cell? ⟨w5.heap.size, 1, none⟩ = some (.bool false) := by simp
      have k2 : (w5.alloc (.cells #[.bool false, .bool false, .bool false] 48)).cell? ⟨w5.heap.size, 2, none⟩ = some (.bool false) := by simp
      have hKl : w5.heap.size < (w5.alloc (.cells #[.bool false, .bool false, .bool false] 48)).heap.size := by simp
      have HBa := hideIt (belJ HB5.out bA)
      have HC := hideIt (at_told er5 n5 pl5 (w5.alloc (.cells #[.bool false, .bool false, .bool false] 48)) (her.below bA) (HI.out.below HBa.out).typ)
      have x0 := (bA.cell (p := ⟨F, 0, none⟩) hF5).trans d0
      have x1 := (bA.cell (p := ⟨F, 1, none⟩) hF5).trans d1
      clear her hb5 f0 f1 bA
      unfold fltA at HC
      go_upto_region 9 with fail
      generalize w5.alloc _ = W5 at HBa HC k0 k1 k2 hKl x0 x1 ⊢
      generalize w5.heap.size = KB at k0 k1 k2 hKl hF5 ⊢
      clear d0 d1 HB5
      go_wp2_with fail
      refine HC.out.mono ?_
      clear HC
      rintro e w6 ⟨rfl, hb6⟩
      have y0 := (hb6.cell (p := ⟨KB, 0, none⟩) hKl).trans k0
      have y1 := (hb6.cell (p := ⟨KB, 1, none⟩) hKl).trans k1
      have y2 := (hb6.cell (p := ⟨KB, 2, none⟩) hKl).trans k2
      have HB6 := hideIt (belJ HBa.out hb6)
      clear hb6 k0 k1 k2 x0 x1
      go_wp2
      go_ret
      exact ⟨rfl, HB6.out⟩
  · have h100' : (100 : Int) < l.length := by omega
    go_enter Tryd.func5, Tryd.ntmps5
    go_wp2
    go_ret
    exact ⟨rfl, Below.refl _ _⟩
end Go.Proofs.YtibdchahallbjabDoor
