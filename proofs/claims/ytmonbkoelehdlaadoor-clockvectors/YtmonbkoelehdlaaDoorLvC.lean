/-
  The statement ClockVectors, walked.
-/
import Derived.Test.YtmonbkoelehdlaaDoorLcW
import Derived.Test.YtmonbkoelehdlaaDoorVrW
import Derived.Test.YtmonbkoelehdlaaDoorEqV
namespace Go.Proofs.YtmonbkoelehdlaaDoor
open Go.RowKit

set_option maxRecDepth 100000 in
set_option maxHeartbeats 4000000 in
theorem cv_walk (l : List Stp) (a : Option Addr) (cap : Nat) (w : World) (h : InC w a cap l) :
    Calls Tryd.prog 4 #[.slice a l.length cap] w fun e w' => e = .returned (.bool true) ∧ Below w.heap.size w w' := by
  have HI := hideIt h
  have hmax := h.max
  clear h
  by_cases h60 : l.length ≤ 60
  · have HS := hideIt (steps_any l a cap w h60 HI.out.at_)
    go_enter Tryd.func4, Tryd.ntmps4
    go_wp2_with fail
    refine HS.out.mono ?_
    rintro e w1 ⟨a', cap', rfl, hc', hq', hb1⟩
    have HB1 := hideIt hb1
    have HQ1 := hideIt hq'
    have HC := hideIt (rCheck_any l a' cap' w1 hc' h60 hq' (HI.out.fine.below hb1))
    clear hb1 hq' HS
    go_wp2_with fail
    refine HC.out.mono ?_
    rintro e w2 ⟨n, pl, rfl, hck, hb2⟩
    have HCk := hideIt hck
    have HB2 := hideIt (belJ HB1.out hb2)
    have HQ2 := hideIt (HQ1.out.below hb2)
    clear hck hb2 HC HQ1
    unfold fltA
    have HBx : Hid (Below w.heap.size w (w2.alloc (.cells #[.int .i64 n, .int .i64 pl] 27))) := belA HB2.out _
    have HQx := hideIt (HQ2.out.below ((Below.refl _ _).alloc (Nat.le_refl _) (.cells #[.int .i64 n, .int .i64 pl] 27)))
    have c0 : (w2.alloc (.cells #[.int .i64 n, .int .i64 pl] 27)).cell? ⟨w2.heap.size, 0, none⟩ = some (.int .i64 n) := by simp
    have c1 : (w2.alloc (.cells #[.int .i64 n, .int .i64 pl] 27)).cell? ⟨w2.heap.size, 1, none⟩ = some (.int .i64 pl) := by simp
    go_upto_region 5 with fail
    generalize w2.alloc (.cells #[.int .i64 n, .int .i64 pl] 27) = W at HBx HQx c0 c1 ⊢
    generalize w2.heap.size = G at c0 c1 ⊢
    clear HB1 HB2 HQ2
    have HKeep : Hid (∀ W', Below W.heap.size W W' → InC W' a cap l ∧ W'.cell? ⟨G, 0, none⟩ = some (.int .i64 n) ∧ W'.cell? ⟨G, 1, none⟩ = some (.int .i64 pl) ∧ Below w.heap.size w W') := fun W' hW => by
      have hb := belJ HBx.out hW
      have hG := World.block_lt_of_cell? W _ c0
      exact ⟨⟨hmax, HI.out.cap, HI.out.at_.below hb, HI.out.fine.below hb, HI.out.typ.below hb⟩, (hW.cell (p := ⟨G, 0, none⟩) hG).trans c0, (hW.cell (p := ⟨G, 1, none⟩) hG).trans c1, hb⟩
    obtain ⟨hin3, _, _, _⟩ := HKeep.out W (Below.refl _ _)
    have HC := hideIt (vectors_any l a cap W hmax hin3.at_)
    clear hin3
    go_wp2_with fail
    refine HC.out.mono ?_
    rintro e w4 ⟨v4, err, n4, pl4, rfl, hck, her, hno, hok, hb4⟩
    obtain ⟨rfl, rfl⟩ := hck.one HCk.out
    have HB4 := hideIt hb4
    obtain ⟨hin4, d0, d1, hbw4⟩ := HKeep.out w4 hb4
    by_cases hn : n4 = 0
    · subst hn
      obtain ⟨rfl, rfl⟩ := her.nil
      obtain ⟨g4, rfl, _, hv4⟩ := hok rfl
      have HV4 := hideIt hv4
      have HR := hideIt (rVectors_any l HCk.out.clOk a' cap' w4 (HQx.out.below hb4))
      clear hck her hno hok hb4 hin4 hbw4 HC c0 c1 hv4
      go_wp2_with fail
      refine HR.out.mono ?_
      rintro e w5 ⟨g5, rfl, hv5, hb5⟩
      have HV5 := hideIt hv5
      have HV45 := hideIt (HV4.out.below hb5 HV4.out.lt)
      have HB5 := hideIt (belJ HB4.out hb5)
      clear hv5 hb5 HR d0 d1
      go_wp2
      go_loopw [8] (fun i wr => ∃ k : Nat, k ≤ l.length ∧ i = .int .i64 k ∧ Below w5.heap.size w5 wr) (fun i _ => l.length - (intOf i).toNat)
      case atStart => exact ⟨0, Nat.zero_le _, rfl, Below.refl _ _⟩
      case round =>
        obtain ⟨k, hk, rfl, hbk⟩ := hrel
        have HBk := hideIt hbk
        clear hbk
        by_cases hkl : k < l.length
        · obtain ⟨x0, x1, x2, x3, x4, x5, x6, x7⟩ := ((HV45.out.below HBk.out HV45.out.lt).at_ k hkl).eight
          obtain ⟨y0, y1, y2, y3, y4, y5, y6, y7⟩ := ((HV5.out.below HBk.out HV5.out.lt).at_ k hkl).eight
          have heq : ∀ W', (Op.equalIn 10000 44 (vecA (vecI l k)) (vecA (vecI l k))).run Tryd.prog W' = .ok true W' := fun W' => by
            rw [eq45 W' _ _ 44 (.inl rfl)]
            rw [eqB_iff.2 fun _ _ => rfl]
          unfold vecA at heq
          go_wp2_with fail
          go_big_quiet (fail)
          go_wp2
          go_roundw
          case rel => exact ⟨k + 1, by omega, by go_num, below_drewN HBk.out _⟩
          case measure => simp [intOf]; omega
        · go_wp2
          go_ret
          exact ⟨rfl, (HKeep.out _ (belJ HB5.out HBk.out)).2.2.2⟩
    · have hn' : (n4 != 0) = true := by simp [hn]
      obtain rfl := hno hn
      have HAt := hideIt (at_told err n4 pl4 w4 her hin4.typ)
      obtain ⟨tt, uu, rfl⟩ := her.ne hn
      unfold fltA at HAt
      clear hck her hno hok hb4 hin4 hbw4 HC c0 c1
      go_wp2_with fail
      refine HAt.out.mono ?_
      rintro e w5 ⟨rfl, hb5⟩
      go_wp2
      go_ret
      exact ⟨rfl, (HKeep.out _ (belJ HB4.out hb5)).2.2.2⟩
  · go_enter Tryd.func4, Tryd.ntmps4
    go_wp2
    go_ret
    exact ⟨rfl, Below.refl _ _⟩
end Go.Proofs.YtmonbkoelehdlaaDoor
