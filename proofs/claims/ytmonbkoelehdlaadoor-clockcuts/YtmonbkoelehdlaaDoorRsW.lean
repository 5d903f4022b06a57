/-
  The document's Steady and Below, walked.
-/
import Derived.Test.YtmonbkoelehdlaaDoorInW
namespace Go.Proofs.YtmonbkoelehdlaaDoor
open Go.RowKit

set_option maxRecDepth 100000 in
set_option maxHeartbeats 4000000 in
theorem rSteady_any (l : List Stp) (ok : ClOk l) (a : Option Addr) (cap : Nat) (c : Nat → Int) (w : World) (hl : StpsQ w a l) :
    Calls Tryd.prog 23 #[.slice a l.length cap, vecA c] w fun e w' => ∃ b, e = .returned (.bool b) ∧ (b = true ↔ SteadyC l (cutF c)) ∧ Below w.heap.size w w' := by
  have h40 := ok.few
  have HV0 := hideIt (vecB_new w c 44)
  have HB0 : Hid (Below w.heap.size w (w.alloc (vecO c 44))) := belA (Below.refl _ _) _
  have HL := hideIt (hl.below HB0.out)
  have HC := hideIt (ahead9_any l a cap (w.alloc (vecO c 44)) (by omega) HL.out)
  clear hl
  unfold vecO at HV0 HB0 HL HC
  unfold vecA
  go_enter Tryd.func23, Tryd.ntmps23
  go_wp2_with fail
  refine HC.out.mono ?_
  intro e w1 hA
  obtain ⟨v, rfl, hm, hb1⟩ := hA.read
  have HM := hideIt hm
  have HV1 := hideIt (HV0.out.below hb1 HV0.out.lt)
  have HL1 := hideIt (HL.out.below hb1)
  have HB1 := hideIt (belJ HB0.out hb1)
  obtain ⟨ma, mc, rfl, hmc, _⟩ := hm
  have HIn : Hid (∀ W j, Below w1.heap.size w1 W → j < l.length → Calls Tryd.prog 36 #[.slice a l.length cap, .int .i64 (j : Nat), vecA c] W fun e w' => e = .returned (.bool (insB l (cutF c) j)) ∧ Below W.heap.size W w') := fun W j hW hj => inside_any l ok a cap c j hj W (HL1.out.below hW)
  unfold vecA at HIn
  have HY : Hid (∀ W, Below w1.heap.size w1 W → VecB W w.heap.size c) := fun W hW => HV1.out.below hW HV1.out.lt
  clear hA hb1 HC HL HV0 HB0 HL1 HV1
  go_wp2
  go_loopw [12] (fun v wr => ∃ i : Nat, i ≤ l.length ∧ v = .int .i64 i ∧ (∀ i', i' < i → ∀ k, k < l.length → aheadC l i' k = true → insB l (cutF c) k = true → insB l (cutF c) i' = true) ∧ Below w1.heap.size w1 wr) (fun v _ => l.length - (intOf v).toNat)
  case atStart => exact ⟨0, Nat.zero_le _, rfl, fun i' h => absurd h (by omega), Below.refl _ _⟩
  case round =>
    obtain ⟨i, hi, rfl, hs, hb⟩ := hrel
    have HS := hideIt hs
    have HB := hideIt hb
    clear hs hb
    by_cases hil : i < l.length
    · go_wp2
      go_loopw [17] (fun v wr => ∃ k : Nat, k ≤ l.length ∧ v = .int .i64 k ∧ (∀ k', k' < k → aheadC l i k' = true → insB l (cutF c) k' = true → insB l (cutF c) i = true) ∧ Below w1.heap.size w1 wr) (fun v _ => l.length - (intOf v).toNat)
      case atStart => exact ⟨0, Nat.zero_le _, rfl, fun k' h => absurd h (by omega), HB.out⟩
      case round =>
        clear HB
        obtain ⟨k, hk, rfl, ht, hb⟩ := hrel
        have HT := hideIt ht
        have HB := hideIt hb
        clear ht hb
        by_cases hkl : k < l.length
        · obtain ⟨ma', mc', hv', _, hrd⟩ := HM.out.below HB.out
          simp at hv'
          obtain ⟨rfl, rfl⟩ := hv'
          obtain ⟨g, moff, rr, rfl, e1, e2⟩ := hrd i hil
          have e3 := e2 k hkl
          clear e2 hrd
          have HNx : Hid ((aheadC l i k = true → insB l (cutF c) k = true → insB l (cutF c) i = true) → ∀ k', k' < k + 1 → aheadC l i k' = true → insB l (cutF c) k' = true → insB l (cutF c) i = true) := fun h k' hk' => by
            by_cases e : k' = k
            · subst e; exact h
            · exact HT.out k' (by omega)
          obtain ⟨y0, y1, y2, y3, y4, y5, y6, y7⟩ := (HY.out wr HB.out).eight
          have HI1 := hideIt (HIn.out wr k HB.out hkl)
          cases ha : aheadC l i k
          · rw [ha] at e3
            have R := hideIt (HNx.out fun h => by rw [ha] at h; cases h)
            clear HNx ha
            go_wp2
            go_roundw
            case rel => exact ⟨k + 1, by omega, by go_num, R.out, HB.out⟩
            case measure => simp [intOf]; omega
          · rw [ha] at e3
            cases hik : insB l (cutF c) k
            · rw [hik] at HI1
              have R := hideIt (HNx.out fun _ h => by rw [hik] at h; cases h)
              clear HNx ha hik
              go_wp2_with (go_at_call 36; refine HI1.out.mono ?_; rintro e w2 ⟨rfl, hb2⟩)
              go_roundw
              case rel => exact ⟨k + 1, by omega, by go_num, R.out, belJ HB.out hb2⟩
              case measure => simp [intOf]; omega
            · rw [hik] at HI1
              go_wp2_with fail
              refine HI1.out.mono ?_
              rintro e w2 ⟨rfl, hb2⟩
              have HB2 := hideIt (belJ HB.out hb2)
              have HI2 := hideIt (HIn.out w2 i HB2.out hil)
              clear y0 y1 y2 y3 y4 y5 y6 y7 hb2
              obtain ⟨y0, y1, y2, y3, y4, y5, y6, y7⟩ := (HY.out w2 HB2.out).eight
              cases hii : insB l (cutF c) i
              · rw [hii] at HI2
                have R : Hid (¬ SteadyC l (cutF c)) := fun h => by
                  have := h i k hil hkl ha hik
                  rw [hii] at this; cases this
                clear HNx ha hik hii
                go_wp2_with (go_at_call 36; refine HI2.out.mono ?_; rintro e w3 ⟨rfl, hb3⟩)
                go_ret
                exact ⟨false, rfl, ⟨fun h => (by cases h), fun h => absurd h R.out⟩, belJ HB1.out (belJ HB2.out hb3)⟩
              · rw [hii] at HI2
                have R := hideIt (HNx.out fun _ _ => hii)
                clear HNx ha hik hii
                go_wp2_with (go_at_call 36; refine HI2.out.mono ?_; rintro e w3 ⟨rfl, hb3⟩)
                go_roundw
                case rel => exact ⟨k + 1, by omega, by go_num, R.out, belJ HB2.out hb3⟩
                case measure => simp [intOf]; omega
        · have R : Hid (∀ i', i' < i + 1 → ∀ k, k < l.length → aheadC l i' k = true → insB l (cutF c) k = true → insB l (cutF c) i' = true) := fun i' hi' k' hk' => by
            by_cases e : i' = i
            · subst e; exact HT.out k' (by omega)
            · exact HS.out i' (by omega) k' hk'
          go_wp2
          go_roundw
          case rel => exact ⟨i + 1, by omega, by go_num, R.out, HB.out⟩
          case measure => simp [intOf]; omega
    · have R : Hid (SteadyC l (cutF c)) := fun i' k hi' hk ha hin => HS.out i' (by omega) k hk ha hin
      go_wp2
      go_ret
      exact ⟨true, rfl, ⟨fun _ => R.out, fun _ => rfl⟩, belJ HB1.out HB.out⟩
end Go.Proofs.YtmonbkoelehdlaaDoor
