/-
  The statements' own 'flat' and 'bare', walked.
-/
import Derived.Test.YtibdchahallbjaaDoorAtC
import Derived.Test.YtibdchahallbjaaDoorGrM
namespace Go.Proofs.YtibdchahallbjaaDoor
open Go.RowKit

set_option maxRecDepth 100000 in
set_option maxHeartbeats 1000000 in
theorem flat_any (R : List (List Bool)) (a : Option Addr) (cap : Nat) (w : World) (hmax : R.length ≤ maxLen) (hrm : ∀ r ∈ R, r.length ≤ maxLen) (hg : GrQ w a R) :
    Calls Tryd.prog 9 #[.slice a R.length cap, .int .i64 2000] w fun e w' => ∃ b, e = .returned (.bool b) ∧ w' = w := by
  have HG := hideIt hg
  have HM := hideIt hrm
  have hm2 : R.length ≤ 9223372036854775807 := hmax
  clear hg hrm
  go_enter Tryd.func9, Tryd.ntmps9
  go_wp2
  go_loopw [5, 6] (fun x v wr => ∃ (k : Nat) (y : Int), k ≤ R.length ∧ x = .int .i64 y ∧ v = .int .i64 k ∧ wr = w) (fun _ v _ => R.length - (intOf v).toNat)
  case atStart => exact ⟨0, _, Nat.zero_le _, rfl, rfl, rfl⟩
  case round =>
    obtain ⟨k, y, hk, rfl, rfl, rfl⟩ := hrel
    by_cases hkl : k < R.length
    · obtain ⟨b, off, rfl, hb, hj⟩ : ∃ b off, a = some ⟨b, off, none⟩ ∧ b < wr.heap.size ∧ ∀ i (h : i < R.length), ∃ s, wr.cell? ⟨b, off + i, none⟩ = some s ∧ BitsIn wr s R[i] := by
        rcases HG.out with h | h
        · subst h; simp at hkl
        · exact h
      obtain ⟨s, hs, a2, c2, rfl, _, _⟩ := hj k hkl
      have hml := HM.out R[k] (List.getElem_mem hkl)
      have hkl' : (k : Int) < R.length := by omega
      have hk2 : (k : Int) + 1 ≤ 9223372036854775807 := by omega
      generalize R[k].length = m at hs hml
      clear hj HG HM
      go_wp2
      go_roundw
      case rel => exact ⟨k + 1, _, by omega, rfl, by go_num, trivial⟩
      case measure => simp [intOf]; omega
    · obtain rfl : k = R.length := by omega
      go_wp2
      go_ret
      exact ⟨_, rfl, rfl⟩

theorem bare_any (n : Int) (w : World) (hg : TypAt w) : Calls Tryd.prog 13 #[toldV n, .int .i64 n] w fun e w' => e = .returned (.bool true) ∧ Below w.heap.size w w' := by
  have he : ErrAt w (toldV n) n (-1) := by
    by_cases h : n = 0
    · subst h; exact .inl ⟨rfl, rfl, toldV_zero⟩
    · exact .inr (.inl ⟨h, rfl, toldV_pos h⟩)
  have HC := hideIt (at_told (toldV n) n (-1) w he hg)
  unfold fltA at HC
  generalize toldV n = v at HC ⊢
  clear he hg
  go_enter Tryd.func13, Tryd.ntmps13
  go_wp2_with fail
  refine HC.out.mono ?_
  rintro e w1 ⟨rfl, hb⟩
  go_wp2
  go_ret
  exact ⟨rfl, hb⟩
end Go.Proofs.YtibdchahallbjaaDoor
