/-
  What the small functions on an event do: contracts over the translated program.
-/
import Derived.Test.YtkedbcfejcakaaaDoorProg
import Derived.Test.YtkedbcfejcakaaaDoorPlainA
import Derived.WalkKit
import Derived.WalkSpells
import Derived.WalkLawsBesides
namespace Go.Proofs.YtkedbcfejcakaaaDoor
open Go.RowKit

set_option maxHeartbeats 400000 in
theorem isNumber_any (n : Int) (w : World) :
    Calls Tryd.prog 44 #[.int .i64 n] w fun e w' => e = .returned (.bool (numB n)) ∧ w' = w := by
  by_cases h1 : -1000000 ≤ n
  · by_cases h2 : n ≤ 1000000
    · have e : numB n = true := by simp [numB, h1, h2]
      rw [e]; clear e
      go_enter Tryd.func44, Tryd.ntmps44
      go_wp2
      go_ret
      exact ⟨rfl, rfl⟩
    · have e : numB n = false := by simp [numB, h2]
      rw [e]; clear e
      go_enter Tryd.func44, Tryd.ntmps44
      go_wp2
      go_ret
      exact ⟨rfl, rfl⟩
  · have e : numB n = false := by simp [numB, h1]
    rw [e]; clear e
    go_enter Tryd.func44, Tryd.ntmps44
    go_wp2
    go_ret
    exact ⟨rfl, rfl⟩

set_option maxHeartbeats 400000 in
theorem isKind_any (n : Int) (w : World) :
    Calls Tryd.prog 37 #[.int .i64 n] w fun e w' => e = .returned (.bool (kindB n)) ∧ w' = w := by
  by_cases h1 : 1 ≤ n
  · by_cases h2 : n ≤ 12
    · have e : kindB n = true := by simp [kindB, h1, h2]
      rw [e]; clear e
      go_enter Tryd.func37, Tryd.ntmps37
      go_wp2
      go_ret
      exact ⟨rfl, rfl⟩
    · have e : kindB n = false := by simp [kindB, h2]
      rw [e]; clear e
      go_enter Tryd.func37, Tryd.ntmps37
      go_wp2
      go_ret
      exact ⟨rfl, rfl⟩
  · have e : kindB n = false := by simp [kindB, h1]
    rw [e]; clear e
    go_enter Tryd.func37, Tryd.ntmps37
    go_wp2
    go_ret
    exact ⟨rfl, rfl⟩

set_option maxHeartbeats 1000000 in
theorem inBounds_any (p k a b r : Int) (w : World) :
    Calls Tryd.prog 36 #[.int .i64 p, .int .i64 k, .int .i64 a, .int .i64 b, .int .i64 r] w fun e w' => e = .returned (.bool (inB p k a b r)) ∧ w' = w := by
  by_cases h1 : 0 ≤ p
  · by_cases h2 : p < 8
    · by_cases h3 : 0 ≤ k
      · by_cases h4 : k < 8
        · have e : inB p k a b r = (numB a && numB b && numB r) := by simp [inB, eightB, h1, h2, h3, h4]
          rw [e]; clear e
          go_enter Tryd.func36, Tryd.ntmps36
          go_wp2_with (go_at_call 44; refine (isNumber_any _ _).mono ?_; rintro e w' ⟨rfl, rfl⟩)
          all_goals (go_ret; exact ⟨by simp_all, rfl⟩)
        · have e : inB p k a b r = false := by simp [inB, eightB, h4]
          rw [e]; clear e
          go_enter Tryd.func36, Tryd.ntmps36
          go_wp2
          go_ret
          exact ⟨rfl, rfl⟩
      · have e : inB p k a b r = false := by simp [inB, eightB, h3]
        rw [e]; clear e
        go_enter Tryd.func36, Tryd.ntmps36
        go_wp2
        go_ret
        exact ⟨rfl, rfl⟩
    · have e : inB p k a b r = false := by simp [inB, eightB, h2]
      rw [e]; clear e
      go_enter Tryd.func36, Tryd.ntmps36
      go_wp2
      go_ret
      exact ⟨rfl, rfl⟩
  · have e : inB p k a b r = false := by simp [inB, eightB, h1]
    rw [e]; clear e
    go_enter Tryd.func36, Tryd.ntmps36
    go_wp2
    go_ret
    exact ⟨rfl, rfl⟩

end Go.Proofs.YtkedbcfejcakaaaDoor
