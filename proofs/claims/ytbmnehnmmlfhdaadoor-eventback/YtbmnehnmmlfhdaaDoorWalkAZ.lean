/-
  What the small functions on an event do: contracts over the translated program.
  What the functions that judge one event do: contracts over the translated program.
-/
import Derived.Test.YtbmnehnmmlfhdaaDoorProg
import Derived.Test.YtbmnehnmmlfhdaaDoorPlainAZ
import Derived.WalkKit
import Derived.WalkSpells
import Derived.WalkLawsBesides
namespace Go.Proofs.YtbmnehnmmlfhdaaDoor
open Go.RowKit

set_option maxHeartbeats 400000 in
theorem isNumber_any (n : Int) (w : World) :
    Calls Tryd.prog 31 #[.int .i64 n] w fun e w' => e = .returned (.bool (numB n)) ∧ w' = w := by
  by_cases h1 : -1000000 ≤ n
  · by_cases h2 : n ≤ 1000000
    · have e : numB n = true := by simp [numB, h1, h2]
      rw [e]; clear e
      go_enter Tryd.func31, Tryd.ntmps31
      go_wp2
      go_ret
      exact ⟨rfl, rfl⟩
    · have e : numB n = false := by simp [numB, h2]
      rw [e]; clear e
      go_enter Tryd.func31, Tryd.ntmps31
      go_wp2
      go_ret
      exact ⟨rfl, rfl⟩
  · have e : numB n = false := by simp [numB, h1]
    rw [e]; clear e
    go_enter Tryd.func31, Tryd.ntmps31
    go_wp2
    go_ret
    exact ⟨rfl, rfl⟩

set_option maxHeartbeats 400000 in
theorem isKind_any (n : Int) (w : World) :
    Calls Tryd.prog 17 #[.int .i64 n] w fun e w' => e = .returned (.bool (kindB n)) ∧ w' = w := by
  by_cases h1 : 1 ≤ n
  · by_cases h2 : n ≤ 12
    · have e : kindB n = true := by simp [kindB, h1, h2]
      rw [e]; clear e
      go_enter Tryd.func17, Tryd.ntmps17
      go_wp2
      go_ret
      exact ⟨rfl, rfl⟩
    · have e : kindB n = false := by simp [kindB, h2]
      rw [e]; clear e
      go_enter Tryd.func17, Tryd.ntmps17
      go_wp2
      go_ret
      exact ⟨rfl, rfl⟩
  · have e : kindB n = false := by simp [kindB, h1]
    rw [e]; clear e
    go_enter Tryd.func17, Tryd.ntmps17
    go_wp2
    go_ret
    exact ⟨rfl, rfl⟩

set_option maxHeartbeats 1000000 in
theorem inBounds_any (p k a b r : Int) (w : World) :
    Calls Tryd.prog 16 #[.int .i64 p, .int .i64 k, .int .i64 a, .int .i64 b, .int .i64 r] w fun e w' => e = .returned (.bool (inB p k a b r)) ∧ w' = w := by
  by_cases h1 : 0 ≤ p
  · by_cases h2 : p < 8
    · by_cases h3 : 0 ≤ k
      · by_cases h4 : k < 8
        · have e : inB p k a b r = (numB a && numB b && numB r) := by simp [inB, eightB, h1, h2, h3, h4]
          rw [e]; clear e
          go_enter Tryd.func16, Tryd.ntmps16
          go_wp2_with (go_at_call 31; refine (isNumber_any _ _).mono ?_; rintro e w' ⟨rfl, rfl⟩)
          all_goals (go_ret; exact ⟨by simp_all, rfl⟩)
        · have e : inB p k a b r = false := by simp [inB, eightB, h4]
          rw [e]; clear e
          go_enter Tryd.func16, Tryd.ntmps16
          go_wp2
          go_ret
          exact ⟨rfl, rfl⟩
      · have e : inB p k a b r = false := by simp [inB, eightB, h3]
        rw [e]; clear e
        go_enter Tryd.func16, Tryd.ntmps16
        go_wp2
        go_ret
        exact ⟨rfl, rfl⟩
    · have e : inB p k a b r = false := by simp [inB, eightB, h2]
      rw [e]; clear e
      go_enter Tryd.func16, Tryd.ntmps16
      go_wp2
      go_ret
      exact ⟨rfl, rfl⟩
  · have e : inB p k a b r = false := by simp [inB, eightB, h1]
    rw [e]; clear e
    go_enter Tryd.func16, Tryd.ntmps16
    go_wp2
    go_ret
    exact ⟨rfl, rfl⟩

end Go.Proofs.YtbmnehnmmlfhdaaDoor

namespace Go.Proofs.YtbmnehnmmlfhdaaDoor
open Go.RowKit

set_option maxHeartbeats 1000000 in
theorem fault_any (p t k d a b r : Int) (w : World) :
    Calls Tryd.prog 7 #[.agg #[.int .i64 p, .int .i64 t, .int .i64 k, .int .i64 d, .int .i64 a, .int .i64 b, .int .i64 r]] w fun e w' => e = .returned (.int .i64 (faultN p t k d a b r)) ∧ w' = w.alloc (.cells #[.int .i64 p, .int .i64 t, .int .i64 k, .int .i64 d, .int .i64 a, .int .i64 b, .int .i64 r] 31) := by
  cases hin : inB p k a b r
  · have e : faultN p t k d a b r = 2 := by simp [faultN, hin]
    rw [e]; clear e
    go_enter Tryd.func7, Tryd.ntmps7
    go_wp2_with (go_at_call 16; refine (inBounds_any _ _ _ _ _ _).mono ?_; rintro e w' ⟨rfl, rfl⟩)
    go_ret
    exact ⟨rfl, rfl⟩
  · by_cases h1 : 1 ≤ t
    · by_cases h2 : t ≤ 4
      · cases hk : kindB d
        · have e : faultN p t k d a b r = 1 := by simp [faultN, hin, hk]
          rw [e]; clear e
          go_enter Tryd.func7, Tryd.ntmps7
          go_wp2_with (first | (go_at_call 16; refine (inBounds_any _ _ _ _ _ _).mono ?_; rintro e w' ⟨rfl, rfl⟩) | (go_at_call 17; refine (isKind_any _ _).mono ?_; rintro e w' ⟨rfl, rfl⟩))
          go_ret
          exact ⟨rfl, rfl⟩
        · by_cases h3 : r = 0
          · have e : faultN p t k d a b r = 0 := by unfold faultN; rw [hin, hk]; simp [h1, h2, h3]
            rw [e]; clear e
            have h3' : (r != 0) = false := by simp [h3]
            clear h3
            go_enter Tryd.func7, Tryd.ntmps7
            go_wp2_with (first | (go_at_call 16; refine (inBounds_any _ _ _ _ _ _).mono ?_; rintro e w' ⟨rfl, rfl⟩) | (go_at_call 17; refine (isKind_any _ _).mono ?_; rintro e w' ⟨rfl, rfl⟩))
            go_ret
            exact ⟨rfl, rfl⟩
          · have h3' : (r != 0) = true := by simp [h3]
            by_cases h4 : t = 2
            · have e : faultN p t k d a b r = 0 := by simp [faultN, hin, hk, h4]
              rw [e]; clear e
              have h4' : (t != 2) = false := by simp [h4]
              clear h3 h4
              go_enter Tryd.func7, Tryd.ntmps7
              go_wp2_with (first | (go_at_call 16; refine (inBounds_any _ _ _ _ _ _).mono ?_; rintro e w' ⟨rfl, rfl⟩) | (go_at_call 17; refine (isKind_any _ _).mono ?_; rintro e w' ⟨rfl, rfl⟩))
              go_ret
              exact ⟨rfl, rfl⟩
            · have e : faultN p t k d a b r = 1 := by simp [faultN, hin, hk, h1, h2, h3, h4]
              rw [e]; clear e
              have h4' : (t != 2) = true := by simp [h4]
              clear h3 h4
              go_enter Tryd.func7, Tryd.ntmps7
              go_wp2_with (first | (go_at_call 16; refine (inBounds_any _ _ _ _ _ _).mono ?_; rintro e w' ⟨rfl, rfl⟩) | (go_at_call 17; refine (isKind_any _ _).mono ?_; rintro e w' ⟨rfl, rfl⟩))
              go_ret
              exact ⟨rfl, rfl⟩
      · have e : faultN p t k d a b r = 1 := by simp [faultN, hin, h2]
        rw [e]; clear e
        go_enter Tryd.func7, Tryd.ntmps7
        go_wp2_with (first | (go_at_call 16; refine (inBounds_any _ _ _ _ _ _).mono ?_; rintro e w' ⟨rfl, rfl⟩) | (go_at_call 17; refine (isKind_any _ _).mono ?_; rintro e w' ⟨rfl, rfl⟩))
        go_ret
        exact ⟨rfl, rfl⟩
    · have e : faultN p t k d a b r = 1 := by simp [faultN, hin, h1]
      rw [e]; clear e
      go_enter Tryd.func7, Tryd.ntmps7
      go_wp2_with (first | (go_at_call 16; refine (inBounds_any _ _ _ _ _ _).mono ?_; rintro e w' ⟨rfl, rfl⟩) | (go_at_call 17; refine (isKind_any _ _).mono ?_; rintro e w' ⟨rfl, rfl⟩))
      go_ret
      exact ⟨rfl, rfl⟩

/-- What 'told' makes of a number: nil of 0, else that number as an error. -/
def toldV (n : Int) : Value := if n = 0 then .nilIface else .iface 33 (.int .i64 n)

end Go.Proofs.YtbmnehnmmlfhdaaDoor
