/-
  What the functions that judge one event do: contracts over the translated program.
-/
import Derived.Test.YtkedbcfejcakaabWalkA
namespace Go.Proofs.Ytkedbcfejcakaab
open Go.RowKit

set_option maxHeartbeats 1000000 in
theorem fault_any (p t k d a b r : Int) (w : World) :
    Calls Try.prog 10 #[.agg #[.int .i64 p, .int .i64 t, .int .i64 k, .int .i64 d, .int .i64 a, .int .i64 b, .int .i64 r]] w fun e w' => e = .returned (.int .i64 (faultN p t k d a b r)) ∧ w' = w.alloc (.cells #[.int .i64 p, .int .i64 t, .int .i64 k, .int .i64 d, .int .i64 a, .int .i64 b, .int .i64 r] 33) := by
  cases hin : inB p k a b r
  · have e : faultN p t k d a b r = 2 := by simp [faultN, hin]
    rw [e]; clear e
    go_enter Try.func10, Try.ntmps10
    go_wp2_with (go_at_call 16; refine (inBounds_any _ _ _ _ _ _).mono ?_; rintro e w' ⟨rfl, rfl⟩)
    go_ret
    exact ⟨rfl, rfl⟩
  · by_cases h1 : 1 ≤ t
    · by_cases h2 : t ≤ 4
      · cases hk : kindB d
        · have e : faultN p t k d a b r = 1 := by simp [faultN, hin, hk]
          rw [e]; clear e
          go_enter Try.func10, Try.ntmps10
          go_wp2_with (first | (go_at_call 16; refine (inBounds_any _ _ _ _ _ _).mono ?_; rintro e w' ⟨rfl, rfl⟩) | (go_at_call 18; refine (isKind_any _ _).mono ?_; rintro e w' ⟨rfl, rfl⟩))
          go_ret
          exact ⟨rfl, rfl⟩
        · by_cases h3 : r = 0
          · have e : faultN p t k d a b r = 0 := by unfold faultN; rw [hin, hk]; simp [h1, h2, h3]
            rw [e]; clear e
            have h3' : (r != 0) = false := by simp [h3]
            clear h3
            go_enter Try.func10, Try.ntmps10
            go_wp2_with (first | (go_at_call 16; refine (inBounds_any _ _ _ _ _ _).mono ?_; rintro e w' ⟨rfl, rfl⟩) | (go_at_call 18; refine (isKind_any _ _).mono ?_; rintro e w' ⟨rfl, rfl⟩))
            go_ret
            exact ⟨rfl, rfl⟩
          · have h3' : (r != 0) = true := by simp [h3]
            by_cases h4 : t = 2
            · have e : faultN p t k d a b r = 0 := by simp [faultN, hin, hk, h4]
              rw [e]; clear e
              have h4' : (t != 2) = false := by simp [h4]
              clear h3 h4
              go_enter Try.func10, Try.ntmps10
              go_wp2_with (first | (go_at_call 16; refine (inBounds_any _ _ _ _ _ _).mono ?_; rintro e w' ⟨rfl, rfl⟩) | (go_at_call 18; refine (isKind_any _ _).mono ?_; rintro e w' ⟨rfl, rfl⟩))
              go_ret
              exact ⟨rfl, rfl⟩
            · have e : faultN p t k d a b r = 1 := by simp [faultN, hin, hk, h1, h2, h3, h4]
              rw [e]; clear e
              have h4' : (t != 2) = true := by simp [h4]
              clear h3 h4
              go_enter Try.func10, Try.ntmps10
              go_wp2_with (first | (go_at_call 16; refine (inBounds_any _ _ _ _ _ _).mono ?_; rintro e w' ⟨rfl, rfl⟩) | (go_at_call 18; refine (isKind_any _ _).mono ?_; rintro e w' ⟨rfl, rfl⟩))
              go_ret
              exact ⟨rfl, rfl⟩
      · have e : faultN p t k d a b r = 1 := by simp [faultN, hin, h2]
        rw [e]; clear e
        go_enter Try.func10, Try.ntmps10
        go_wp2_with (first | (go_at_call 16; refine (inBounds_any _ _ _ _ _ _).mono ?_; rintro e w' ⟨rfl, rfl⟩) | (go_at_call 18; refine (isKind_any _ _).mono ?_; rintro e w' ⟨rfl, rfl⟩))
        go_ret
        exact ⟨rfl, rfl⟩
    · have e : faultN p t k d a b r = 1 := by simp [faultN, hin, h1]
      rw [e]; clear e
      go_enter Try.func10, Try.ntmps10
      go_wp2_with (first | (go_at_call 16; refine (inBounds_any _ _ _ _ _ _).mono ?_; rintro e w' ⟨rfl, rfl⟩) | (go_at_call 18; refine (isKind_any _ _).mono ?_; rintro e w' ⟨rfl, rfl⟩))
      go_ret
      exact ⟨rfl, rfl⟩

/-- What told makes of a number: nil of 0, else that number as an error. -/
def toldV (n : Int) : Value := if n = 0 then .nilIface else .iface 35 (.int .i64 n)

end Go.Proofs.Ytkedbcfejcakaab
