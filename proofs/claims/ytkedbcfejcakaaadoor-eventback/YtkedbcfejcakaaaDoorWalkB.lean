/-
  What the functions that judge one event do: contracts over the translated program.
-/
import Derived.Test.YtkedbcfejcakaaaDoorWalkA
namespace Go.Proofs.YtkedbcfejcakaaaDoor
open Go.RowKit

set_option maxHeartbeats 1000000 in
theorem fault_any (p t k d a b r : Int) (w : World) :
    Calls Tryd.prog 23 #[.agg #[.int .i64 p, .int .i64 t, .int .i64 k, .int .i64 d, .int .i64 a, .int .i64 b, .int .i64 r]] w fun e w' => e = .returned (.int .i64 (faultN p t k d a b r)) ∧ w' = w.alloc (.cells #[.int .i64 p, .int .i64 t, .int .i64 k, .int .i64 d, .int .i64 a, .int .i64 b, .int .i64 r] 23) := by
  cases hin : inB p k a b r
  · have e : faultN p t k d a b r = 2 := by simp [faultN, hin]
    rw [e]; clear e
    go_enter Tryd.func23, Tryd.ntmps23
    go_wp2_with (go_at_call 36; refine (inBounds_any _ _ _ _ _ _).mono ?_; rintro e w' ⟨rfl, rfl⟩)
    go_ret
    exact ⟨rfl, rfl⟩
  · by_cases h1 : 1 ≤ t
    · by_cases h2 : t ≤ 4
      · cases hk : kindB d
        · have e : faultN p t k d a b r = 1 := by simp [faultN, hin, hk]
          rw [e]; clear e
          go_enter Tryd.func23, Tryd.ntmps23
          go_wp2_with (first | (go_at_call 36; refine (inBounds_any _ _ _ _ _ _).mono ?_; rintro e w' ⟨rfl, rfl⟩) | (go_at_call 37; refine (isKind_any _ _).mono ?_; rintro e w' ⟨rfl, rfl⟩))
          go_ret
          exact ⟨rfl, rfl⟩
        · by_cases h3 : r = 0
          · have e : faultN p t k d a b r = 0 := by unfold faultN; rw [hin, hk]; simp [h1, h2, h3]
            rw [e]; clear e
            have h3' : (r != 0) = false := by simp [h3]
            clear h3
            go_enter Tryd.func23, Tryd.ntmps23
            go_wp2_with (first | (go_at_call 36; refine (inBounds_any _ _ _ _ _ _).mono ?_; rintro e w' ⟨rfl, rfl⟩) | (go_at_call 37; refine (isKind_any _ _).mono ?_; rintro e w' ⟨rfl, rfl⟩))
            go_ret
            exact ⟨rfl, rfl⟩
          · have h3' : (r != 0) = true := by simp [h3]
            by_cases h4 : t = 2
            · have e : faultN p t k d a b r = 0 := by simp [faultN, hin, hk, h4]
              rw [e]; clear e
              have h4' : (t != 2) = false := by simp [h4]
              clear h3 h4
              go_enter Tryd.func23, Tryd.ntmps23
              go_wp2_with (first | (go_at_call 36; refine (inBounds_any _ _ _ _ _ _).mono ?_; rintro e w' ⟨rfl, rfl⟩) | (go_at_call 37; refine (isKind_any _ _).mono ?_; rintro e w' ⟨rfl, rfl⟩))
              go_ret
              exact ⟨rfl, rfl⟩
            · have e : faultN p t k d a b r = 1 := by simp [faultN, hin, hk, h1, h2, h3, h4]
              rw [e]; clear e
              have h4' : (t != 2) = true := by simp [h4]
              clear h3 h4
              go_enter Tryd.func23, Tryd.ntmps23
              go_wp2_with (first | (go_at_call 36; refine (inBounds_any _ _ _ _ _ _).mono ?_; rintro e w' ⟨rfl, rfl⟩) | (go_at_call 37; refine (isKind_any _ _).mono ?_; rintro e w' ⟨rfl, rfl⟩))
              go_ret
              exact ⟨rfl, rfl⟩
      · have e : faultN p t k d a b r = 1 := by simp [faultN, hin, h2]
        rw [e]; clear e
        go_enter Tryd.func23, Tryd.ntmps23
        go_wp2_with (first | (go_at_call 36; refine (inBounds_any _ _ _ _ _ _).mono ?_; rintro e w' ⟨rfl, rfl⟩) | (go_at_call 37; refine (isKind_any _ _).mono ?_; rintro e w' ⟨rfl, rfl⟩))
        go_ret
        exact ⟨rfl, rfl⟩
    · have e : faultN p t k d a b r = 1 := by simp [faultN, hin, h1]
      rw [e]; clear e
      go_enter Tryd.func23, Tryd.ntmps23
      go_wp2_with (first | (go_at_call 36; refine (inBounds_any _ _ _ _ _ _).mono ?_; rintro e w' ⟨rfl, rfl⟩) | (go_at_call 37; refine (isKind_any _ _).mono ?_; rintro e w' ⟨rfl, rfl⟩))
      go_ret
      exact ⟨rfl, rfl⟩

/-- What 'told' makes of a number: nil of 0, else that number as an error. -/
def toldV (n : Int) : Value := if n = 0 then .nilIface else .iface 28 (.int .i64 n)

set_option maxHeartbeats 400000 in
theorem told_any (n : Int) (w : World) : Calls Tryd.prog 22 #[.int .i64 n] w fun e w' => e = .returned (toldV n) ∧ w' = w := by
  by_cases h : n = 0
  · have e : toldV n = .nilIface := by simp [toldV, h]
    rw [e]; clear e
    have h' : (n == 0) = true := by simp [h]
    clear h
    go_enter Tryd.func22, Tryd.ntmps22
    go_wp2
    go_ret
    exact ⟨rfl, rfl⟩
  · have e : toldV n = .iface 28 (.int .i64 n) := by simp [toldV, h]
    rw [e]; clear e
    have h' : (n == 0) = false := by simp [h]
    clear h
    go_enter Tryd.func22, Tryd.ntmps22
    go_wp2
    go_ret
    exact ⟨rfl, rfl⟩

set_option maxHeartbeats 400000 in
theorem check_any (p t k d a b r : Int) (w : World) :
    Calls Tryd.prog 8 #[.agg #[.int .i64 p, .int .i64 t, .int .i64 k, .int .i64 d, .int .i64 a, .int .i64 b, .int .i64 r]] w fun e w' => e = .returned (toldV (faultN p t k d a b r)) ∧ w' = (w.alloc (.cells #[.int .i64 p, .int .i64 t, .int .i64 k, .int .i64 d, .int .i64 a, .int .i64 b, .int .i64 r] 23)).alloc (.cells #[.int .i64 p, .int .i64 t, .int .i64 k, .int .i64 d, .int .i64 a, .int .i64 b, .int .i64 r] 23) := by
  go_enter Tryd.func8, Tryd.ntmps8
  go_wp2_with (first | (go_at_call 23; refine (fault_any _ _ _ _ _ _ _ _).mono ?_; rintro e w' ⟨rfl, rfl⟩) | (go_at_call 22; refine (told_any _ _).mono ?_; rintro e w' ⟨rfl, rfl⟩))
  go_ret
  exact ⟨rfl, rfl⟩

end Go.Proofs.YtkedbcfejcakaaaDoor
