/-
  What the small functions on an event do: contracts over the translated program.
  What the functions that judge one event do: contracts over the translated program.
-/
import Derived.Test.YtdncnljcihblbabProg
import Derived.Test.YtdncnljcihblbabPlainA
import Derived.WalkKit
import Derived.WalkSpells
import Derived.WalkLawsBesides
namespace Go.Proofs.Ytdncnljcihblbab
open Go.RowKit

set_option maxHeartbeats 400000 in
theorem isNumber_any (n : Int) (w : World) :
    Calls Try.prog 52 #[.int .i64 n] w fun e w' => e = .returned (.bool (numB n)) ∧ w' = w := by
  by_cases h1 : -1000000 ≤ n
  · by_cases h2 : n ≤ 1000000
    · have e : numB n = true := by simp [numB, h1, h2]
      rw [e]; clear e
      go_enter Try.func52, Try.ntmps52
      go_wp2
      go_ret
      exact ⟨rfl, rfl⟩
    · have e : numB n = false := by simp [numB, h2]
      rw [e]; clear e
      go_enter Try.func52, Try.ntmps52
      go_wp2
      go_ret
      exact ⟨rfl, rfl⟩
  · have e : numB n = false := by simp [numB, h1]
    rw [e]; clear e
    go_enter Try.func52, Try.ntmps52
    go_wp2
    go_ret
    exact ⟨rfl, rfl⟩

set_option maxHeartbeats 400000 in
theorem isKind_any (n : Int) (w : World) :
    Calls Try.prog 41 #[.int .i64 n] w fun e w' => e = .returned (.bool (kindB n)) ∧ w' = w := by
  by_cases h1 : 1 ≤ n
  · by_cases h2 : n ≤ 12
    · have e : kindB n = true := by simp [kindB, h1, h2]
      rw [e]; clear e
      go_enter Try.func41, Try.ntmps41
      go_wp2
      go_ret
      exact ⟨rfl, rfl⟩
    · have e : kindB n = false := by simp [kindB, h2]
      rw [e]; clear e
      go_enter Try.func41, Try.ntmps41
      go_wp2
      go_ret
      exact ⟨rfl, rfl⟩
  · have e : kindB n = false := by simp [kindB, h1]
    rw [e]; clear e
    go_enter Try.func41, Try.ntmps41
    go_wp2
    go_ret
    exact ⟨rfl, rfl⟩

set_option maxHeartbeats 1000000 in
theorem inBounds_any (p k a b r : Int) (w : World) :
    Calls Try.prog 40 #[.int .i64 p, .int .i64 k, .int .i64 a, .int .i64 b, .int .i64 r] w fun e w' => e = .returned (.bool (inB p k a b r)) ∧ w' = w := by
  by_cases h1 : 0 ≤ p
  · by_cases h2 : p < 8
    · by_cases h3 : 0 ≤ k
      · by_cases h4 : k < 8
        · have e : inB p k a b r = (numB a && numB b && numB r) := by simp [inB, eightB, h1, h2, h3, h4]
          rw [e]; clear e
          go_enter Try.func40, Try.ntmps40
          go_wp2_with (go_at_call 52; refine (isNumber_any _ _).mono ?_; rintro e w' ⟨rfl, rfl⟩)
          all_goals (go_ret; exact ⟨by simp_all, rfl⟩)
        · have e : inB p k a b r = false := by simp [inB, eightB, h4]
          rw [e]; clear e
          go_enter Try.func40, Try.ntmps40
          go_wp2
          go_ret
          exact ⟨rfl, rfl⟩
      · have e : inB p k a b r = false := by simp [inB, eightB, h3]
        rw [e]; clear e
        go_enter Try.func40, Try.ntmps40
        go_wp2
        go_ret
        exact ⟨rfl, rfl⟩
    · have e : inB p k a b r = false := by simp [inB, eightB, h2]
      rw [e]; clear e
      go_enter Try.func40, Try.ntmps40
      go_wp2
      go_ret
      exact ⟨rfl, rfl⟩
  · have e : inB p k a b r = false := by simp [inB, eightB, h1]
    rw [e]; clear e
    go_enter Try.func40, Try.ntmps40
    go_wp2
    go_ret
    exact ⟨rfl, rfl⟩

end Go.Proofs.Ytdncnljcihblbab

namespace Go.Proofs.Ytdncnljcihblbab
open Go.RowKit

set_option maxHeartbeats 1000000 in
theorem fault_any (p t k d a b r : Int) (w : World) :
    Calls Try.prog 34 #[.agg #[.int .i64 p, .int .i64 t, .int .i64 k, .int .i64 d, .int .i64 a, .int .i64 b, .int .i64 r]] w fun e w' => e = .returned (.int .i64 (faultN p t k d a b r)) ∧ w' = w.alloc (.cells #[.int .i64 p, .int .i64 t, .int .i64 k, .int .i64 d, .int .i64 a, .int .i64 b, .int .i64 r] 38) := by
  cases hin : inB p k a b r
  · have e : faultN p t k d a b r = 2 := by simp [faultN, hin]
    rw [e]; clear e
    go_enter Try.func34, Try.ntmps34
    go_wp2_with (go_at_call 40; refine (inBounds_any _ _ _ _ _ _).mono ?_; rintro e w' ⟨rfl, rfl⟩)
    go_ret
    exact ⟨rfl, rfl⟩
  · by_cases h1 : 1 ≤ t
    · by_cases h2 : t ≤ 4
      · cases hk : kindB d
        · have e : faultN p t k d a b r = 1 := by simp [faultN, hin, hk]
          rw [e]; clear e
          go_enter Try.func34, Try.ntmps34
          go_wp2_with (first | (go_at_call 40; refine (inBounds_any _ _ _ _ _ _).mono ?_; rintro e w' ⟨rfl, rfl⟩) | (go_at_call 41; refine (isKind_any _ _).mono ?_; rintro e w' ⟨rfl, rfl⟩))
          go_ret
          exact ⟨rfl, rfl⟩
        · by_cases h3 : r = 0
          · have e : faultN p t k d a b r = 0 := by unfold faultN; rw [hin, hk]; simp [h1, h2, h3]
            rw [e]; clear e
            have h3' : (r != 0) = false := by simp [h3]
            clear h3
            go_enter Try.func34, Try.ntmps34
            go_wp2_with (first | (go_at_call 40; refine (inBounds_any _ _ _ _ _ _).mono ?_; rintro e w' ⟨rfl, rfl⟩) | (go_at_call 41; refine (isKind_any _ _).mono ?_; rintro e w' ⟨rfl, rfl⟩))
            go_ret
            exact ⟨rfl, rfl⟩
          · have h3' : (r != 0) = true := by simp [h3]
            by_cases h4 : t = 2
            · have e : faultN p t k d a b r = 0 := by simp [faultN, hin, hk, h4]
              rw [e]; clear e
              have h4' : (t != 2) = false := by simp [h4]
              clear h3 h4
              go_enter Try.func34, Try.ntmps34
              go_wp2_with (first | (go_at_call 40; refine (inBounds_any _ _ _ _ _ _).mono ?_; rintro e w' ⟨rfl, rfl⟩) | (go_at_call 41; refine (isKind_any _ _).mono ?_; rintro e w' ⟨rfl, rfl⟩))
              go_ret
              exact ⟨rfl, rfl⟩
            · have e : faultN p t k d a b r = 1 := by simp [faultN, hin, hk, h1, h2, h3, h4]
              rw [e]; clear e
              have h4' : (t != 2) = true := by simp [h4]
              clear h3 h4
              go_enter Try.func34, Try.ntmps34
              go_wp2_with (first | (go_at_call 40; refine (inBounds_any _ _ _ _ _ _).mono ?_; rintro e w' ⟨rfl, rfl⟩) | (go_at_call 41; refine (isKind_any _ _).mono ?_; rintro e w' ⟨rfl, rfl⟩))
              go_ret
              exact ⟨rfl, rfl⟩
      · have e : faultN p t k d a b r = 1 := by simp [faultN, hin, h2]
        rw [e]; clear e
        go_enter Try.func34, Try.ntmps34
        go_wp2_with (first | (go_at_call 40; refine (inBounds_any _ _ _ _ _ _).mono ?_; rintro e w' ⟨rfl, rfl⟩) | (go_at_call 41; refine (isKind_any _ _).mono ?_; rintro e w' ⟨rfl, rfl⟩))
        go_ret
        exact ⟨rfl, rfl⟩
    · have e : faultN p t k d a b r = 1 := by simp [faultN, hin, h1]
      rw [e]; clear e
      go_enter Try.func34, Try.ntmps34
      go_wp2_with (first | (go_at_call 40; refine (inBounds_any _ _ _ _ _ _).mono ?_; rintro e w' ⟨rfl, rfl⟩) | (go_at_call 41; refine (isKind_any _ _).mono ?_; rintro e w' ⟨rfl, rfl⟩))
      go_ret
      exact ⟨rfl, rfl⟩

/-- What 'told' makes of a number: nil of 0, else that number as an error. -/
def toldV (n : Int) : Value := if n = 0 then .nilIface else .iface 58 (.int .i64 n)

set_option maxHeartbeats 400000 in
theorem told_any (n : Int) (w : World) : Calls Try.prog 33 #[.int .i64 n] w fun e w' => e = .returned (toldV n) ∧ w' = w := by
  by_cases h : n = 0
  · have e : toldV n = .nilIface := by simp [toldV, h]
    rw [e]; clear e
    have h' : (n == 0) = true := by simp [h]
    clear h
    go_enter Try.func33, Try.ntmps33
    go_wp2
    go_ret
    exact ⟨rfl, rfl⟩
  · have e : toldV n = .iface 58 (.int .i64 n) := by simp [toldV, h]
    rw [e]; clear e
    have h' : (n == 0) = false := by simp [h]
    clear h
    go_enter Try.func33, Try.ntmps33
    go_wp2
    go_ret
    exact ⟨rfl, rfl⟩

set_option maxHeartbeats 400000 in
theorem check_any (p t k d a b r : Int) (w : World) :
    Calls Try.prog 22 #[.agg #[.int .i64 p, .int .i64 t, .int .i64 k, .int .i64 d, .int .i64 a, .int .i64 b, .int .i64 r]] w fun e w' => e = .returned (toldV (faultN p t k d a b r)) ∧ w' = (w.alloc (.cells #[.int .i64 p, .int .i64 t, .int .i64 k, .int .i64 d, .int .i64 a, .int .i64 b, .int .i64 r] 38)).alloc (.cells #[.int .i64 p, .int .i64 t, .int .i64 k, .int .i64 d, .int .i64 a, .int .i64 b, .int .i64 r] 38) := by
  go_enter Try.func22, Try.ntmps22
  go_wp2_with (first | (go_at_call 34; refine (fault_any _ _ _ _ _ _ _ _).mono ?_; rintro e w' ⟨rfl, rfl⟩) | (go_at_call 33; refine (told_any _ _).mono ?_; rintro e w' ⟨rfl, rfl⟩))
  go_ret
  exact ⟨rfl, rfl⟩

end Go.Proofs.Ytdncnljcihblbab
