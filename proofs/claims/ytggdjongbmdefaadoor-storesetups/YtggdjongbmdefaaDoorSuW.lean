/-
  Chapter 17.1 of the document, walked: SetupCheck.
-/
import Derived.Test.YtggdjongbmdefaaDoorBsGZ
namespace Go.Proofs.YtggdjongbmdefaaDoor
open Go.RowKit

/-- 17.1: 0, 4 (ErrLimit), 2 (ErrRange). -/
def setE (n k a t : Int) : Int := if n < 1 ∨ 7 < n ∨ k < 1 ∨ 8 < k then 4 else if a < 1 ∨ n < a ∨ t < 1 ∨ n < t then 2 else 0

set_option maxRecDepth 100000 in
set_option maxHeartbeats 4000000 in
theorem setup_any (n k a t : Int) (b : Bool) (w : World) :
    Calls Tryd.prog 22 #[.agg #[.int .i64 n, .int .i64 k, .int .i64 a, .int .i64 t, .bool b]] w fun e w' => e = .returned (.int .i64 (setE n k a t)) ∧ Below w.heap.size w w' := by
  have HB := hideIt (belA (Below.refl _ w) (.cells #[.int .i64 n, .int .i64 k, .int .i64 a, .int .i64 t, .bool b] 66))
  by_cases h1 : n < 1 ∨ 7 < n ∨ k < 1 ∨ 8 < k
  · have e : setE n k a t = 4 := if_pos h1
    rw [e]
    by_cases p1 : n < 1
    · have q1 : decide (n < 1) = true := decide_eq_true p1
      go_enter Tryd.func22, Tryd.ntmps22
      go_wp2
      go_ret
      exact ⟨rfl, HB.out⟩
    have q1 : decide (n < 1) = false := decide_eq_false p1
    by_cases p2 : 7 < n
    · have q2 : decide (n > 7) = true := decide_eq_true p2
      go_enter Tryd.func22, Tryd.ntmps22
      go_wp2
      go_ret
      exact ⟨rfl, HB.out⟩
    have q2 : decide (n > 7) = false := decide_eq_false p2
    by_cases p3 : k < 1
    · have q3 : decide (k < 1) = true := decide_eq_true p3
      go_enter Tryd.func22, Tryd.ntmps22
      go_wp2
      go_ret
      exact ⟨rfl, HB.out⟩
    have q3 : decide (k < 1) = false := decide_eq_false p3
    have q4 : decide (k > 8) = true := decide_eq_true (by omega)
    go_enter Tryd.func22, Tryd.ntmps22
    go_wp2
    go_ret
    exact ⟨rfl, HB.out⟩
  have q1 : decide (n < 1) = false := decide_eq_false (by omega)
  have q2 : decide (n > 7) = false := decide_eq_false (by omega)
  have q3 : decide (k < 1) = false := decide_eq_false (by omega)
  have q4 : decide (k > 8) = false := decide_eq_false (by omega)
  by_cases h2 : a < 1 ∨ n < a ∨ t < 1 ∨ n < t
  · have e : setE n k a t = 2 := by unfold setE; rw [if_neg h1, if_pos h2]
    rw [e]
    by_cases p1 : a < 1
    · have r1 : decide (a < 1) = true := decide_eq_true p1
      go_enter Tryd.func22, Tryd.ntmps22
      go_wp2
      go_ret
      exact ⟨rfl, HB.out⟩
    have r1 : decide (a < 1) = false := decide_eq_false p1
    by_cases p2 : n < a
    · have r2 : decide (a > n) = true := decide_eq_true p2
      go_enter Tryd.func22, Tryd.ntmps22
      go_wp2
      go_ret
      exact ⟨rfl, HB.out⟩
    have r2 : decide (a > n) = false := decide_eq_false p2
    by_cases p3 : t < 1
    · have r3 : decide (t < 1) = true := decide_eq_true p3
      go_enter Tryd.func22, Tryd.ntmps22
      go_wp2
      go_ret
      exact ⟨rfl, HB.out⟩
    have r3 : decide (t < 1) = false := decide_eq_false p3
    have r4 : decide (t > n) = true := decide_eq_true (by omega)
    go_enter Tryd.func22, Tryd.ntmps22
    go_wp2
    go_ret
    exact ⟨rfl, HB.out⟩
  · have e : setE n k a t = 0 := by unfold setE; rw [if_neg h1, if_neg h2]
    rw [e]
    have r1 : decide (a < 1) = false := decide_eq_false (by omega)
    have r2 : decide (a > n) = false := decide_eq_false (by omega)
    have r3 : decide (t < 1) = false := decide_eq_false (by omega)
    have r4 : decide (t > n) = false := decide_eq_false (by omega)
    go_enter Tryd.func22, Tryd.ntmps22
    go_wp2
    go_ret
    exact ⟨rfl, HB.out⟩
end Go.Proofs.YtggdjongbmdefaaDoor
