/-
  Chapter 16.1 of the document, walked: Linked.
-/
import Derived.Test.YtggdjongbmdefaaDoorBsG
import Derived.Test.YtggdjongbmdefaaDoorAbL
namespace Go.Proofs.YtggdjongbmdefaaDoor
open Go.RowKit

set_option maxRecDepth 100000 in
set_option maxHeartbeats 4000000 in
theorem linked_any (what n who a b : Int) (hn : 1 ≤ n ∧ n ≤ 7) (ha : 0 ≤ a ∧ a < n) (hb : 0 ≤ b ∧ b < n) (w : World) :
    Calls Tryd.prog 9 #[.int .i64 what, .int .i64 n, .int .i64 who, .int .i64 a, .int .i64 b] w fun e w' => e = .returned (.bool (linkedB what n who a b)) ∧ w' = w := by
  have q1 : n.tdiv 2 = n / 2 := Int.tdiv_eq_ediv_of_nonneg (by omega)
  have q2 : (n / 2 + 1).tdiv 2 = (n / 2 + 1) / 2 := Int.tdiv_eq_ediv_of_nonneg (by omega)
  have w1 : IntKind.i64.wrap (n / 2) = n / 2 := IntWalk.i64_in _ (by omega)
  have w2 : IntKind.i64.wrap (n / 2 + 1) = n / 2 + 1 := IntWalk.i64_in _ (by omega)
  have w3 : IntKind.i64.wrap ((n / 2 + 1) / 2) = (n / 2 + 1) / 2 := IntWalk.i64_in _ (by omega)
  by_cases e : a = b
  · subst e
    go_enter Tryd.func9, Tryd.ntmps9
    go_wp2
    go_ret
    exact ⟨ret_bool (linked_refl _ _ _ _).symm, rfl⟩
  have e' : (a == b) = false := by simp [e]
  by_cases e0 : what = 0
  · subst e0
    go_enter Tryd.func9, Tryd.ntmps9
    go_wp2
    go_ret
    exact ⟨ret_bool (by unfold linkedB; rw [if_neg e, if_pos rfl]), rfl⟩
  have e0' : (what == 0) = false := by simp [e0]
  by_cases e1 : what = 1
  · subst e1
    go_enter Tryd.func9, Tryd.ntmps9
    go_wp2
    go_ret
    exact ⟨ret_bool (by unfold linkedB; rw [if_neg e, if_neg (by decide), if_pos rfl]), rfl⟩
  have e1' : (what == 1) = false := by simp [e1]
  by_cases e2 : what = 2
  · subst e2
    have L2 : linkedB 2 n who a b = ((decide (a < n / 2) == decide (b < n / 2)) || decide (a = n / 2) || decide (b = n / 2)) := by unfold linkedB; rw [if_neg e, if_neg (by decide), if_neg (by decide), if_pos rfl]
    rw [L2]
    cases hh : (decide (a < n / 2) == decide (b < n / 2)) with
    | true =>
      go_enter Tryd.func9, Tryd.ntmps9
      go_wp2
      go_ret
      exact ⟨ret_bool (by simp), rfl⟩
    | false =>
      by_cases h1 : a = n / 2
      · have h1' : (a == n / 2) = true := by simp [h1]
        have H1 := hideIt h1
        go_enter Tryd.func9, Tryd.ntmps9
        go_wp2
        all_goals (go_ret; exact ⟨ret_bool (by first | rfl | (have h9 := H1.out; simp [h9])), rfl⟩)
      · have h1' : (a == n / 2) = false := by simp [h1]
        by_cases h2 : b = n / 2
        · have h2' : (b == n / 2) = true := by simp [h2]
          have H1 := hideIt h2
          go_enter Tryd.func9, Tryd.ntmps9
          go_wp2
          all_goals (go_ret; exact ⟨ret_bool (by first | rfl | (have h9 := H1.out; simp [h9])), rfl⟩)
        · have h2' : (b == n / 2) = false := by simp [h2]
          go_enter Tryd.func9, Tryd.ntmps9
          go_wp2
          go_ret
          exact ⟨ret_bool (by simp [h1, h2]), rfl⟩
  have e2' : (what == 2) = false := by simp [e2]
  by_cases e3 : what = 3
  · subst e3
    have L3 : linkedB 3 n who a b = decide (min (if a - b < 0 then -(a - b) else a - b) (n - (if a - b < 0 then -(a - b) else a - b)) ≤ (n / 2 + 1) / 2) := by unfold linkedB; rw [if_neg e, if_neg (by decide), if_neg (by decide), if_neg (by decide), if_pos rfl]
    rw [L3]
    by_cases h1 : a - b < 0
    · rw [if_pos h1]
      go_enter Tryd.func9, Tryd.ntmps9
      go_wp2
      all_goals (go_ret; exact ⟨ret_bool (decide_eq_decide.2 (by omega)), rfl⟩)
    · rw [if_neg h1]
      go_enter Tryd.func9, Tryd.ntmps9
      go_wp2
      all_goals (go_ret; exact ⟨ret_bool (decide_eq_decide.2 (by omega)), rfl⟩)
  have e3' : (what == 3) = false := by simp [e3]
  have L4 : linkedB what n who a b = (decide (a ≠ who) && decide (b ≠ who)) := by unfold linkedB; rw [if_neg e, if_neg e0, if_neg e1, if_neg e2, if_neg e3]
  rw [L4]
  by_cases h1 : a = who
  · have h1' : (a != who) = false := by simp [h1]
    go_enter Tryd.func9, Tryd.ntmps9
    go_wp2
    go_ret
    exact ⟨ret_bool (by simp [h1]), rfl⟩
  · have h1' : (a != who) = true := by simp [h1]
    go_enter Tryd.func9, Tryd.ntmps9
    go_wp2
    go_ret
    exact ⟨ret_bool (by by_cases h2 : b = who <;> simp [h1, h2]), rfl⟩
end Go.Proofs.YtggdjongbmdefaaDoor
