/-
  What the small functions on an event do: contracts over the translated program.
  What the functions that judge one event do: contracts over the translated program.
  What the document's own 'small' and 'EventCheck' tell.
  What the document's own EventCheck tells of an event: as the program's.
-/
import Derived.Test.YtdncnljcihblbaaDoorProg
import Derived.Test.YtdncnljcihblbaaDoorPlainA
import Derived.WalkKit
import Derived.WalkSpells
import Derived.WalkLawsBesides
namespace Go.Proofs.YtdncnljcihblbaaDoor
open Go.RowKit

set_option maxHeartbeats 400000 in
theorem isNumber_any (n : Int) (w : World) :
    Calls Tryd.prog 58 #[.int .i64 n] w fun e w' => e = .returned (.bool (numB n)) ∧ w' = w := by
  by_cases h1 : -1000000 ≤ n
  · by_cases h2 : n ≤ 1000000
    · have e : numB n = true := by simp [numB, h1, h2]
      rw [e]; clear e
      go_enter Tryd.func58, Tryd.ntmps58
      go_wp2
      go_ret
      exact ⟨rfl, rfl⟩
    · have e : numB n = false := by simp [numB, h2]
      rw [e]; clear e
      go_enter Tryd.func58, Tryd.ntmps58
      go_wp2
      go_ret
      exact ⟨rfl, rfl⟩
  · have e : numB n = false := by simp [numB, h1]
    rw [e]; clear e
    go_enter Tryd.func58, Tryd.ntmps58
    go_wp2
    go_ret
    exact ⟨rfl, rfl⟩

set_option maxHeartbeats 400000 in
theorem isKind_any (n : Int) (w : World) :
    Calls Tryd.prog 46 #[.int .i64 n] w fun e w' => e = .returned (.bool (kindB n)) ∧ w' = w := by
  by_cases h1 : 1 ≤ n
  · by_cases h2 : n ≤ 12
    · have e : kindB n = true := by simp [kindB, h1, h2]
      rw [e]; clear e
      go_enter Tryd.func46, Tryd.ntmps46
      go_wp2
      go_ret
      exact ⟨rfl, rfl⟩
    · have e : kindB n = false := by simp [kindB, h2]
      rw [e]; clear e
      go_enter Tryd.func46, Tryd.ntmps46
      go_wp2
      go_ret
      exact ⟨rfl, rfl⟩
  · have e : kindB n = false := by simp [kindB, h1]
    rw [e]; clear e
    go_enter Tryd.func46, Tryd.ntmps46
    go_wp2
    go_ret
    exact ⟨rfl, rfl⟩

set_option maxHeartbeats 1000000 in
theorem inBounds_any (p k a b r : Int) (w : World) :
    Calls Tryd.prog 45 #[.int .i64 p, .int .i64 k, .int .i64 a, .int .i64 b, .int .i64 r] w fun e w' => e = .returned (.bool (inB p k a b r)) ∧ w' = w := by
  by_cases h1 : 0 ≤ p
  · by_cases h2 : p < 8
    · by_cases h3 : 0 ≤ k
      · by_cases h4 : k < 8
        · have e : inB p k a b r = (numB a && numB b && numB r) := by simp [inB, eightB, h1, h2, h3, h4]
          rw [e]; clear e
          go_enter Tryd.func45, Tryd.ntmps45
          go_wp2_with (go_at_call 58; refine (isNumber_any _ _).mono ?_; rintro e w' ⟨rfl, rfl⟩)
          all_goals (go_ret; exact ⟨by simp_all, rfl⟩)
        · have e : inB p k a b r = false := by simp [inB, eightB, h4]
          rw [e]; clear e
          go_enter Tryd.func45, Tryd.ntmps45
          go_wp2
          go_ret
          exact ⟨rfl, rfl⟩
      · have e : inB p k a b r = false := by simp [inB, eightB, h3]
        rw [e]; clear e
        go_enter Tryd.func45, Tryd.ntmps45
        go_wp2
        go_ret
        exact ⟨rfl, rfl⟩
    · have e : inB p k a b r = false := by simp [inB, eightB, h2]
      rw [e]; clear e
      go_enter Tryd.func45, Tryd.ntmps45
      go_wp2
      go_ret
      exact ⟨rfl, rfl⟩
  · have e : inB p k a b r = false := by simp [inB, eightB, h1]
    rw [e]; clear e
    go_enter Tryd.func45, Tryd.ntmps45
    go_wp2
    go_ret
    exact ⟨rfl, rfl⟩

end Go.Proofs.YtdncnljcihblbaaDoor

namespace Go.Proofs.YtdncnljcihblbaaDoor
open Go.RowKit

set_option maxHeartbeats 1000000 in
theorem fault_any (p t k d a b r : Int) (w : World) :
    Calls Tryd.prog 38 #[.agg #[.int .i64 p, .int .i64 t, .int .i64 k, .int .i64 d, .int .i64 a, .int .i64 b, .int .i64 r]] w fun e w' => e = .returned (.int .i64 (faultN p t k d a b r)) ∧ w' = w.alloc (.cells #[.int .i64 p, .int .i64 t, .int .i64 k, .int .i64 d, .int .i64 a, .int .i64 b, .int .i64 r] 23) := by
  cases hin : inB p k a b r
  · have e : faultN p t k d a b r = 2 := by simp [faultN, hin]
    rw [e]; clear e
    go_enter Tryd.func38, Tryd.ntmps38
    go_wp2_with (go_at_call 45; refine (inBounds_any _ _ _ _ _ _).mono ?_; rintro e w' ⟨rfl, rfl⟩)
    go_ret
    exact ⟨rfl, rfl⟩
  · by_cases h1 : 1 ≤ t
    · by_cases h2 : t ≤ 4
      · cases hk : kindB d
        · have e : faultN p t k d a b r = 1 := by simp [faultN, hin, hk]
          rw [e]; clear e
          go_enter Tryd.func38, Tryd.ntmps38
          go_wp2_with (first | (go_at_call 45; refine (inBounds_any _ _ _ _ _ _).mono ?_; rintro e w' ⟨rfl, rfl⟩) | (go_at_call 46; refine (isKind_any _ _).mono ?_; rintro e w' ⟨rfl, rfl⟩))
          go_ret
          exact ⟨rfl, rfl⟩
        · by_cases h3 : r = 0
          · have e : faultN p t k d a b r = 0 := by unfold faultN; rw [hin, hk]; simp [h1, h2, h3]
            rw [e]; clear e
            have h3' : (r != 0) = false := by simp [h3]
            clear h3
            go_enter Tryd.func38, Tryd.ntmps38
            go_wp2_with (first | (go_at_call 45; refine (inBounds_any _ _ _ _ _ _).mono ?_; rintro e w' ⟨rfl, rfl⟩) | (go_at_call 46; refine (isKind_any _ _).mono ?_; rintro e w' ⟨rfl, rfl⟩))
            go_ret
            exact ⟨rfl, rfl⟩
          · have h3' : (r != 0) = true := by simp [h3]
            by_cases h4 : t = 2
            · have e : faultN p t k d a b r = 0 := by simp [faultN, hin, hk, h4]
              rw [e]; clear e
              have h4' : (t != 2) = false := by simp [h4]
              clear h3 h4
              go_enter Tryd.func38, Tryd.ntmps38
              go_wp2_with (first | (go_at_call 45; refine (inBounds_any _ _ _ _ _ _).mono ?_; rintro e w' ⟨rfl, rfl⟩) | (go_at_call 46; refine (isKind_any _ _).mono ?_; rintro e w' ⟨rfl, rfl⟩))
              go_ret
              exact ⟨rfl, rfl⟩
            · have e : faultN p t k d a b r = 1 := by simp [faultN, hin, hk, h1, h2, h3, h4]
              rw [e]; clear e
              have h4' : (t != 2) = true := by simp [h4]
              clear h3 h4
              go_enter Tryd.func38, Tryd.ntmps38
              go_wp2_with (first | (go_at_call 45; refine (inBounds_any _ _ _ _ _ _).mono ?_; rintro e w' ⟨rfl, rfl⟩) | (go_at_call 46; refine (isKind_any _ _).mono ?_; rintro e w' ⟨rfl, rfl⟩))
              go_ret
              exact ⟨rfl, rfl⟩
      · have e : faultN p t k d a b r = 1 := by simp [faultN, hin, h2]
        rw [e]; clear e
        go_enter Tryd.func38, Tryd.ntmps38
        go_wp2_with (first | (go_at_call 45; refine (inBounds_any _ _ _ _ _ _).mono ?_; rintro e w' ⟨rfl, rfl⟩) | (go_at_call 46; refine (isKind_any _ _).mono ?_; rintro e w' ⟨rfl, rfl⟩))
        go_ret
        exact ⟨rfl, rfl⟩
    · have e : faultN p t k d a b r = 1 := by simp [faultN, hin, h1]
      rw [e]; clear e
      go_enter Tryd.func38, Tryd.ntmps38
      go_wp2_with (first | (go_at_call 45; refine (inBounds_any _ _ _ _ _ _).mono ?_; rintro e w' ⟨rfl, rfl⟩) | (go_at_call 46; refine (isKind_any _ _).mono ?_; rintro e w' ⟨rfl, rfl⟩))
      go_ret
      exact ⟨rfl, rfl⟩

/-- What 'told' makes of a number: nil of 0, else that number as an error. -/
def toldV (n : Int) : Value := if n = 0 then .nilIface else .iface 28 (.int .i64 n)

set_option maxHeartbeats 400000 in
theorem told_any (n : Int) (w : World) : Calls Tryd.prog 37 #[.int .i64 n] w fun e w' => e = .returned (toldV n) ∧ w' = w := by
  by_cases h : n = 0
  · have e : toldV n = .nilIface := by simp [toldV, h]
    rw [e]; clear e
    have h' : (n == 0) = true := by simp [h]
    clear h
    go_enter Tryd.func37, Tryd.ntmps37
    go_wp2
    go_ret
    exact ⟨rfl, rfl⟩
  · have e : toldV n = .iface 28 (.int .i64 n) := by simp [toldV, h]
    rw [e]; clear e
    have h' : (n == 0) = false := by simp [h]
    clear h
    go_enter Tryd.func37, Tryd.ntmps37
    go_wp2
    go_ret
    exact ⟨rfl, rfl⟩

set_option maxHeartbeats 400000 in
theorem check_any (p t k d a b r : Int) (w : World) :
    Calls Tryd.prog 23 #[.agg #[.int .i64 p, .int .i64 t, .int .i64 k, .int .i64 d, .int .i64 a, .int .i64 b, .int .i64 r]] w fun e w' => e = .returned (toldV (faultN p t k d a b r)) ∧ w' = (w.alloc (.cells #[.int .i64 p, .int .i64 t, .int .i64 k, .int .i64 d, .int .i64 a, .int .i64 b, .int .i64 r] 23)).alloc (.cells #[.int .i64 p, .int .i64 t, .int .i64 k, .int .i64 d, .int .i64 a, .int .i64 b, .int .i64 r] 23) := by
  go_enter Tryd.func23, Tryd.ntmps23
  go_wp2_with (first | (go_at_call 38; refine (fault_any _ _ _ _ _ _ _ _).mono ?_; rintro e w' ⟨rfl, rfl⟩) | (go_at_call 37; refine (told_any _ _).mono ?_; rintro e w' ⟨rfl, rfl⟩))
  go_ret
  exact ⟨rfl, rfl⟩

end Go.Proofs.YtdncnljcihblbaaDoor

namespace Go.Proofs.YtdncnljcihblbaaDoor
open Go.RowKit

theorem all_take_succ (xs : List Int) (k : Nat) (h : k < xs.length) (f : Int → Bool) : (xs.take (k + 1)).all f = ((xs.take k).all f && f xs[k]) := by
  rw [List.take_succ_eq_append_getElem h, List.all_append]; simp

theorem all_false_of (xs : List Int) (k : Nat) (h : k < xs.length) (f : Int → Bool) (hf : f xs[k] = false) : xs.all f = false := by
  rw [List.all_eq_false]
  exact ⟨xs[k], List.getElem_mem h, by simp [hf]⟩

theorem numB_lo {n : Int} (h : n < -1000000) : numB n = false := by
  unfold numB; rw [decide_eq_false_iff_not]; omega
theorem numB_hi {n : Int} (h : 1000000 < n) : numB n = false := by
  unfold numB; rw [decide_eq_false_iff_not]; omega
theorem numB_in {n : Int} (h1 : ¬ n < -1000000) (h2 : ¬ 1000000 < n) : numB n = true := by
  unfold numB; rw [decide_eq_true_iff]; omega

set_option maxHeartbeats 400000 in
theorem small_any (xs : List Int) (blk : Nat) (w : World) (hlen : xs.length ≤ 100)
    (hc : ∀ j, (h : j < xs.length) → w.cell? ⟨blk, j, none⟩ = some (.int .i64 xs[j])) :
    Calls Tryd.prog 22 #[.slice (some ⟨blk, 0, none⟩) xs.length xs.length] w fun e w' => e = .returned (.bool (xs.all numB)) ∧ w' = w := by
  have HC : Hid (∀ j, (h : j < xs.length) → w.cell? ⟨blk, j, none⟩ = some (.int .i64 xs[j])) := hc
  clear hc
  go_enter Tryd.func22, Tryd.ntmps22
  go_wp2
  go_loop [7] (fun i => ∃ k : Nat, k ≤ xs.length ∧ i = .int .i64 k ∧ (xs.take k).all numB = true) (fun i => xs.length - (intOf i).toNat)
  case atStart => exact ⟨0, Nat.zero_le _, rfl, rfl⟩
  case round =>
    obtain ⟨k, hk, rfl, ha⟩ := hrel
    have HA : Hid ((xs.take k).all numB = true) := ha
    clear ha
    by_cases hlt : k < xs.length
    · have hck := HC.out k hlt
      by_cases h1 : xs[k] < -1000000
      · have HF : Hid (xs.all numB = false) := all_false_of xs k hlt _ (numB_lo h1)
        go_wp2
        go_ret
        exact ⟨by rw [HF.out]; rfl, rfl⟩
      · by_cases h2 : 1000000 < xs[k]
        · have HF : Hid (xs.all numB = false) := all_false_of xs k hlt _ (numB_hi h2)
          go_wp2
          go_ret
          exact ⟨by rw [HF.out]; rfl, rfl⟩
        · have HN : Hid ((xs.take (k + 1)).all numB = true) := by
            show (xs.take (k + 1)).all numB = true
            rw [all_take_succ xs k hlt, HA.out, numB_in h1 h2]; rfl
          go_wp2
          go_round
          case rel => exact ⟨k + 1, by omega, by go_num, HN.out⟩
          case measure => simp [intOf]; omega
    · have HN : Hid (xs.all numB = true) := by
        have := HA.out
        rw [List.take_of_length_le (by omega)] at this
        exact this
      go_wp2
      go_ret
      exact ⟨by rw [HN.out]; rfl, rfl⟩
end Go.Proofs.YtdncnljcihblbaaDoor

namespace Go.Proofs.YtdncnljcihblbaaDoor
open Go.RowKit

theorem small3 (a b r : Int) (blk : Nat) (w : World) (h0 : w.cell? ⟨blk, 0, none⟩ = some (.int .i64 a)) (h1 : w.cell? ⟨blk, 1, none⟩ = some (.int .i64 b)) (h2 : w.cell? ⟨blk, 2, none⟩ = some (.int .i64 r)) :
    Calls Tryd.prog 22 #[.slice (some ⟨blk, 0, none⟩) 3 3] w fun e w' => e = .returned (.bool (numB a && numB b && numB r)) ∧ w' = w := by
  have h := small_any [a, b, r] blk w (by simp) (by
    intro j hj
    match j, hj with
    | 0, _ => exact h0
    | 1, _ => exact h1
    | 2, _ => exact h2)
  have e : [a, b, r].all numB = (numB a && numB b && numB r) := by simp [Bool.and_assoc]
  rw [e] at h
  exact h

theorem inB_of (p k a b r : Int) (h1 : 0 ≤ p) (h2 : p < 8) (h3 : 0 ≤ k) (h4 : k < 8) : inB p k a b r = (numB a && numB b && numB r) := by
  simp [inB, eightB, h1, h2, h3, h4]

theorem inB_no (p k a b r : Int) (h : p < 0 ∨ 7 < p ∨ k < 0 ∨ 7 < k) : inB p k a b r = false := by
  cases e : inB p k a b r
  · rfl
  · simp [inB, eightB] at e; omega

theorem faultN_out (p t k d a b r : Int) (h : inB p k a b r = false) : faultN p t k d a b r = 2 := by simp [faultN, h]
theorem faultN_arg (p t k d a b r : Int) (h : inB p k a b r = true) (h2 : t < 1 ∨ 4 < t ∨ d < 1 ∨ 12 < d) : faultN p t k d a b r = 1 := by
  unfold faultN
  rw [h]
  have e : (decide (1 ≤ t ∧ t ≤ 4) && kindB d) = false := by
    cases e : (decide (1 ≤ t ∧ t ≤ 4) && kindB d)
    · rfl
    · simp [kindB] at e; omega
  rw [e]; rfl
theorem faultN_in (p t k d a b r : Int) (h : inB p k a b r = true) (h1 : 1 ≤ t) (h2 : t ≤ 4) (h3 : 1 ≤ d) (h4 : d ≤ 12) : faultN p t k d a b r = if r = 0 ∨ t = 2 then 0 else 1 := by
  unfold faultN
  rw [h]
  have e : (decide (1 ≤ t ∧ t ≤ 4) && kindB d) = true := by simp [kindB, h1, h2, h3, h4]
  rw [e]; simp

set_option maxHeartbeats 1000000 in
theorem refCheck_out (p t k d a b r : Int) (w : World) (h : p < 0 ∨ 7 < p ∨ k < 0 ∨ 7 < k) :
    Calls Tryd.prog 8 #[.agg #[.int .i64 p, .int .i64 t, .int .i64 k, .int .i64 d, .int .i64 a, .int .i64 b, .int .i64 r]] w fun e w' => e = .returned (.int .i64 2) ∧ Below w.heap.size w w' := by
  by_cases h1 : p < 0
  · go_enter Tryd.func8, Tryd.ntmps8
    go_wp2
    go_ret
    exact ⟨rfl, (Below.refl _ _).alloc (Nat.le_refl _) _⟩
  · by_cases h2 : 7 < p
    · go_enter Tryd.func8, Tryd.ntmps8
      go_wp2
      go_ret
      exact ⟨rfl, (Below.refl _ _).alloc (Nat.le_refl _) _⟩
    · by_cases h3 : k < 0
      · go_enter Tryd.func8, Tryd.ntmps8
        go_wp2
        go_ret
        exact ⟨rfl, (Below.refl _ _).alloc (Nat.le_refl _) _⟩
      · have h4 : 7 < k := by omega
        clear h
        go_enter Tryd.func8, Tryd.ntmps8
        go_wp2
        go_ret
        exact ⟨rfl, (Below.refl _ _).alloc (Nat.le_refl _) _⟩

set_option maxHeartbeats 1000000 in
theorem refCheck_small (p t k d a b r : Int) (w : World) (h1 : ¬ p < 0) (h2 : ¬ 7 < p) (h3 : ¬ k < 0) (h4 : ¬ 7 < k) (hs : (numB a && numB b && numB r) = false) :
    Calls Tryd.prog 8 #[.agg #[.int .i64 p, .int .i64 t, .int .i64 k, .int .i64 d, .int .i64 a, .int .i64 b, .int .i64 r]] w fun e w' => e = .returned (.int .i64 2) ∧ Below w.heap.size w w' := by
  have HS : Hid ((numB a && numB b && numB r) = false) := hs
  clear hs
  go_enter Tryd.func8, Tryd.ntmps8
  go_wp2_with fail
  refine (small3 a b r _ _ (by simp) (by simp) (by simp)).mono ?_
  rw [HS.out]
  rintro e w1 ⟨rfl, rfl⟩
  go_wp2
  go_ret
  exact ⟨rfl, ((Below.refl _ _).alloc (Nat.le_refl _) _).alloc (by simp) _⟩

set_option maxHeartbeats 2000000 in
theorem refCheck_in (p t k d a b r : Int) (w : World) (h1 : ¬ p < 0) (h2 : ¬ 7 < p) (h3 : ¬ k < 0) (h4 : ¬ 7 < k) (hs : (numB a && numB b && numB r) = true) :
    Calls Tryd.prog 8 #[.agg #[.int .i64 p, .int .i64 t, .int .i64 k, .int .i64 d, .int .i64 a, .int .i64 b, .int .i64 r]] w fun e w' => e = .returned (.int .i64 (faultN p t k d a b r)) ∧ Below w.heap.size w w' := by
  have hin : inB p k a b r = true := by rw [inB_of p k a b r (by omega) (by omega) (by omega) (by omega)]; exact hs
  have HS : Hid ((numB a && numB b && numB r) = true) := hs
  have HI : Hid (inB p k a b r = true) := hin
  clear hs hin
  by_cases g1 : t < 1
  · rw [faultN_arg p t k d a b r HI.out (by omega)]
    go_enter Tryd.func8, Tryd.ntmps8
    go_wp2_with fail
    refine (small3 a b r _ _ (by simp) (by simp) (by simp)).mono ?_
    rw [HS.out]
    rintro e w1 ⟨rfl, rfl⟩
    go_wp2
    go_ret
    exact ⟨rfl, ((Below.refl _ _).alloc (Nat.le_refl _) _).alloc (by simp) _⟩
  · by_cases g2 : 4 < t
    · rw [faultN_arg p t k d a b r HI.out (by omega)]
      go_enter Tryd.func8, Tryd.ntmps8
      go_wp2_with fail
      refine (small3 a b r _ _ (by simp) (by simp) (by simp)).mono ?_
      rw [HS.out]
      rintro e w1 ⟨rfl, rfl⟩
      go_wp2
      go_ret
      exact ⟨rfl, ((Below.refl _ _).alloc (Nat.le_refl _) _).alloc (by simp) _⟩
    · by_cases g3 : d < 1
      · rw [faultN_arg p t k d a b r HI.out (by omega)]
        go_enter Tryd.func8, Tryd.ntmps8
        go_wp2_with fail
        refine (small3 a b r _ _ (by simp) (by simp) (by simp)).mono ?_
        rw [HS.out]
        rintro e w1 ⟨rfl, rfl⟩
        go_wp2
        go_ret
        exact ⟨rfl, ((Below.refl _ _).alloc (Nat.le_refl _) _).alloc (by simp) _⟩
      · by_cases g4 : 12 < d
        · rw [faultN_arg p t k d a b r HI.out (by omega)]
          go_enter Tryd.func8, Tryd.ntmps8
          go_wp2_with fail
          refine (small3 a b r _ _ (by simp) (by simp) (by simp)).mono ?_
          rw [HS.out]
          rintro e w1 ⟨rfl, rfl⟩
          go_wp2
          go_ret
          exact ⟨rfl, ((Below.refl _ _).alloc (Nat.le_refl _) _).alloc (by simp) _⟩
        · rw [faultN_in p t k d a b r HI.out (by omega) (by omega) (by omega) (by omega)]
          by_cases g5 : r = 0
          · rw [if_pos (Or.inl g5)]
            have g5' : (r != 0) = false := by simp [g5]
            clear g5
            go_enter Tryd.func8, Tryd.ntmps8
            go_wp2_with fail
            refine (small3 a b r _ _ (by simp) (by simp) (by simp)).mono ?_
            rw [HS.out]
            rintro e w1 ⟨rfl, rfl⟩
            go_wp2
            go_ret
            exact ⟨rfl, ((Below.refl _ _).alloc (Nat.le_refl _) _).alloc (by simp) _⟩
          · have g5' : (r != 0) = true := by simp [g5]
            by_cases g6 : t = 2
            · rw [if_pos (Or.inr g6)]
              have g6' : (t != 2) = false := by simp [g6]
              clear g5 g6
              go_enter Tryd.func8, Tryd.ntmps8
              go_wp2_with fail
              refine (small3 a b r _ _ (by simp) (by simp) (by simp)).mono ?_
              rw [HS.out]
              rintro e w1 ⟨rfl, rfl⟩
              go_wp2
              go_ret
              exact ⟨rfl, ((Below.refl _ _).alloc (Nat.le_refl _) _).alloc (by simp) _⟩
            · rw [if_neg (by omega)]
              have g6' : (t != 2) = true := by simp [g6]
              clear g5 g6
              go_enter Tryd.func8, Tryd.ntmps8
              go_wp2_with fail
              refine (small3 a b r _ _ (by simp) (by simp) (by simp)).mono ?_
              rw [HS.out]
              rintro e w1 ⟨rfl, rfl⟩
              go_wp2
              go_ret
              exact ⟨rfl, ((Below.refl _ _).alloc (Nat.le_refl _) _).alloc (by simp) _⟩

theorem refCheck_any (p t k d a b r : Int) (w : World) :
    Calls Tryd.prog 8 #[.agg #[.int .i64 p, .int .i64 t, .int .i64 k, .int .i64 d, .int .i64 a, .int .i64 b, .int .i64 r]] w fun e w' => e = .returned (.int .i64 (faultN p t k d a b r)) ∧ Below w.heap.size w w' := by
  by_cases h : p < 0 ∨ 7 < p ∨ k < 0 ∨ 7 < k
  · rw [faultN_out p t k d a b r (inB_no p k a b r h)]
    exact refCheck_out p t k d a b r w h
  · cases hs : (numB a && numB b && numB r)
    · rw [faultN_out p t k d a b r (by rw [inB_of p k a b r (by omega) (by omega) (by omega) (by omega)]; exact hs)]
      exact refCheck_small p t k d a b r w (by omega) (by omega) (by omega) (by omega) hs
    · exact refCheck_in p t k d a b r w (by omega) (by omega) (by omega) (by omega) hs

end Go.Proofs.YtdncnljcihblbaaDoor
