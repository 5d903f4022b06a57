/-
  What the small functions on an event do: contracts over the translated program.
  What the functions that judge one event do: contracts over the translated program.
  What the document's own 'small' and 'EventCheck' tell.
  What the document's own EventCheck tells of an event: as the program's.
-/
import Derived.Test.YtfojmbbhcmeejaaDoorProg
import Derived.Test.YtfojmbbhcmeejaaDoorPlainAZ
import Derived.WalkKit
import Derived.WalkSpells
import Derived.WalkLawsBesides
namespace Go.Proofs.YtfojmbbhcmeejaaDoor
open Go.RowKit

set_option maxHeartbeats 400000 in
theorem isNumber_any (n : Int) (w : World) :
    Calls Tryd.prog 74 #[.int .i64 n] w fun e w' => e = .returned (.bool (numB n)) ∧ w' = w := by
  by_cases h1 : -1000000 ≤ n
  · by_cases h2 : n ≤ 1000000
    · have e : numB n = true := by simp [numB, h1, h2]
      rw [e]; clear e
      go_enter Tryd.func74, Tryd.ntmps74
      go_wp2
      go_ret
      exact ⟨rfl, rfl⟩
    · have e : numB n = false := by simp [numB, h2]
      rw [e]; clear e
      go_enter Tryd.func74, Tryd.ntmps74
      go_wp2
      go_ret
      exact ⟨rfl, rfl⟩
  · have e : numB n = false := by simp [numB, h1]
    rw [e]; clear e
    go_enter Tryd.func74, Tryd.ntmps74
    go_wp2
    go_ret
    exact ⟨rfl, rfl⟩

set_option maxHeartbeats 400000 in
theorem isKind_any (n : Int) (w : World) :
    Calls Tryd.prog 75 #[.int .i64 n] w fun e w' => e = .returned (.bool (kindB n)) ∧ w' = w := by
  by_cases h1 : 1 ≤ n
  · by_cases h2 : n ≤ 12
    · have e : kindB n = true := by simp [kindB, h1, h2]
      rw [e]; clear e
      go_enter Tryd.func75, Tryd.ntmps75
      go_wp2
      go_ret
      exact ⟨rfl, rfl⟩
    · have e : kindB n = false := by simp [kindB, h2]
      rw [e]; clear e
      go_enter Tryd.func75, Tryd.ntmps75
      go_wp2
      go_ret
      exact ⟨rfl, rfl⟩
  · have e : kindB n = false := by simp [kindB, h1]
    rw [e]; clear e
    go_enter Tryd.func75, Tryd.ntmps75
    go_wp2
    go_ret
    exact ⟨rfl, rfl⟩

set_option maxHeartbeats 1000000 in
theorem inBounds_any (p k a b r : Int) (w : World) :
    Calls Tryd.prog 73 #[.int .i64 p, .int .i64 k, .int .i64 a, .int .i64 b, .int .i64 r] w fun e w' => e = .returned (.bool (inB p k a b r)) ∧ w' = w := by
  by_cases h1 : 0 ≤ p
  · by_cases h2 : p < 8
    · by_cases h3 : 0 ≤ k
      · by_cases h4 : k < 8
        · have e : inB p k a b r = (numB a && numB b && numB r) := by simp [inB, eightB, h1, h2, h3, h4]
          rw [e]; clear e
          go_enter Tryd.func73, Tryd.ntmps73
          go_wp2_with (go_at_call 74; refine (isNumber_any _ _).mono ?_; rintro e w' ⟨rfl, rfl⟩)
          all_goals (go_ret; exact ⟨by simp_all, rfl⟩)
        · have e : inB p k a b r = false := by simp [inB, eightB, h4]
          rw [e]; clear e
          go_enter Tryd.func73, Tryd.ntmps73
          go_wp2
          go_ret
          exact ⟨rfl, rfl⟩
      · have e : inB p k a b r = false := by simp [inB, eightB, h3]
        rw [e]; clear e
        go_enter Tryd.func73, Tryd.ntmps73
        go_wp2
        go_ret
        exact ⟨rfl, rfl⟩
    · have e : inB p k a b r = false := by simp [inB, eightB, h2]
      rw [e]; clear e
      go_enter Tryd.func73, Tryd.ntmps73
      go_wp2
      go_ret
      exact ⟨rfl, rfl⟩
  · have e : inB p k a b r = false := by simp [inB, eightB, h1]
    rw [e]; clear e
    go_enter Tryd.func73, Tryd.ntmps73
    go_wp2
    go_ret
    exact ⟨rfl, rfl⟩

end Go.Proofs.YtfojmbbhcmeejaaDoor

namespace Go.Proofs.YtfojmbbhcmeejaaDoor
open Go.RowKit

/-- What 'told' makes of a number: nil of 0, else that number as an error. -/
def toldV (n : Int) : Value := if n = 0 then .nilIface else .iface 23 (.int .i64 n)

end Go.Proofs.YtfojmbbhcmeejaaDoor

namespace Go.Proofs.YtfojmbbhcmeejaaDoor
open Go.RowKit

theorem all_take_succ (xs : List Int) (k : Nat) (h : k < xs.length) (f : Int → Bool) : (xs.take (k + 1)).all f = ((xs.take k).all f && f xs[k]) := by
  rw [List.take_succ_eq_append_getElem h, List.all_append]; simp

theorem all_false_of (xs : List Int) (k : Nat) (h : k < xs.length) (f : Int → Bool) (hf : f xs[k] = false) : xs.all f = false := by
  rw [List.all_eq_false]
  exact ⟨xs[k], List.getElem_mem h, by simp [hf]⟩

theorem numB_lo {n : Int} (h : n < -1000000) : numB n = false := by
  unfold numB; rw [decide_eq_false_iff_not]; omega
theorem numB_hi {n : Int} (h : 1000000 < n) : numB n = false := by
  unfold numB; rw [decide_eq_false_iff_not]; omega
theorem numB_in {n : Int} (h1 : ¬ n < -1000000) (h2 : ¬ 1000000 < n) : numB n = true := by
  unfold numB; rw [decide_eq_true_iff]; omega

set_option maxHeartbeats 400000 in
theorem small_any (xs : List Int) (blk : Nat) (w : World) (hlen : xs.length ≤ 100)
    (hc : ∀ j, (h : j < xs.length) → w.cell? ⟨blk, j, none⟩ = some (.int .i64 xs[j])) :
    Calls Tryd.prog 45 #[.slice (some ⟨blk, 0, none⟩) xs.length xs.length] w fun e w' => e = .returned (.bool (xs.all numB)) ∧ w' = w := by
  have HC : Hid (∀ j, (h : j < xs.length) → w.cell? ⟨blk, j, none⟩ = some (.int .i64 xs[j])) := hc
  clear hc
  go_enter Tryd.func45, Tryd.ntmps45
  go_wp2
  go_loop [7] (fun i => ∃ k : Nat, k ≤ xs.length ∧ i = .int .i64 k ∧ (xs.take k).all numB = true) (fun i => xs.length - (intOf i).toNat)
  case atStart => exact ⟨0, Nat.zero_le _, rfl, rfl⟩
  case round =>
    obtain ⟨k, hk, rfl, ha⟩ := hrel
    have HA : Hid ((xs.take k).all numB = true) := ha
    clear ha
    by_cases hlt : k < xs.length
    · have hck := HC.out k hlt
      by_cases h1 : xs[k] < -1000000
      · have HF : Hid (xs.all numB = false) := all_false_of xs k hlt _ (numB_lo h1)
        go_wp2
        go_ret
        exact ⟨by rw [HF.out]; rfl, rfl⟩
      · by_cases h2 : 1000000 < xs[k]
        · have HF : Hid (xs.all numB = false) := all_false_of xs k hlt _ (numB_hi h2)
          go_wp2
          go_ret
          exact ⟨by rw [HF.out]; rfl, rfl⟩
        · have HN : Hid ((xs.take (k + 1)).all numB = true) := by
            show (xs.take (k + 1)).all numB = true
            rw [all_take_succ xs k hlt, HA.out, numB_in h1 h2]; rfl
          go_wp2
          go_round
          case rel => exact ⟨k + 1, by omega, by go_num, HN.out⟩
          case measure => simp [intOf]; omega
    · have HN : Hid (xs.all numB = true) := by
        have := HA.out
        rw [List.take_of_length_le (by omega)] at this
        exact this
      go_wp2
      go_ret
      exact ⟨by rw [HN.out]; rfl, rfl⟩
end Go.Proofs.YtfojmbbhcmeejaaDoor

namespace Go.Proofs.YtfojmbbhcmeejaaDoor
open Go.RowKit

theorem small3 (a b r : Int) (blk : Nat) (w : World) (h0 : w.cell? ⟨blk, 0, none⟩ = some (.int .i64 a)) (h1 : w.cell? ⟨blk, 1, none⟩ = some (.int .i64 b)) (h2 : w.cell? ⟨blk, 2, none⟩ = some (.int .i64 r)) :
    Calls Tryd.prog 45 #[.slice (some ⟨blk, 0, none⟩) 3 3] w fun e w' => e = .returned (.bool (numB a && numB b && numB r)) ∧ w' = w := by
  have h := small_any [a, b, r] blk w (by simp) (by
    intro j hj
    match j, hj with
    | 0, _ => exact h0
    | 1, _ => exact h1
    | 2, _ => exact h2)
  have e : [a, b, r].all numB = (numB a && numB b && numB r) := by simp [Bool.and_assoc]
  rw [e] at h
  exact h

theorem inB_of (p k a b r : Int) (h1 : 0 ≤ p) (h2 : p < 8) (h3 : 0 ≤ k) (h4 : k < 8) : inB p k a b r = (numB a && numB b && numB r) := by
  simp [inB, eightB, h1, h2, h3, h4]

theorem inB_no (p k a b r : Int) (h : p < 0 ∨ 7 < p ∨ k < 0 ∨ 7 < k) : inB p k a b r = false := by
  cases e : inB p k a b r
  · rfl
  · simp [inB, eightB] at e; omega

theorem faultN_out (p t k d a b r : Int) (h : inB p k a b r = false) : faultN p t k d a b r = 2 := by simp [faultN, h]
theorem faultN_arg (p t k d a b r : Int) (h : inB p k a b r = true) (h2 : t < 1 ∨ 4 < t ∨ d < 1 ∨ 12 < d) : faultN p t k d a b r = 1 := by
  unfold faultN
  rw [h]
  have e : (decide (1 ≤ t ∧ t ≤ 4) && kindB d) = false := by
    cases e : (decide (1 ≤ t ∧ t ≤ 4) && kindB d)
    · rfl
    · simp [kindB] at e; omega
  rw [e]; rfl
theorem faultN_in (p t k d a b r : Int) (h : inB p k a b r = true) (h1 : 1 ≤ t) (h2 : t ≤ 4) (h3 : 1 ≤ d) (h4 : d ≤ 12) : faultN p t k d a b r = if r = 0 ∨ t = 2 then 0 else 1 := by
  unfold faultN
  rw [h]
  have e : (decide (1 ≤ t ∧ t ≤ 4) && kindB d) = true := by simp [kindB, h1, h2, h3, h4]
  rw [e]; simp

end Go.Proofs.YtfojmbbhcmeejaaDoor
