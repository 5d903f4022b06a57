/-
  What the document's own 'small' and 'EventCheck' tell.
-/
import Derived.Test.YtkedbcfejcakaaaDoorWalkB
namespace Go.Proofs.YtkedbcfejcakaaaDoor
open Go.RowKit

theorem all_take_succ (xs : List Int) (k : Nat) (h : k < xs.length) (f : Int → Bool) : (xs.take (k + 1)).all f = ((xs.take k).all f && f xs[k]) := by
  rw [List.take_succ_eq_append_getElem h, List.all_append]; simp

theorem all_false_of (xs : List Int) (k : Nat) (h : k < xs.length) (f : Int → Bool) (hf : f xs[k] = false) : xs.all f = false := by
  rw [List.all_eq_false]
  exact ⟨xs[k], List.getElem_mem h, by simp [hf]⟩

theorem numB_lo {n : Int} (h : n < -1000000) : numB n = false := by
  unfold numB; rw [decide_eq_false_iff_not]; omega
theorem numB_hi {n : Int} (h : 1000000 < n) : numB n = false := by
  unfold numB; rw [decide_eq_false_iff_not]; omega
theorem numB_in {n : Int} (h1 : ¬ n < -1000000) (h2 : ¬ 1000000 < n) : numB n = true := by
  unfold numB; rw [decide_eq_true_iff]; omega

set_option maxHeartbeats 400000 in
theorem small_any (xs : List Int) (blk : Nat) (w : World) (hlen : xs.length ≤ 100)
    (hc : ∀ j, (h : j < xs.length) → w.cell? ⟨blk, j, none⟩ = some (.int .i64 xs[j])) :
    Calls Tryd.prog 24 #[.slice (some ⟨blk, 0, none⟩) xs.length xs.length] w fun e w' => e = .returned (.bool (xs.all numB)) ∧ w' = w := by
  have HC : Hid (∀ j, (h : j < xs.length) → w.cell? ⟨blk, j, none⟩ = some (.int .i64 xs[j])) := hc
  clear hc
  go_enter Tryd.func24, Tryd.ntmps24
  go_wp2
  go_loop [7] (fun i => ∃ k : Nat, k ≤ xs.length ∧ i = .int .i64 k ∧ (xs.take k).all numB = true) (fun i => xs.length - (intOf i).toNat)
  case atStart => exact ⟨0, Nat.zero_le _, rfl, rfl⟩
  case round =>
    obtain ⟨k, hk, rfl, ha⟩ := hrel
    have HA : Hid ((xs.take k).all numB = true) := ha
    clear ha
    by_cases hlt : k < xs.length
    · have hck := HC.out k hlt
      by_cases h1 : xs[k] < -1000000
      · have HF : Hid (xs.all numB = false) := all_false_of xs k hlt _ (numB_lo h1)
        go_wp2
        go_ret
        exact ⟨by rw [HF.out]; rfl, rfl⟩
      · by_cases h2 : 1000000 < xs[k]
        · have HF : Hid (xs.all numB = false) := all_false_of xs k hlt _ (numB_hi h2)
          go_wp2
          go_ret
          exact ⟨by rw [HF.out]; rfl, rfl⟩
        · have HN : Hid ((xs.take (k + 1)).all numB = true) := by
            show (xs.take (k + 1)).all numB = true
            rw [all_take_succ xs k hlt, HA.out, numB_in h1 h2]; rfl
          go_wp2
          go_round
          case rel => exact ⟨k + 1, by omega, by go_num, HN.out⟩
          case measure => simp [intOf]; omega
    · have HN : Hid (xs.all numB = true) := by
        have := HA.out
        rw [List.take_of_length_le (by omega)] at this
        exact this
      go_wp2
      go_ret
      exact ⟨by rw [HN.out]; rfl, rfl⟩
end Go.Proofs.YtkedbcfejcakaaaDoor
