/-
  The program's isTx and fault of a step, walked.
-/
import Derived.Test.YtibdchahallbjabDoorOcM
namespace Go.Proofs.YtibdchahallbjabDoor
open Go.RowKit

def txB (t : Int) : Bool := decide (0 ≤ t) && decide (t < 8)
set_option maxRecDepth 100000 in
theorem isTx_any (t : Int) (w : World) : Calls Tryd.prog 56 #[.int .i64 t] w fun e w' => e = .returned (.bool (txB t)) ∧ w' = w := by
  unfold txB
  go_enter Tryd.func56, Tryd.ntmps56
  by_cases h : 0 ≤ t
  · by_cases h2 : t < 8
    · rw [decide_eq_true h, decide_eq_true h2]
      go_wp2
      go_ret
      exact ⟨rfl, rfl⟩
    · rw [decide_eq_true h, decide_eq_false h2]
      go_wp2
      go_ret
      exact ⟨rfl, rfl⟩
  · rw [decide_eq_false h]
    go_wp2
    go_ret
    exact ⟨rfl, rfl⟩
theorem txB_iff {t : Int} : txB t = true ↔ 0 ≤ t ∧ t ≤ 7 := by
  unfold txB
  simp
  omega

set_option maxRecDepth 100000 in
set_option maxHeartbeats 2000000 in
theorem fault_any (s : Stp) (w : World) : Calls Tryd.prog 59 #[s.agg] w fun e w' => e = .returned (.int .i64 (fltR s)) ∧ Below w.heap.size w w' := by
  have HX := hideIt (isTx_any s.p (w.alloc (.cells #[.int .i64 s.p, .int .i64 s.k, .int .i64 s.m] 40)))
  have HB : Hid (Below w.heap.size w (w.alloc (.cells #[.int .i64 s.p, .int .i64 s.k, .int .i64 s.m] 40))) := belA (Below.refl _ _) _
  have c1 : (w.alloc (.cells #[.int .i64 s.p, .int .i64 s.k, .int .i64 s.m] 40)).cell? ⟨w.heap.size, 1, none⟩ = some (.int .i64 s.k) := by simp
  have c2 : (w.alloc (.cells #[.int .i64 s.p, .int .i64 s.k, .int .i64 s.m] 40)).cell? ⟨w.heap.size, 2, none⟩ = some (.int .i64 s.m) := by simp
  have hT := @txB_iff s.p
  have HR : Hid (fltR s = if s.p < 0 ∨ 7 < s.p ∨ s.m < 0 ∨ 7 < s.m then 2 else if s.k < 1 ∨ 4 < s.k ∨ (2 < s.k ∧ s.m ≠ 0) then 1 else 0) := rfl
  generalize fltR s = r at HR ⊢
  unfold Stp.agg
  obtain ⟨p, k, m⟩ := s
  dsimp only at *
  go_enter Tryd.func59, Tryd.ntmps59
  go_wp2_with fail
  refine HX.out.mono ?_
  clear HX
  rintro e w1 ⟨rfl, rfl⟩
  generalize w.alloc _ = W at HB c1 c2 ⊢
  generalize txB p = tb at hT ⊢
  cases tb
  · rw [if_pos (by have : ¬ (0 ≤ p ∧ p ≤ 7) := fun h => by have := hT.2 h; cases this
                   omega)] at HR
    clear hT c1 c2
    go_wp2
    go_ret
    exact ⟨ret_int HR.out.symm, HB.out⟩
  · have hp := hT.1 rfl
    clear hT
    by_cases hm1 : m < 0
    · rw [if_pos (by omega)] at HR
      go_wp2
      go_ret
      exact ⟨ret_int HR.out.symm, HB.out⟩
    · by_cases hm2 : 8 ≤ m
      · rw [if_pos (by omega)] at HR
        go_wp2
        go_ret
        exact ⟨ret_int HR.out.symm, HB.out⟩
      · rw [if_neg (by omega)] at HR
        by_cases hk1 : k < 1
        · rw [if_pos (by omega)] at HR
          go_wp2
          go_ret
          exact ⟨ret_int HR.out.symm, HB.out⟩
        · by_cases hk2 : 4 < k
          · rw [if_pos (by omega)] at HR
            go_wp2
            go_ret
            exact ⟨ret_int HR.out.symm, HB.out⟩
          · by_cases hk3 : 3 ≤ k
            · by_cases hm3 : m = 0
              · subst hm3
                rw [if_neg (by omega)] at HR
                go_wp2
                go_ret
                exact ⟨ret_int HR.out.symm, HB.out⟩
              · rw [if_pos (by omega)] at HR
                go_wp2
                go_ret
                exact ⟨ret_int HR.out.symm, HB.out⟩
            · rw [if_neg (by omega)] at HR
              go_wp2
              go_ret
              exact ⟨ret_int HR.out.symm, HB.out⟩
end Go.Proofs.YtibdchahallbjabDoor
