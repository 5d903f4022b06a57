/-
  What the document's own EventCheck tells of an event: as the program's.
-/
import Derived.Test.YtkedbcfejcakaaaDoorSmall
namespace Go.Proofs.YtkedbcfejcakaaaDoor
open Go.RowKit

theorem small3 (a b r : Int) (blk : Nat) (w : World) (h0 : w.cell? ⟨blk, 0, none⟩ = some (.int .i64 a)) (h1 : w.cell? ⟨blk, 1, none⟩ = some (.int .i64 b)) (h2 : w.cell? ⟨blk, 2, none⟩ = some (.int .i64 r)) :
    Calls Tryd.prog 24 #[.slice (some ⟨blk, 0, none⟩) 3 3] w fun e w' => e = .returned (.bool (numB a && numB b && numB r)) ∧ w' = w := by
  have h := small_any [a, b, r] blk w (by simp) (by
    intro j hj
    match j, hj with
    | 0, _ => exact h0
    | 1, _ => exact h1
    | 2, _ => exact h2)
  have e : [a, b, r].all numB = (numB a && numB b && numB r) := by simp [Bool.and_assoc]
  rw [e] at h
  exact h

theorem inB_of (p k a b r : Int) (h1 : 0 ≤ p) (h2 : p < 8) (h3 : 0 ≤ k) (h4 : k < 8) : inB p k a b r = (numB a && numB b && numB r) := by
  simp [inB, eightB, h1, h2, h3, h4]

theorem inB_no (p k a b r : Int) (h : p < 0 ∨ 7 < p ∨ k < 0 ∨ 7 < k) : inB p k a b r = false := by
  cases e : inB p k a b r
  · rfl
  · simp [inB, eightB] at e; omega

theorem faultN_out (p t k d a b r : Int) (h : inB p k a b r = false) : faultN p t k d a b r = 2 := by simp [faultN, h]
theorem faultN_arg (p t k d a b r : Int) (h : inB p k a b r = true) (h2 : t < 1 ∨ 4 < t ∨ d < 1 ∨ 12 < d) : faultN p t k d a b r = 1 := by
  unfold faultN
  rw [h]
  have e : (decide (1 ≤ t ∧ t ≤ 4) && kindB d) = false := by
    cases e : (decide (1 ≤ t ∧ t ≤ 4) && kindB d)
    · rfl
    · simp [kindB] at e; omega
  rw [e]; rfl
theorem faultN_in (p t k d a b r : Int) (h : inB p k a b r = true) (h1 : 1 ≤ t) (h2 : t ≤ 4) (h3 : 1 ≤ d) (h4 : d ≤ 12) : faultN p t k d a b r = if r = 0 ∨ t = 2 then 0 else 1 := by
  unfold faultN
  rw [h]
  have e : (decide (1 ≤ t ∧ t ≤ 4) && kindB d) = true := by simp [kindB, h1, h2, h3, h4]
  rw [e]; simp

set_option maxHeartbeats 1000000 in
theorem refCheck_out (p t k d a b r : Int) (w : World) (h : p < 0 ∨ 7 < p ∨ k < 0 ∨ 7 < k) :
    Calls Tryd.prog 9 #[.agg #[.int .i64 p, .int .i64 t, .int .i64 k, .int .i64 d, .int .i64 a, .int .i64 b, .int .i64 r]] w fun e w' => e = .returned (.int .i64 2) ∧ Below w.heap.size w w' := by
  by_cases h1 : p < 0
  · go_enter Tryd.func9, Tryd.ntmps9
    go_wp2
    go_ret
    exact ⟨rfl, (Below.refl _ _).alloc (Nat.le_refl _) _⟩
  · by_cases h2 : 7 < p
    · go_enter Tryd.func9, Tryd.ntmps9
      go_wp2
      go_ret
      exact ⟨rfl, (Below.refl _ _).alloc (Nat.le_refl _) _⟩
    · by_cases h3 : k < 0
      · go_enter Tryd.func9, Tryd.ntmps9
        go_wp2
        go_ret
        exact ⟨rfl, (Below.refl _ _).alloc (Nat.le_refl _) _⟩
      · have h4 : 7 < k := by omega
        clear h
        go_enter Tryd.func9, Tryd.ntmps9
        go_wp2
        go_ret
        exact ⟨rfl, (Below.refl _ _).alloc (Nat.le_refl _) _⟩

set_option maxHeartbeats 1000000 in
theorem refCheck_small (p t k d a b r : Int) (w : World) (h1 : ¬ p < 0) (h2 : ¬ 7 < p) (h3 : ¬ k < 0) (h4 : ¬ 7 < k) (hs : (numB a && numB b && numB r) = false) :
    Calls Tryd.prog 9 #[.agg #[.int .i64 p, .int .i64 t, .int .i64 k, .int .i64 d, .int .i64 a, .int .i64 b, .int .i64 r]] w fun e w' => e = .returned (.int .i64 2) ∧ Below w.heap.size w w' := by
  have HS : Hid ((numB a && numB b && numB r) = false) := hs
  clear hs
  go_enter Tryd.func9, Tryd.ntmps9
  go_wp2_with fail
  refine (small3 a b r _ _ (by simp) (by simp) (by simp)).mono ?_
  rw [HS.out]
  rintro e w1 ⟨rfl, rfl⟩
  go_wp2
  go_ret
  exact ⟨rfl, ((Below.refl _ _).alloc (Nat.le_refl _) _).alloc (by simp) _⟩

set_option maxHeartbeats 2000000 in
theorem refCheck_in (p t k d a b r : Int) (w : World) (h1 : ¬ p < 0) (h2 : ¬ 7 < p) (h3 : ¬ k < 0) (h4 : ¬ 7 < k) (hs : (numB a && numB b && numB r) = true) :
    Calls Tryd.prog 9 #[.agg #[.int .i64 p, .int .i64 t, .int .i64 k, .int .i64 d, .int .i64 a, .int .i64 b, .int .i64 r]] w fun e w' => e = .returned (.int .i64 (faultN p t k d a b r)) ∧ Below w.heap.size w w' := by
  have hin : inB p k a b r = true := by rw [inB_of p k a b r (by omega) (by omega) (by omega) (by omega)]; exact hs
  have HS : Hid ((numB a && numB b && numB r) = true) := hs
  have HI : Hid (inB p k a b r = true) := hin
  clear hs hin
  by_cases g1 : t < 1
  · rw [faultN_arg p t k d a b r HI.out (by omega)]
    go_enter Tryd.func9, Tryd.ntmps9
    go_wp2_with fail
    refine (small3 a b r _ _ (by simp) (by simp) (by simp)).mono ?_
    rw [HS.out]
    rintro e w1 ⟨rfl, rfl⟩
    go_wp2
    go_ret
    exact ⟨rfl, ((Below.refl _ _).alloc (Nat.le_refl _) _).alloc (by simp) _⟩
  · by_cases g2 : 4 < t
    · rw [faultN_arg p t k d a b r HI.out (by omega)]
      go_enter Tryd.func9, Tryd.ntmps9
      go_wp2_with fail
      refine (small3 a b r _ _ (by simp) (by simp) (by simp)).mono ?_
      rw [HS.out]
      rintro e w1 ⟨rfl, rfl⟩
      go_wp2
      go_ret
      exact ⟨rfl, ((Below.refl _ _).alloc (Nat.le_refl _) _).alloc (by simp) _⟩
    · by_cases g3 : d < 1
      · rw [faultN_arg p t k d a b r HI.out (by omega)]
        go_enter Tryd.func9, Tryd.ntmps9
        go_wp2_with fail
        refine (small3 a b r _ _ (by simp) (by simp) (by simp)).mono ?_
        rw [HS.out]
        rintro e w1 ⟨rfl, rfl⟩
        go_wp2
        go_ret
        exact ⟨rfl, ((Below.refl _ _).alloc (Nat.le_refl _) _).alloc (by simp) _⟩
      · by_cases g4 : 12 < d
        · rw [faultN_arg p t k d a b r HI.out (by omega)]
          go_enter Tryd.func9, Tryd.ntmps9
          go_wp2_with fail
          refine (small3 a b r _ _ (by simp) (by simp) (by simp)).mono ?_
          rw [HS.out]
          rintro e w1 ⟨rfl, rfl⟩
          go_wp2
          go_ret
          exact ⟨rfl, ((Below.refl _ _).alloc (Nat.le_refl _) _).alloc (by simp) _⟩
        · rw [faultN_in p t k d a b r HI.out (by omega) (by omega) (by omega) (by omega)]
          by_cases g5 : r = 0
          · rw [if_pos (Or.inl g5)]
            have g5' : (r != 0) = false := by simp [g5]
            clear g5
            go_enter Tryd.func9, Tryd.ntmps9
            go_wp2_with fail
            refine (small3 a b r _ _ (by simp) (by simp) (by simp)).mono ?_
            rw [HS.out]
            rintro e w1 ⟨rfl, rfl⟩
            go_wp2
            go_ret
            exact ⟨rfl, ((Below.refl _ _).alloc (Nat.le_refl _) _).alloc (by simp) _⟩
          · have g5' : (r != 0) = true := by simp [g5]
            by_cases g6 : t = 2
            · rw [if_pos (Or.inr g6)]
              have g6' : (t != 2) = false := by simp [g6]
              clear g5 g6
              go_enter Tryd.func9, Tryd.ntmps9
              go_wp2_with fail
              refine (small3 a b r _ _ (by simp) (by simp) (by simp)).mono ?_
              rw [HS.out]
              rintro e w1 ⟨rfl, rfl⟩
              go_wp2
              go_ret
              exact ⟨rfl, ((Below.refl _ _).alloc (Nat.le_refl _) _).alloc (by simp) _⟩
            · rw [if_neg (by omega)]
              have g6' : (t != 2) = true := by simp [g6]
              clear g5 g6
              go_enter Tryd.func9, Tryd.ntmps9
              go_wp2_with fail
              refine (small3 a b r _ _ (by simp) (by simp) (by simp)).mono ?_
              rw [HS.out]
              rintro e w1 ⟨rfl, rfl⟩
              go_wp2
              go_ret
              exact ⟨rfl, ((Below.refl _ _).alloc (Nat.le_refl _) _).alloc (by simp) _⟩

theorem refCheck_any (p t k d a b r : Int) (w : World) :
    Calls Tryd.prog 9 #[.agg #[.int .i64 p, .int .i64 t, .int .i64 k, .int .i64 d, .int .i64 a, .int .i64 b, .int .i64 r]] w fun e w' => e = .returned (.int .i64 (faultN p t k d a b r)) ∧ Below w.heap.size w w' := by
  by_cases h : p < 0 ∨ 7 < p ∨ k < 0 ∨ 7 < k
  · rw [faultN_out p t k d a b r (inB_no p k a b r h)]
    exact refCheck_out p t k d a b r w h
  · cases hs : (numB a && numB b && numB r)
    · rw [faultN_out p t k d a b r (by rw [inB_of p k a b r (by omega) (by omega) (by omega) (by omega)]; exact hs)]
      exact refCheck_small p t k d a b r w (by omega) (by omega) (by omega) (by omega) hs
    · exact refCheck_in p t k d a b r w (by omega) (by omega) (by omega) (by omega) hs

end Go.Proofs.YtkedbcfejcakaaaDoor
