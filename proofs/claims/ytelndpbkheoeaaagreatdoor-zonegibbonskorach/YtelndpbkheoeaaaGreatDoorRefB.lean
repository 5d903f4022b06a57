/-
  What OpsCheck of the document tells: the first fault.
-/
import Derived.Test.YtelndpbkheoeaaaGreatDoorWalkFZ
import Derived.Test.YtelndpbkheoeaaaGreatDoorWalkAZ
import Derived.Deep.DeepCutAuto
namespace Go.Proofs.YtelndpbkheoeaaaGreatDoor
open Go.RowKit

theorem rangeB_of (x : Opn) (h1 : ¬ x.p < 0) (h2 : ¬ 7 < x.p) (h3 : ¬ x.k < 0) (h4 : ¬ 7 < x.k) : rangeB x = (numB x.a && numB x.b && numB x.r && numB x.c && numB x.e) := by
  unfold rangeB
  rw [inB_of _ _ _ _ _ (by omega) (by omega) (by omega) (by omega)]
theorem rangeB_no (x : Opn) (h : x.p < 0 ∨ 7 < x.p ∨ x.k < 0 ∨ 7 < x.k) : rangeB x = false := by
  unfold rangeB
  rw [inB_no _ _ _ _ _ h]; rfl
theorem below_alloc1 (w : World) (o o2 : Obj) : Below (w.heap.size + 1) (w.alloc o) ((w.alloc o).alloc o2) := (Below.refl _ _).alloc (by simp) _
theorem beq_swap (a b : Int) : (a == b) = (b == a) := by
  rw [Bool.eq_iff_iff, beq_iff_eq, beq_iff_eq]; exact eq_comm
theorem share_eq (y x : Opn) : shareB y x = (x.c == y.c || x.c == y.e || (x.e != -1 && (x.e == y.c || x.e == y.e))) := by
  unfold shareB hasB
  rw [beq_swap y.c x.c, beq_swap y.e x.c, beq_swap y.c x.e, beq_swap y.e x.e]
theorem take_take_succ (l : List Opn) (f : Opn → Bool) (k i : Nat) (hk : k ≤ l.length) (hi : i < k) (h0 : ((l.take k).take i).any f = false) (h1 : f (l[i]'(Nat.lt_of_lt_of_le hi hk)) = false) : ((l.take k).take (i + 1)).any f = false := by
  have hl : i < (l.take k).length := by rw [List.length_take, Nat.min_eq_left hk]; exact hi
  exact any_take_succ (l.take k) f i hl h0 (by rw [List.getElem_take]; exact h1)
theorem take_any_of (l : List Opn) (f : Opn → Bool) (k i : Nat) (hk : k ≤ l.length) (hi : i < k) (h1 : f (l[i]'(Nat.lt_of_lt_of_le hi hk)) = true) : (l.take k).any f = true := by
  have hl : i < (l.take k).length := by rw [List.length_take, Nat.min_eq_left hk]; exact hi
  exact any_of (l.take k) f i hl (by rw [List.getElem_take]; exact h1)
theorem take_all_done (l : List Opn) (f : Opn → Bool) (k i : Nat) (hk : k ≤ i) (h0 : ((l.take k).take i).any f = false) : (l.take k).any f = false := by
  rwa [List.take_of_length_le (by rw [List.length_take]; omega)] at h0
theorem kindB_no (n : Int) (h : n < 1 ∨ 12 < n) : kindB n = false := by
  cases e : kindB n
  · rfl
  · simp [kindB] at e; omega
theorem kindB_yes (n : Int) (h1 : ¬ n < 1) (h2 : ¬ 12 < n) : kindB n = true := by simp [kindB]; omega

end Go.Proofs.YtelndpbkheoeaaaGreatDoor
