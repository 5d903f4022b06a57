/-
  Small facts that the statements' walks share.
-/
import Derived.Test.YtdncnljcihblbabLdW
namespace Go.Proofs.Ytdncnljcihblbab
open Go.RowKit

theorem own_shape2 {W : World} {base : Nat} {e : TypeId} {z : Nat} {v : Value} {n : Nat} {xs : List Value} (h : W.ownsRow base e z v n xs) : ∃ a c, v = .slice a n c ∧ n ≤ c := by
  obtain ⟨_, ⟨rfl, rfl⟩ | ⟨g, c, _, rfl, _, _, h6, _⟩⟩ := h
  · exact ⟨none, 0, rfl, Nat.le_refl _⟩
  · exact ⟨some ⟨g, 0, none⟩, c, rfl, h6⟩
theorem frames_take (all : List Ev) (n : Nat) : (framesL all).take (framesL (all.take n)).length = framesL (all.take n) := by
  have h : framesL all = framesL (all.take n) ++ framesL (all.drop n) := by rw [← frames_append, List.take_append_drop]
  rw [h, List.take_left']
  rfl

theorem frames_ge (l : List Ev) : l.length ≤ (framesL l).length := by
  induction l with
  | nil => simp
  | cons e l ih => rw [frames_cons, List.length_append, frame_len]; simp; omega

end Go.Proofs.Ytdncnljcihblbab
