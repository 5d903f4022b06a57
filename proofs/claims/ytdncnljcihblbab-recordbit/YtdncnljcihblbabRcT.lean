/-
  Chapter 18, plain: one byte that turned. Nothing of the program is named here.
-/
import Derived.Test.YtdncnljcihblbabRcQ
namespace Go.Proofs.Ytdncnljcihblbab

theorem frames_split (all : List Ev) (k : Nat) (hk : k < all.length) : framesL all = framesL (all.take k) ++ (frameL (encL all[k]) ++ framesL (all.drop (k + 1))) := by
  have h : all = all.take k ++ (all[k] :: all.drop (k + 1)) := by simp
  have h2 := congrArg framesL h
  rw [frames_append, frames_cons] at h2
  exact h2
theorem frames_succ (all : List Ev) (k : Nat) (hk : k < all.length) : (framesL (all.take (k + 1))).length = (framesL (all.take k)).length + 6 + (encL all[k]).length := by
  rw [List.take_succ_eq_append_getElem hk, frames_snoc, List.length_append, frame_len]; omega
theorem frames_head (all : List Ev) (h : OkL all) (k : Nat) (hk : k < all.length) : (framesL (all.take k)).length + 6 + (encL all[k]).length ≤ (framesL all).length ∧ (framesL all)[(framesL (all.take k)).length]? = some 0 ∧ (framesL all)[(framesL (all.take k)).length + 1]? = some (encL all[k]).length := by
  have hl := encL_len (okE_of (h all[k] (List.getElem_mem hk)))
  have e := frames_split all k hk
  refine ⟨by rw [e]; simp only [List.length_append, frame_len]; omega, ?_, ?_⟩
  · rw [e, List.getElem?_append_right (Nat.le_refl _), Nat.sub_self]
    show some ((encL all[k]).length / 256 % 256) = some 0
    congr 1; omega
  · rw [e, List.getElem?_append_right (by omega), Nat.add_sub_cancel_left]
    show some ((encL all[k]).length % 256) = some (encL all[k]).length
    congr 1; omega
theorem bit_rec (all : List Ev) (h : OkL all) (k : Nat) (hk : k < all.length) (m t : Nat) (h1 : (framesL (all.take k)).length + 2 ≤ m) (h2 : m < (framesL (all.take k)).length + 6 + (encL all[k]).length) (ht : t < 256) (hne : (framesL all).getD m 0 ≠ t) :
    recL ((framesL all).set m t) = (all.take k, (framesL (all.take k)).length) := by
  have hok : OkL (all.take k) := fun e he => h e (List.mem_of_mem_take he)
  have e := frames_split all k hk
  obtain ⟨i, rfl⟩ : ∃ i, m = (framesL (all.take k)).length + i := ⟨m - (framesL (all.take k)).length, by omega⟩
  have hi2 : 2 ≤ i := by omega
  have hi6 : i < 6 + (encL all[k]).length := by omega
  have hset : (framesL all).set ((framesL (all.take k)).length + i) t = framesL (all.take k) ++ (frameL (encL all[k]) ++ framesL (all.drop (k + 1))).set i t := by
    rw [e, List.set_append_right _ _ (by omega), Nat.add_sub_cancel_left]
  have hn : (frameL (encL all[k])).getD i 0 ≠ t := by
    intro he
    apply hne
    rw [List.getD_eq_getElem?_getD, e, List.getElem?_append_right (by omega), Nat.add_sub_cancel_left, List.getElem?_append_left (by rw [frame_len]; exact hi6), ← List.getD_eq_getElem?_getD]
    exact he
  rw [hset, rec_frames hok, rec_none (first_turned (h all[k] (List.getElem_mem hk)) _ hi2 hi6 ht hn)]
  simp

end Go.Proofs.Ytdncnljcihblbab
