/-
  Chapter 17 in plain Lean: there is room for each end among what may be seen.
-/
import Derived.Test.YtncnojgemmcplaaGreatDoorAbX
namespace Go.Proofs.YtncnojgemmcplaaGreatDoor

theorem cnt_same {f g : Nat → Bool} : ∀ k, (∀ j, j < k → g j = f j) → (List.range k).countP g = (List.range k).countP f := fun k h => by
  refine List.countP_congr fun j hj => ?_
  rw [h j (List.mem_range.1 hj)]
theorem cnt_turn {f g : Nat → Bool} {i : Nat} : ∀ k, i < k → (∀ j, j ≠ i → g j = f j) → (List.range k).countP g + (if f i = true then 1 else 0) = (List.range k).countP f + (if g i = true then 1 else 0)
  | 0, hi, _ => absurd hi (by omega)
  | k + 1, hi, h => by
    rw [List.range_succ, List.countP_append, List.countP_append]
    by_cases e : i = k
    · subst e
      rw [cnt_same (f := f) (g := g) i fun j hj => h j (by omega)]
      simp [List.countP_cons]
      split <;> split <;> omega
    · have ih := cnt_turn k (by omega) h
      have hk := h k (Ne.symm e)
      simp only [List.countP_cons, List.countP_nil, hk]
      omega
/-- There is room for each end. -/
def RoomS (S : Sto) : Prop := S.seen.length + busyN S ≤ 120
section
variable {S : Sto}
theorem busy_turn {c : Nat} (hc : c < S.k) (x : Cl) : busyN { S with cl := updC S.cl c x } + (if (S.cl c).busy = true then 1 else 0) = busyN S + (if x.busy = true then 1 else 0) := by
  have := cnt_turn (f := fun (j : Nat) => (S.cl j).busy) (g := fun (j : Nat) => (updC S.cl c x j).busy) S.k hc fun j hj => by
    show (updC S.cl c x j).busy = _
    rw [updC_ne _ _ (by omega)]
  have e : (updC S.cl c x (c : Int)).busy = x.busy := by rw [updC_same]
  simp only [e] at this
  exact this
theorem RoomS.same {S' : Sto} (h : RoomS S) (h1 : S'.seen = S.seen) (h2 : busyN S' = busyN S) : RoomS S' := by
  unfold RoomS
  rw [h1, h2]
  exact h
theorem roomS_begin {c key value : Int} {write : Bool} (he : beginE S c key write value = 0) : RoomS (beginS S c key write value) := by
  obtain ⟨_, _, hf⟩ := begin_parts he
  obtain ⟨a1, a2, a3, _⟩ := free_parts hf
  have hr : S.seen.length + 2 + busyN S ≤ 120 := by
    unfold freeE at hf
    split at hf
    · cases hf
    · split at hf
      · cases hf
      · split at hf
        · cases hf
        · omega
  obtain ⟨c, rfl⟩ : ∃ n : Nat, c = n := ⟨c.toNat, by omega⟩
  have hb := busy_turn (S := S) (c := c) (by omega) (roundC (beginC (S.cl c) key write value))
  rw [a3] at hb
  have e1 : (roundC (beginC (S.cl c) key write value)).busy = true := rfl
  rw [e1] at hb
  simp at hb
  have e2 : busyN (beginS S c key write value) = busyN { S with cl := updC S.cl c (roundC (beginC (S.cl c) key write value)) } := rfl
  unfold RoomS
  rw [e2, hb]
  show (S.seen ++ [_]).length + (busyN S + 1) ≤ 120
  simp
  omega
theorem RoomS.give (h : RoomS S) {c : Int} (h0 : 0 ≤ c ∧ c < S.k) (hb : (S.cl c).busy = true) : RoomS (giveS S c) := by
  obtain ⟨c, rfl⟩ : ∃ n : Nat, c = n := ⟨c.toNat, by omega⟩
  have ht := busy_turn (S := S) (c := c) (by omega) { S.cl c with busy := false, gone := true }
  rw [hb] at ht
  simp at ht
  have e2 : busyN (giveS S c) = busyN { S with cl := updC S.cl c { S.cl c with busy := false, gone := true } } := rfl
  unfold RoomS at *
  rw [e2]
  show (S.seen ++ [_]).length + _ ≤ 120
  simp
  omega
theorem RoomS.hear (h : RoomS S) {c : Int} (h0 : 0 ≤ c ∧ c < S.k) (node : Int) (l : Ltr) : RoomS (hearS S c node l) := by
  obtain ⟨c, rfl⟩ : ∃ n : Nat, c = n := ⟨c.toNat, by omega⟩
  unfold hearS
  dsimp only
  split
  · next hb =>
    have hbz : (S.cl c).busy = true := hb.1
    generalize (if (S.cl c).tells = true then S.tell else S.ask) = t
    split
    · refine h.same rfl ?_
      have := busy_turn (S := S) (c := c) (by omega) (countC (S.cl c) node l.h)
      rw [show (countC (S.cl c) node l.h).busy = true from hbz, hbz] at this
      simp at this
      exact this
    · split
      · refine h.same rfl ?_
        have := busy_turn (S := S) (c := c) (by omega) (roundC (tellC c (countC (S.cl c) node l.h)))
        rw [show (roundC (tellC c (countC (S.cl c) node l.h))).busy = true from hbz, hbz] at this
        simp at this
        exact this
      · have ht := busy_turn (S := S) (c := c) (by omega) { countC (S.cl c) node l.h with busy := false }
        rw [hbz] at ht
        simp at ht
        have e2 : busyN (doneS S c (countC (S.cl c) node l.h)) = busyN { S with cl := updC S.cl c { countC (S.cl c) node l.h with busy := false } } := rfl
        unfold RoomS at *
        rw [e2]
        show (S.seen ++ [_]).length + _ ≤ 120
        simp
        omega
  · exact h
/-- Who mails go to. -/
def ToS (S : Sto) : Prop := ∀ m ∈ S.mails, m.to < (S.n : Int) + S.k
theorem RoomS.play (h : RoomS S) (ht : ToS S) (m : Mvs) : RoomS (playS S m) := by
  unfold playS
  by_cases he : playE S m ≠ 0
  · rw [if_pos he]; exact h
  · rw [if_neg he]
    have he : playE S m = 0 := Classical.byContradiction he
    unfold playE at he
    by_cases e0 : m.what = 0
    · rw [if_pos e0] at he ⊢; exact roomS_begin he
    rw [if_neg e0] at he ⊢
    by_cases e1 : m.what = 1
    · rw [if_pos e1] at he ⊢; exact roomS_begin he
    rw [if_neg e1] at he ⊢
    by_cases e2 : m.what = 2
    · rw [if_pos e2]
      unfold delivS
      split
      · exact h
      · rename_i x hx
        have hto := ht x (List.mem_of_getElem? hx)
        unfold takeS
        split
        · exact h.same rfl rfl
        · rename_i hn
          have hn' : ¬ x.to < (S.n : Int) := hn
          exact RoomS.hear (S := { S with mails := S.mails.eraseIdx m.a.toNat }) h (by show 0 ≤ x.to - (S.n : Int) ∧ x.to - (S.n : Int) < S.k; omega) _ _
    rw [if_neg e2] at he ⊢
    by_cases e3 : m.what = 3
    · rw [if_pos e3]; exact h.same rfl rfl
    rw [if_neg e3] at he ⊢
    by_cases e4 : m.what = 4
    · rw [if_pos e4]
      unfold doubS
      split
      · exact h
      · exact h.same rfl rfl
    rw [if_neg e4] at he ⊢
    by_cases e5 : m.what = 5
    · rw [if_pos e5] at he ⊢
      unfold giveE at he
      split at he
      · cases he
      · split at he
        · cases he
        · rename_i g1 g2
          refine h.give (by omega) ?_
          cases e : (S.cl m.a).busy with
          | true => rfl
          | false => exact absurd e g2
    rw [if_neg e5]
    split <;> exact h.same rfl rfl
end
end Go.Proofs.YtncnojgemmcplaaGreatDoor
