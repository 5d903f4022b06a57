/-
  Chapter 16 in plain Lean: who can talk to whom; it is told both ways; two who each talk to more than half meet.
-/

namespace Go.Proofs.Ytncnojgemmcplaa

/-- 16.1: who can talk to whom: 0 whole, 1 halves, 2 bridge, 3 ring, else alone. -/
def linkedB (what n who a b : Int) : Bool :=
  if a = b then true
  else if what = 0 then true
  else if what = 1 then decide (a < n / 2) == decide (b < n / 2)
  else if what = 2 then (decide (a < n / 2) == decide (b < n / 2)) || decide (a = n / 2) || decide (b = n / 2)
  else if what = 3 then decide (min (if a - b < 0 then -(a - b) else a - b) (n - (if a - b < 0 then -(a - b) else a - b)) ≤ (n / 2 + 1) / 2)
  else decide (a ≠ who) && decide (b ≠ who)
theorem linked_refl (what n who a : Int) : linkedB what n who a a = true := by unfold linkedB; rw [if_pos rfl]
theorem linked_symm (what n who a b : Int) : linkedB what n who a b = linkedB what n who b a := by
  unfold linkedB
  by_cases h : a = b
  · subst h; rfl
  · rw [if_neg h, if_neg (Ne.symm h)]
    have e1 : (decide (a < n / 2) == decide (b < n / 2)) = (decide (b < n / 2) == decide (a < n / 2)) := by
      cases decide (a < n / 2) <;> cases decide (b < n / 2) <;> rfl
    have e2 : (if a - b < 0 then -(a - b) else a - b) = (if b - a < 0 then -(b - a) else b - a) := by
      split <;> split <;> omega
    rw [e1, e2]
    split
    · rfl
    · split
      · rfl
      · split
        · rw [Bool.or_assoc, Bool.or_comm (decide (a = n / 2)), ← Bool.or_assoc]
        · split
          · rfl
          · exact Bool.and_comm _ _
/-- Two of more than half meet. -/
theorem most_meet {n : Nat} {f g : Nat → Bool} (hf : n < 2 * (List.range n).countP f) (hg : n < 2 * (List.range n).countP g) : ∃ c, c < n ∧ f c = true ∧ g c = true := by
  apply Classical.byContradiction
  intro hno
  have h1 : (List.range n).countP f + (List.range n).countP g ≤ n := by
    have : ∀ l : List Nat, (∀ c ∈ l, ¬ (f c = true ∧ g c = true)) → l.countP f + l.countP g ≤ l.length := by
      intro l
      induction l with
      | nil => intro _; simp
      | cons x l ih =>
        intro h
        have := ih fun c hc => h c (List.mem_cons_of_mem _ hc)
        have hx := h x List.mem_cons_self
        rw [List.countP_cons, List.countP_cons, List.length_cons]
        by_cases e1 : f x = true
        · have e2 : ¬ g x = true := fun e2 => hx ⟨e1, e2⟩
          rw [if_pos e1, if_neg e2]; omega
        · rw [if_neg e1]
          by_cases e2 : g x = true
          · rw [if_pos e2]; omega
          · rw [if_neg e2]; omega
    have := this (List.range n) fun c hc h => hno ⟨c, List.mem_range.1 hc, h.1, h.2⟩
    simpa using this
  omega
end Go.Proofs.Ytncnojgemmcplaa
