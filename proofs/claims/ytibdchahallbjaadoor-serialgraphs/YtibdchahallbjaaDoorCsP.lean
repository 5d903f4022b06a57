/-
  Chapter 11 in plain Lean: what Check tells.
-/
import Derived.Test.YtibdchahallbjaaDoorStS
namespace Go.Proofs.YtibdchahallbjaaDoor

/-- What is wrong with a step, whatever the others are. -/
def fltR (s : Stp) : Int := if s.p < 0 ∨ 7 < s.p ∨ s.m < 0 ∨ 7 < s.m then 2 else if s.k < 1 ∨ 4 < s.k ∨ (2 < s.k ∧ s.m ≠ 0) then 1 else 0
/-- Whether a transaction was over ahead. -/
def overB (l : List Stp) (t : Int) (k : Nat) : Bool := (List.range k).any fun j => (stZ l j).p == t && decide (2 < (stZ l j).k)
theorem overB_succ (l : List Stp) (t : Int) (k : Nat) : overB l t (k + 1) = (overB l t k || ((stZ l k).p == t && decide (2 < (stZ l k).k))) := by simp [overB, List.range_succ, List.any_append]
theorem overB_at {l : List Stp} {t : Int} {j k : Nat} (hj : j < k) (h : ((stZ l j).p == t && decide (2 < (stZ l j).k)) = true) : overB l t k = true := List.any_eq_true.2 ⟨j, List.mem_range.2 hj, h⟩
def fltQ (l : List Stp) (k : Nat) : Int := if fltR (stZ l k) = 0 then (if overB l (stZ l k).p k then 6 else 0) else fltR (stZ l k)
/-- What Check tells: the number of the error, and its place. -/
def CkS (l : List Stp) (n pl : Int) : Prop :=
  (60 < l.length ∧ n = 4 ∧ pl = -1) ∨ (l.length ≤ 60 ∧ (((∀ k, k < l.length → fltQ l k = 0) ∧ n = 0 ∧ pl = -1) ∨ ∃ k : Nat, k < l.length ∧ (∀ j, j < k → fltQ l j = 0) ∧ fltQ l k ≠ 0 ∧ n = fltQ l k ∧ pl = (k : Int)))
theorem CkS.one {l : List Stp} {n n' pl pl' : Int} (h : CkS l n pl) (h' : CkS l n' pl') : n = n' ∧ pl = pl' := by
  rcases h with ⟨h0, rfl, rfl⟩ | ⟨h0, h⟩
  · rcases h' with ⟨_, rfl, rfl⟩ | ⟨h1, _⟩
    · exact ⟨rfl, rfl⟩
    · omega
  · rcases h' with ⟨h1, _⟩ | ⟨_, h'⟩
    · omega
    · rcases h with ⟨ha, rfl, rfl⟩ | ⟨k, hk, ha, hne, rfl, rfl⟩
      · rcases h' with ⟨_, rfl, rfl⟩ | ⟨k', hk', _, hne', _⟩
        · exact ⟨rfl, rfl⟩
        · exact absurd (ha k' hk') hne'
      · rcases h' with ⟨ha', _⟩ | ⟨k', hk', ha', hne', rfl, rfl⟩
        · exact absurd (ha' k hk) hne
        · rcases Nat.lt_trichotomy k k' with h | h | h
          · exact absurd (ha' k h) hne
          · subst h; exact ⟨rfl, rfl⟩
          · exact absurd (ha k' h) hne'
theorem CkS.ok {l : List Stp} {pl : Int} (h : CkS l 0 pl) : l.length ≤ 60 ∧ (∀ k, k < l.length → fltQ l k = 0) ∧ pl = -1 := by
  rcases h with ⟨_, h, _⟩ | ⟨h0, ⟨ha, _, h⟩ | ⟨k, _, _, hne, e, _⟩⟩
  · cases h
  · exact ⟨h0, ha, h⟩
  · exact absurd e.symm hne
theorem fltQ_zero {l : List Stp} {k : Nat} (h : fltQ l k = 0) : fltR (stZ l k) = 0 ∧ overB l (stZ l k).p k = false := by
  unfold fltQ at h
  split at h
  · rename_i h1
    cases ho : overB l (stZ l k).p k
    · exact ⟨h1, rfl⟩
    · rw [ho] at h; cases h
  · rename_i h1; exact absurd h h1
theorem fltR_zero {s : Stp} (h : fltR s = 0) : (0 ≤ s.p ∧ s.p ≤ 7) ∧ (0 ≤ s.m ∧ s.m ≤ 7) ∧ (1 ≤ s.k ∧ s.k ≤ 4) ∧ (2 < s.k → s.m = 0) := by
  unfold fltR at h
  split at h
  · cases h
  · split at h
    · cases h
    · rename_i h1 h2
      refine ⟨by omega, by omega, by omega, fun h3 => Classical.byContradiction fun h4 => h2 (.inr (.inr ⟨h3, h4⟩))⟩
end Go.Proofs.YtibdchahallbjaaDoor
