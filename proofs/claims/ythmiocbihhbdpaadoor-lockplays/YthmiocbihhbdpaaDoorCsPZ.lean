/-
  Chapter 11 in plain Lean: what Check tells.
  Chapter 11.4 in plain Lean: where transactions end; whose write a step finds that is not over; how careful steps are.
-/
import Derived.Test.YthmiocbihhbdpaaDoorRgLZ
namespace Go.Proofs.YthmiocbihhbdpaaDoor

/-- What is wrong with a step, whatever the others are. -/
def fltR (s : Stp) : Int := if s.p < 0 ∨ 7 < s.p ∨ s.m < 0 ∨ 7 < s.m then 2 else if s.k < 1 ∨ 4 < s.k ∨ (2 < s.k ∧ s.m ≠ 0) then 1 else 0
/-- Whether a transaction was over ahead. -/
def overB (l : List Stp) (t : Int) (k : Nat) : Bool := (List.range k).any fun j => (stZ l j).p == t && decide (2 < (stZ l j).k)
theorem overB_succ (l : List Stp) (t : Int) (k : Nat) : overB l t (k + 1) = (overB l t k || ((stZ l k).p == t && decide (2 < (stZ l k).k))) := by simp [overB, List.range_succ, List.any_append]
theorem overB_at {l : List Stp} {t : Int} {j k : Nat} (hj : j < k) (h : ((stZ l j).p == t && decide (2 < (stZ l j).k)) = true) : overB l t k = true := List.any_eq_true.2 ⟨j, List.mem_range.2 hj, h⟩
def fltQ (l : List Stp) (k : Nat) : Int := if fltR (stZ l k) = 0 then (if overB l (stZ l k).p k then 6 else 0) else fltR (stZ l k)
/-- What Check tells: the number of the error, and its place. -/
def CkS (l : List Stp) (n pl : Int) : Prop :=
  (60 < l.length ∧ n = 4 ∧ pl = -1) ∨ (l.length ≤ 60 ∧ (((∀ k, k < l.length → fltQ l k = 0) ∧ n = 0 ∧ pl = -1) ∨ ∃ k : Nat, k < l.length ∧ (∀ j, j < k → fltQ l j = 0) ∧ fltQ l k ≠ 0 ∧ n = fltQ l k ∧ pl = (k : Int)))
theorem CkS.one {l : List Stp} {n n' pl pl' : Int} (h : CkS l n pl) (h' : CkS l n' pl') : n = n' ∧ pl = pl' := by
  rcases h with ⟨h0, rfl, rfl⟩ | ⟨h0, h⟩
  · rcases h' with ⟨_, rfl, rfl⟩ | ⟨h1, _⟩
    · exact ⟨rfl, rfl⟩
    · omega
  · rcases h' with ⟨h1, _⟩ | ⟨_, h'⟩
    · omega
    · rcases h with ⟨ha, rfl, rfl⟩ | ⟨k, hk, ha, hne, rfl, rfl⟩
      · rcases h' with ⟨_, rfl, rfl⟩ | ⟨k', hk', _, hne', _⟩
        · exact ⟨rfl, rfl⟩
        · exact absurd (ha k' hk') hne'
      · rcases h' with ⟨ha', _⟩ | ⟨k', hk', ha', hne', rfl, rfl⟩
        · exact absurd (ha' k hk) hne
        · rcases Nat.lt_trichotomy k k' with h | h | h
          · exact absurd (ha' k h) hne
          · subst h; exact ⟨rfl, rfl⟩
          · exact absurd (ha k' h) hne'
theorem CkS.ok {l : List Stp} {pl : Int} (h : CkS l 0 pl) : l.length ≤ 60 ∧ (∀ k, k < l.length → fltQ l k = 0) ∧ pl = -1 := by
  rcases h with ⟨_, h, _⟩ | ⟨h0, ⟨ha, _, h⟩ | ⟨k, _, _, hne, e, _⟩⟩
  · cases h
  · exact ⟨h0, ha, h⟩
  · exact absurd e.symm hne
theorem fltQ_zero {l : List Stp} {k : Nat} (h : fltQ l k = 0) : fltR (stZ l k) = 0 ∧ overB l (stZ l k).p k = false := by
  unfold fltQ at h
  split at h
  · rename_i h1
    cases ho : overB l (stZ l k).p k
    · exact ⟨h1, rfl⟩
    · rw [ho] at h; cases h
  · rename_i h1; exact absurd h h1
theorem fltR_zero {s : Stp} (h : fltR s = 0) : (0 ≤ s.p ∧ s.p ≤ 7) ∧ (0 ≤ s.m ∧ s.m ≤ 7) ∧ (1 ≤ s.k ∧ s.k ≤ 4) ∧ (2 < s.k → s.m = 0) := by
  unfold fltR at h
  split at h
  · cases h
  · split at h
    · cases h
    · rename_i h1 h2
      refine ⟨by omega, by omega, by omega, fun h3 => Classical.byContradiction fun h4 => h2 (.inr (.inr ⟨h3, h4⟩))⟩
end Go.Proofs.YthmiocbihhbdpaaDoor

namespace Go.Proofs.YthmiocbihhbdpaaDoor

/-- The last one below n. -/
def lastN (f : Nat → Bool) : Nat → Option Nat
  | 0 => none
  | n + 1 => if f n = true then some n else lastN f n
theorem lastN_congr {f g : Nat → Bool} : ∀ {n : Nat}, (∀ i, i < n → f i = g i) → lastN f n = lastN g n
  | 0, _ => rfl
  | n + 1, h => by
    unfold lastN
    rw [h n (Nat.lt_succ_self _), lastN_congr fun i hi => h i (by omega)]
theorem lastN_some {f : Nat → Bool} : ∀ {n m : Nat}, lastN f n = some m → m < n ∧ f m = true ∧ ∀ j, m < j → j < n → f j = false
  | n + 1, m, h => by
    unfold lastN at h
    by_cases e : f n = true
    · rw [if_pos e] at h
      obtain rfl : n = m := Option.some.inj h
      exact ⟨by omega, e, fun j h1 h2 => absurd h1 (by omega)⟩
    · rw [if_neg e] at h
      obtain ⟨h1, h2, h3⟩ := lastN_some h
      refine ⟨by omega, h2, fun j h4 h5 => ?_⟩
      by_cases e' : j = n
      · subst e'; simpa using e
      · exact h3 j h4 (by omega)
theorem lastN_none {f : Nat → Bool} : ∀ {n : Nat}, lastN f n = none → ∀ j, j < n → f j = false
  | n + 1, h, j, hj => by
    unfold lastN at h
    by_cases e : f n = true
    · rw [if_pos e] at h; cases h
    · rw [if_neg e] at h
      by_cases e' : j = n
      · subst e'; simpa using e
      · exact lastN_none h j (by omega)
theorem lastN_at {f : Nat → Bool} {m : Nat} (hm : f m = true) : ∀ {n : Nat}, m < n → (∀ j, m < j → j < n → f j = false) → lastN f n = some m
  | n + 1, hn, h => by
    unfold lastN
    by_cases e : m = n
    · subst e; rw [if_pos hm]
    · rw [if_neg (by rw [h n (by omega) (by omega)]; simp)]
      exact lastN_at hm (by omega) fun j h1 h2 => h j h1 (by omega)
theorem lastN_no {f : Nat → Bool} : ∀ {n : Nat}, (∀ j, j < n → f j = false) → lastN f n = none
  | 0, _ => rfl
  | n + 1, h => by
    unfold lastN
    rw [if_neg (by rw [h n (by omega)]; simp)]
    exact lastN_no fun j hj => h j (by omega)

/-- Steps that Check finds well. -/
def OkS (l : List Stp) : Prop := ∀ k, k < l.length → fltQ l k = 0
theorem OkS.tx {l : List Stp} (h : OkS l) {k : Nat} (hk : k < l.length) : 0 ≤ (stZ l k).p ∧ (stZ l k).p ≤ 7 := (fltR_zero (fltQ_zero (h k hk)).1).1
theorem OkS.key {l : List Stp} (h : OkS l) {k : Nat} (hk : k < l.length) : 0 ≤ (stZ l k).m ∧ (stZ l k).m ≤ 7 := (fltR_zero (fltQ_zero (h k hk)).1).2.1
theorem OkS.kind {l : List Stp} (h : OkS l) {k : Nat} (hk : k < l.length) : 1 ≤ (stZ l k).k ∧ (stZ l k).k ≤ 4 := (fltR_zero (fltQ_zero (h k hk)).1).2.2.1
/-- Behind its end a transaction has no step. -/
theorem OkS.over {l : List Stp} (h : OkS l) {j k : Nat} (hjk : j < k) (hk : k < l.length) (he : 2 < (stZ l j).k) : (stZ l j).p ≠ (stZ l k).p := fun e => by
  have h1 := (fltQ_zero (h k hk)).2
  rw [overB_at (t := (stZ l k).p) hjk (by simp [e, he])] at h1
  cases h1

/-- Where a transaction has its step of that kind, the first one; behind all, if it has none. -/
def endF (l : List Stp) (kd t : Int) (i : Nat) : Bool := (stZ l i).p == t && (stZ l i).k == kd
def endK (l : List Stp) (kd t : Int) : Nat := (firstN (endF l kd t) l.length).getD l.length
theorem endF_iff {l : List Stp} {kd t : Int} {i : Nat} : endF l kd t i = true ↔ (stZ l i).p = t ∧ (stZ l i).k = kd := by simp [endF]
theorem endK_le (l : List Stp) (kd t : Int) : endK l kd t ≤ l.length := by
  unfold endK
  rcases firstN_cases (endF l kd t) l.length with ⟨e, _⟩ | ⟨k, hk, e, _⟩
  · rw [e]; exact Nat.le_refl _
  · rw [e]; exact Nat.le_of_lt hk
theorem endK_none {l : List Stp} {kd t : Int} (h : ∀ j, j < l.length → ¬ ((stZ l j).p = t ∧ (stZ l j).k = kd)) : endK l kd t = l.length := by
  unfold endK
  rw [firstN_none fun j hj => by
    have := h j hj
    rw [← endF_iff] at this
    simpa using this]
  rfl
theorem endK_at {l : List Stp} {kd t : Int} (ok : OkS l) (hkd : 2 < kd) {j : Nat} (hj : j < l.length) (h1 : (stZ l j).p = t) (h2 : (stZ l j).k = kd) : endK l kd t = j := by
  unfold endK
  rw [firstN_at hj (fun i hi => ?_) (endF_iff.2 ⟨h1, h2⟩)]
  · rfl
  · cases e : endF l kd t i
    · rfl
    · have h3 := endF_iff.1 e
      exact absurd (h3.1.trans h1.symm) (ok.over hi hj (by rw [h3.2]; exact hkd))
theorem endK_lt {l : List Stp} {kd t : Int} (h : endK l kd t < l.length) : (stZ l (endK l kd t)).p = t ∧ (stZ l (endK l kd t)).k = kd := by
  unfold endK at h ⊢
  rcases firstN_cases (endF l kd t) l.length with ⟨e, _⟩ | ⟨k, hk, e, hf, _⟩
  · rw [e] at h; simp at h
  · rw [e]; exact endF_iff.1 hf

/-- The write that the step of number n finds: at its key, not taken back ahead of it. -/
def findW (l : List Stp) (n m : Nat) : Bool := (stZ l m).k == 2 && (stZ l m).m == (stZ l n).m && !decide (endK l 4 (stZ l m).p < n)
/-- The other transaction, not over yet, whose write it is. -/
def openW (l : List Stp) (n : Nat) : Option Int :=
  if 2 < (stZ l n).k then none else
  match lastN (findW l n) n with
  | none => none
  | some m => if (stZ l m).p = (stZ l n).p ∨ endK l 3 (stZ l m).p < n then none else some (stZ l m).p
def badS (l : List Stp) (n : Nat) : Bool := (openW l n).isSome
def badC (l : List Stp) (n : Nat) : Bool := (openW l n).isSome && (stZ l n).k == 1
def badR (l : List Stp) (n : Nat) : Bool := match openW l n with
  | none => false
  | some t => (stZ l n).k == 1 && decide (endK l 3 (stZ l n).p < endK l 3 t)
def noneB (f : Nat → Bool) (n : Nat) : Bool := (List.range n).all fun i => !f i
theorem noneB_succ (f : Nat → Bool) (n : Nat) : noneB f (n + 1) = (noneB f n && !f n) := by simp [noneB, List.range_succ, List.all_append]
theorem noneB_iff {f : Nat → Bool} {n : Nat} : noneB f n = true ↔ ∀ i, i < n → f i = false := by simp [noneB]
/-- Strict is clean, clean can recover. -/
theorem kinds_strict {l : List Stp} {n : Nat} (h : noneB (badS l) n = true) : noneB (badC l) n = true := by
  rw [noneB_iff] at h ⊢
  intro i hi
  have := h i hi
  unfold badS at this
  simp [badC, this]
theorem kinds_clean {l : List Stp} {n : Nat} (h : noneB (badC l) n = true) : noneB (badR l) n = true := by
  rw [noneB_iff] at h ⊢
  intro i hi
  have := h i hi
  unfold badC at this
  unfold badR
  cases e : openW l i with
  | none => rfl
  | some t => simp [e] at this; simp [this]
end Go.Proofs.YthmiocbihhbdpaaDoor
