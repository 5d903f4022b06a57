/-
  Chapter 9 in plain Lean: what Check tells, what comes straight ahead, what is kept of messages. (Nothing of the program in it.)
-/
import Derived.Test.YtmonbkoelehdlaaDoorClP
namespace Go.Proofs.YtmonbkoelehdlaaDoor

def sentB (l : List Stp) (m : Int) (k : Nat) : Bool := (List.range k).any (sendB l m)
def gotB (l : List Stp) (m : Int) (k : Nat) : Bool := (List.range k).any (takeB l m)
theorem sentB_succ (l : List Stp) (m : Int) (k : Nat) : sentB l m (k + 1) = (sentB l m k || sendB l m k) := by simp [sentB, List.range_succ, List.any_append]
theorem gotB_succ (l : List Stp) (m : Int) (k : Nat) : gotB l m (k + 1) = (gotB l m k || takeB l m k) := by simp [gotB, List.range_succ, List.any_append]
theorem sentB_iff {l : List Stp} {m : Int} {k : Nat} : sentB l m k = true ↔ ∃ i, i < k ∧ sendB l m i = true := by simp [sentB]
theorem gotB_iff {l : List Stp} {m : Int} {k : Nat} : gotB l m k = true ↔ ∃ i, i < k ∧ takeB l m i = true := by simp [gotB]

/-- What is wrong with a step by itself. -/
def fltS (s : Stp) : Int := if s.p < 0 ∨ 7 < s.p ∨ s.m < 0 ∨ 1000000 < s.m then 2 else if s.k < 1 ∨ 3 < s.k ∨ (s.k = 1 ∧ s.m ≠ 0) then 1 else 0
/-- What is wrong with it behind those ahead of it. -/
def fltM (l : List Stp) (k : Nat) : Int :=
  if ((stZ l k).k = 2 ∧ sentB l (stZ l k).m k = true) ∨ ((stZ l k).k = 3 ∧ gotB l (stZ l k).m k = true) then 9
  else if (stZ l k).k = 3 ∧ sentB l (stZ l k).m k = false then 7 else 0
def fltC (l : List Stp) (k : Nat) : Int := if fltS (stZ l k) = 0 then fltM l k else fltS (stZ l k)

/-- What Check tells: an error's number, and its place. -/
def CkC (l : List Stp) (n pl : Int) : Prop :=
  (40 < l.length ∧ n = 4 ∧ pl = -1) ∨ (l.length ≤ 40 ∧ (((∀ k, k < l.length → fltC l k = 0) ∧ n = 0 ∧ pl = -1) ∨ ∃ k : Nat, k < l.length ∧ (∀ j, j < k → fltC l j = 0) ∧ fltC l k ≠ 0 ∧ n = fltC l k ∧ pl = k))
theorem CkC.one {l : List Stp} {n n' pl pl' : Int} (h : CkC l n pl) (h' : CkC l n' pl') : n = n' ∧ pl = pl' := by
  rcases h with ⟨h0, rfl, rfl⟩ | ⟨h0, h⟩
  · rcases h' with ⟨_, rfl, rfl⟩ | ⟨h1, _⟩
    · exact ⟨rfl, rfl⟩
    · omega
  · rcases h' with ⟨h1, _⟩ | ⟨_, h'⟩
    · omega
    · rcases h with ⟨ha, rfl, rfl⟩ | ⟨k, hk, ha, hb, rfl, rfl⟩
      · rcases h' with ⟨_, rfl, rfl⟩ | ⟨k', hk', _, hb', _⟩
        · exact ⟨rfl, rfl⟩
        · exact absurd (ha k' hk') hb'
      · rcases h' with ⟨ha', _⟩ | ⟨k', hk', ha', hb', rfl, rfl⟩
        · exact absurd (ha' k hk) hb
        · rcases Nat.lt_trichotomy k k' with h | h | h
          · exact absurd (ha' k h) hb
          · subst h; exact ⟨rfl, rfl⟩
          · exact absurd (ha k' h) hb'
theorem CkC.ok {l : List Stp} {pl : Int} (h : CkC l 0 pl) : l.length ≤ 40 ∧ (∀ k, k < l.length → fltC l k = 0) ∧ pl = -1 := by
  rcases h with ⟨_, h, _⟩ | ⟨h0, ⟨ha, _, hp⟩ | ⟨k, hk, ha, hb, hn, _⟩⟩
  · cases h
  · exact ⟨h0, ha, hp⟩
  · exact absurd hn.symm hb
theorem fltC_zero {l : List Stp} {k : Nat} (h : fltC l k = 0) : fltS (stZ l k) = 0 ∧ fltM l k = 0 := by
  unfold fltC at h
  split at h
  · next e => exact ⟨e, h⟩
  · next e => exact absurd h e
theorem fltS_zero {s : Stp} (h : fltS s = 0) : (0 ≤ s.p ∧ s.p ≤ 7) ∧ (0 ≤ s.m ∧ s.m ≤ 1000000) ∧ (1 ≤ s.k ∧ s.k ≤ 3) ∧ (s.k = 1 → s.m = 0) := by
  unfold fltS at h
  split at h
  · cases h
  · split at h
    · cases h
    · refine ⟨by omega, by omega, by omega, fun e => by omega⟩
theorem fltM_zero {l : List Stp} {k : Nat} (h : fltM l k = 0) : ((stZ l k).k = 2 → sentB l (stZ l k).m k = false) ∧ ((stZ l k).k = 3 → gotB l (stZ l k).m k = false ∧ sentB l (stZ l k).m k = true) := by
  unfold fltM at h
  split at h
  · cases h
  · next e =>
    split at h
    · cases h
    · next e2 =>
      refine ⟨fun e3 => ?_, fun e3 => ⟨?_, ?_⟩⟩
      · cases hs : sentB l (stZ l k).m k
        · rfl
        · exact absurd (.inl ⟨e3, hs⟩) e
      · cases hs : gotB l (stZ l k).m k
        · rfl
        · exact absurd (.inr ⟨e3, hs⟩) e
      · cases hs : sentB l (stZ l k).m k
        · exact absurd ⟨e3, hs⟩ e2
        · rfl
theorem clOk_of {l : List Stp} (h0 : l.length ≤ 40) (h : ∀ k, k < l.length → fltC l k = 0) : ClOk l where
  few := h0
  proc := fun i hi => (fltS_zero (fltC_zero (h i hi)).1).1
  kind := fun i hi => (fltS_zero (fltC_zero (h i hi)).1).2.2.1
  once := fun i j hij hj h2 h2' e => by
    have := (fltM_zero (fltC_zero (h j hj)).2).1 h2'
    have h3 : sentB l (stZ l j).m j = true := sentB_iff.2 ⟨i, hij, by simp [sendB, h2, e]⟩
    rw [h3] at this; cases this
  took := fun i j hij hj h2 h2' e => by
    have := ((fltM_zero (fltC_zero (h j hj)).2).2 h2').1
    have h3 : gotB l (stZ l j).m j = true := gotB_iff.2 ⟨i, hij, by simp [takeB, h2, e]⟩
    rw [h3] at this; cases this
  sent := fun j hj h3 => sentB_iff.1 ((fltM_zero (fltC_zero (h j hj)).2).2 h3).2
theorem CkC.clOk {l : List Stp} {pl : Int} (h : CkC l 0 pl) : ClOk l := clOk_of h.ok.1 h.ok.2.1
theorem step_num {l : List Stp} (h : ∀ k, k < l.length → fltC l k = 0) {k : Nat} (hk : k < l.length) : (0 ≤ (stZ l k).p ∧ (stZ l k).p ≤ 7) ∧ (0 ≤ (stZ l k).m ∧ (stZ l k).m ≤ 1000000) ∧ (1 ≤ (stZ l k).k ∧ (stZ l k).k ≤ 3) := by
  have := fltS_zero (fltC_zero (h k hk)).1
  exact ⟨this.1, this.2.1, this.2.2.1⟩

/-! ### what is kept of each message -/
def mailF (l : List Stp) : Nat → Int → Option Int
  | 0 => fun _ => none
  | k + 1 => if (stZ l k).k = 1 then mailF l k else putK (mailF l k) (stZ l k).m (some (stZ l k).k)
theorem mailF_told {l : List Stp} : ∀ {k : Nat}, (∀ j, j < k → fltC l j = 0) → ∀ m, mailF l k m = if gotB l m k then some 3 else if sentB l m k then some 2 else none
  | 0, _, m => by simp [mailF, gotB, sentB]
  | k + 1, h, m => by
    have ih := mailF_told (k := k) (fun j hj => h j (by omega)) m
    have hk := fltC_zero (h k (by omega))
    have hkd := (fltS_zero hk.1).2.2.1
    have hm := fltM_zero hk.2
    rw [gotB_succ, sentB_succ]
    unfold mailF
    by_cases e1 : (stZ l k).k = 1
    · rw [if_pos e1, ih]
      simp [sendB, takeB, e1]
    · rw [if_neg e1]
      by_cases em : m = (stZ l k).m
      · subst em
        rw [putK_same]
        rcases (by omega : (stZ l k).k = 2 ∨ (stZ l k).k = 3) with e2 | e3
        · have hs := hm.1 e2
          have hg : gotB l (stZ l k).m k = false := by
            cases hg : gotB l (stZ l k).m k
            · rfl
            · obtain ⟨i, hi, ht⟩ := gotB_iff.1 hg
              have hik := fltM_zero (fltC_zero (h i (by omega))).2
              simp [takeB] at ht
              have := (hik.2 ht.1).2
              rw [ht.2] at this
              obtain ⟨i2, hi2, ht2⟩ := sentB_iff.1 this
              have : sentB l (stZ l k).m k = true := sentB_iff.2 ⟨i2, by omega, ht2⟩
              rw [hs] at this; cases this
          rw [hg, hs]
          simp [takeB, sendB, e2]
        · simp [takeB, e3]
      · rw [putK_other _ _ _ _ em, ih]
        simp [takeB, sendB, Ne.symm em]
theorem mailF_done {l : List Stp} {k : Nat} (h : ∀ j, j < k → fltC l j = 0) (m : Int) : ((mailF l k m).getD 0 = 3 ↔ gotB l m k = true) ∧ (mailF l k m).isSome = sentB l m k := by
  rw [mailF_told h m]
  cases hg : gotB l m k
  · cases hs : sentB l m k <;> simp
  · refine ⟨by simp, ?_⟩
    obtain ⟨i, hi, ht⟩ := gotB_iff.1 hg
    have hik := fltM_zero (fltC_zero (h i hi)).2
    simp [takeB] at ht
    have := (hik.2 ht.1).2
    rw [ht.2] at this
    obtain ⟨i2, hi2, ht2⟩ := sentB_iff.1 this
    rw [sentB_iff.2 ⟨i2, by omega, ht2⟩]
    simp

/-! ### who sent a message last -/
def sendM (l : List Stp) : Nat → Int → Option Int
  | 0 => fun _ => none
  | k + 1 => if (stZ l k).k = 2 then putK (sendM l k) (stZ l k).m (some (k : Int)) else sendM l k
theorem firstN_succ {f : Nat → Bool} {k : Nat} : firstN f (k + 1) = match firstN f k with | some j => some j | none => if f k then some k else none := by
  rcases firstN_cases f k with ⟨h, ha⟩ | ⟨j, hj, h, hf, ha⟩
  · rw [h]
    show _ = if f k then some k else none
    split
    · next e => exact firstN_at (by omega) ha e
    · next e =>
      refine firstN_none fun j hj => ?_
      by_cases ej : j = k
      · subst ej; simpa using e
      · exact ha j (by omega)
  · rw [h]; exact firstN_at (by omega) ha hf
theorem sendM_first {l : List Stp} : ∀ {k : Nat}, (∀ j, j < k → fltC l j = 0) → ∀ m, sendM l k m = (firstN (sendB l m) k).map fun n : Nat => (n : Int)
  | 0, _, m => rfl
  | k + 1, h, m => by
    have ih := sendM_first (k := k) (fun j hj => h j (by omega)) m
    have hm := fltM_zero (fltC_zero (h k (by omega))).2
    rw [firstN_succ]
    unfold sendM
    by_cases e2 : (stZ l k).k = 2
    · rw [if_pos e2]
      by_cases em : m = (stZ l k).m
      · subst em
        rw [putK_same]
        have hs := hm.1 e2
        have hno : firstN (sendB l (stZ l k).m) k = none := by
          refine firstN_none fun j hj => ?_
          cases hb : sendB l (stZ l k).m j
          · rfl
          · have := sentB_iff.2 ⟨j, hj, hb⟩
            rw [hs] at this; cases this
        rw [hno]
        simp [sendB, e2]
      · rw [putK_other _ _ _ _ em, ih]
        cases hf : firstN (sendB l m) k with
        | some j => rfl
        | none => simp [sendB, Ne.symm em]
    · rw [if_neg e2, ih]
      cases hf : firstN (sendB l m) k with
      | some j => rfl
      | none => simp [sendB, e2]
def lastM (l : List Stp) (k : Nat) (q : Int) : Option Int := (lastC l q k).map fun n : Nat => (n : Int)
theorem lastM_succ (l : List Stp) (k : Nat) : lastM l (k + 1) = putK (lastM l k) (stZ l k).p (some (k : Int)) := by
  funext q
  unfold lastM putK
  show (if (stZ l k).p = q then some k else lastC l q k).map _ = _
  by_cases e : (stZ l k).p = q
  · rw [if_pos e, if_pos e.symm]; rfl
  · rw [if_neg e, if_neg (Ne.symm e)]
end Go.Proofs.YtmonbkoelehdlaaDoor
