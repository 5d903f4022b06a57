/-
  Chapter 5 in plain Lean: what is told of ops that a register's zones are asked of, the spans of values, the zones, which two don't fit.
-/
import Derived.Test.YtibdchahallbjabDoorPlainAZ
namespace Go.Proofs.YtibdchahallbjabDoor

def opZ (l : List Opn) (i : Nat) : Opn := l.getD i ⟨0, 0, 0, 0, 0, 0, 0, 0⟩
theorem opZ_at {l : List Opn} {i : Nat} (h : i < l.length) : opZ l i = l[i] := by simp [opZ, h]
def putK {α : Type} (S : Int → α) (q : Int) (x : α) : Int → α := fun p => if p = q then x else S p
theorem putK_same {α : Type} (S : Int → α) (q : Int) (x : α) : putK S q x q = x := by simp [putK]
theorem putK_other {α : Type} (S : Int → α) (q : Int) (x : α) (p : Int) (h : p ≠ q) : putK S q x p = S p := by simp [putK, h]

/-- The first number that isn't 0. -/
def First (f : Nat → Int) (N : Nat) (n : Int) : Prop :=
  ((∀ j, j < N → f j = 0) ∧ n = 0) ∨ ∃ k, k < N ∧ (∀ j, j < k → f j = 0) ∧ f k ≠ 0 ∧ n = f k
theorem First.one {f : Nat → Int} {N : Nat} {n m : Int} (h1 : First f N n) (h2 : First f N m) : n = m := by
  rcases h1 with ⟨a, rfl⟩ | ⟨k, hk, a, hne, rfl⟩
  · rcases h2 with ⟨_, rfl⟩ | ⟨k', hk', _, hne', rfl⟩
    · rfl
    · exact absurd (a k' hk') hne'
  · rcases h2 with ⟨b, rfl⟩ | ⟨k', hk', b, hne', rfl⟩
    · exact absurd (b k hk) hne
    · rcases Nat.lt_trichotomy k k' with h | h | h
      · exact absurd (b k h) hne
      · subst h; rfl
      · exact absurd (a k' h) hne'
theorem First.zero {f : Nat → Int} {N : Nat} (h : First f N 0) : ∀ j, j < N → f j = 0 := by
  rcases h with ⟨a, _⟩ | ⟨k, _, _, hne, e⟩
  · exact a
  · exact absurd e.symm hne

/-- Of one op behind others: its key and form, then whether it brings what one ahead brought. -/
def cFaultN (form : Opn → Bool) (d0 k0 : Int) (l : List Opn) (x : Opn) : Int :=
  if x.k == k0 && form x then (if x.d == d0 && l.any (fun y => y.d == d0 && y.a == x.a) then 9 else 0) else 3
def cFaultAt (form : Opn → Bool) (d0 : Int) (l : List Opn) (j : Nat) : Int := cFaultN form d0 (opZ l 0).k (l.take j) (opZ l j)
/-- What Check tells. -/
def CTold (form : Opn → Bool) (d0 : Int) (l : List Opn) (n : Int) : Prop :=
  ∃ m, Told l m ∧ ((m ≠ 0 ∧ n = m) ∨ (m = 0 ∧ First (cFaultAt form d0 l) l.length n))
theorem CTold.one {form : Opn → Bool} {d0 : Int} {l : List Opn} {n m : Int} (h1 : CTold form d0 l n) (h2 : CTold form d0 l m) : n = m := by
  obtain ⟨x, tx, h1⟩ := h1
  obtain ⟨y, ty, h2⟩ := h2
  obtain rfl := told_one tx ty
  rcases h1 with ⟨a, rfl⟩ | ⟨a, f⟩
  · rcases h2 with ⟨_, rfl⟩ | ⟨b, _⟩
    · rfl
    · exact absurd b a
  · rcases h2 with ⟨b, _⟩ | ⟨_, g⟩
    · exact absurd a b
    · exact f.one g

theorem CTold.zero {form : Opn → Bool} {d0 : Int} {l : List Opn} (h : CTold form d0 l 0) : Told l 0 ∧ ∀ j, j < l.length → cFaultAt form d0 l j = 0 := by
  obtain ⟨m, t, h⟩ := h
  rcases h with ⟨a, rfl⟩ | ⟨rfl, f⟩
  · exact absurd rfl a
  · exact ⟨t, f.zero⟩
theorem cFault_zero {form : Opn → Bool} {d0 k0 : Int} {l : List Opn} {x : Opn} (h : cFaultN form d0 k0 l x = 0) :
    x.k = k0 ∧ form x = true ∧ ¬ (x.d = d0 ∧ ∃ y ∈ l, y.d = d0 ∧ y.a = x.a) := by
  unfold cFaultN at h
  split at h
  · next hf =>
    split at h
    · cases h
    · next hn =>
      simp at hf hn
      exact ⟨hf.1, hf.2, fun ⟨e, y, hy, h1, h2⟩ => hn e y hy h1 h2⟩
  · cases h

/-- A read or a write that came to its end. -/
def zFormB (x : Opn) : Bool := if x.d = 1 then decide (0 ≤ x.e) else if x.d = 2 then decide (0 ≤ x.e) && x.a != 0 && x.r == 0 else false

/-- What is known of ops that may be looked at. -/
structure ZOk (l : List Opn) : Prop where
  few : l.length ≤ 40
  key : ∀ i, i < l.length → (opZ l i).k = (opZ l 0).k
  kind : ∀ i, i < l.length → (opZ l i).d = 1 ∨ (opZ l i).d = 2
  back : ∀ i, i < l.length → 0 ≤ (opZ l i).c ∧ (opZ l i).c < (opZ l i).e
  write : ∀ i, i < l.length → (opZ l i).d = 2 → (opZ l i).a ≠ 0 ∧ (opZ l i).r = 0
  once : ∀ i j, i < l.length → j < l.length → (opZ l i).d = 2 → (opZ l j).d = 2 → (opZ l i).a = (opZ l j).a → i = j
  rise : ∀ i j, i < j → j < l.length → (opZ l i).c < (opZ l j).c
  cc : ∀ i j, i < l.length → j < l.length → i ≠ j → (opZ l i).c ≠ (opZ l j).c
  ce : ∀ i j, i < l.length → j < l.length → i ≠ j → (opZ l i).c ≠ (opZ l j).e
  ee : ∀ i j, i < l.length → j < l.length → i ≠ j → (opZ l i).e ≠ (opZ l j).e
  num : ∀ i, i < l.length → (-1000000 ≤ (opZ l i).a ∧ (opZ l i).a ≤ 1000000) ∧ (-1000000 ≤ (opZ l i).r ∧ (opZ l i).r ≤ 1000000) ∧ (opZ l i).c ≤ 1000000 ∧ (opZ l i).e ≤ 1000000

theorem toldNil {l : List Opn} (h : Told l 0) : l.length ≤ 40 ∧ ∀ j, j < l.length → opFaultN (l.take j) (opZ l j) = 0 := by
  rcases h with ⟨_, e⟩ | ⟨h1, h2, _⟩ | ⟨_, k, hk, _, hne, e⟩
  · cases e
  · exact ⟨h1, fun j hj => by rw [opZ_at hj]; exact h2 j hj⟩
  · exact absurd e.symm hne

theorem opFault0 {l : List Opn} {x : Opn} (h : opFaultN l x = 0) : rangeB x = true ∧ kindB x.d = true ∧ orderB l x = true ∧ (∀ y ∈ l, shareB y x = false) ∧ (∀ y ∈ l, clashB y x = false) := by
  unfold opFaultN at h
  split at h
  · next h1 =>
    split at h
    · next h2 =>
      split at h
      · next h3 =>
        split at h
        · cases h
        · next h4 =>
          split at h
          · cases h
          · next h5 =>
            refine ⟨h1, h2, h3, fun y hy => ?_, fun y hy => ?_⟩
            · cases hs : shareB y x
              · rfl
              · exact absurd (List.any_eq_true.2 ⟨y, hy, hs⟩) h4
            · cases hs : clashB y x
              · rfl
              · exact absurd (List.any_eq_true.2 ⟨y, hy, hs⟩) h5
      · cases h
    · cases h
  · cases h

theorem mem_take {l : List Opn} {i j : Nat} (hij : i < j) (hj : j < l.length) : opZ l i ∈ l.take j := by
  rw [opZ_at (Nat.lt_trans hij hj)]
  exact List.mem_take_iff_getElem.2 ⟨i, by omega, rfl⟩

theorem rise_next {l : List Opn} (h : ∀ j, j < l.length → opFaultN (l.take j) (opZ l j) = 0) (j : Nat) (hj : j + 1 < l.length) : (opZ l j).c < (opZ l (j + 1)).c := by
  have h3 := (opFault0 (h (j + 1) hj)).2.2.1
  unfold orderB lastOk at h3
  have hl : (l.take (j + 1)).getLast? = some (opZ l j) := by
    rw [List.getLast?_eq_getElem?, List.length_take, Nat.min_eq_left (by omega), List.getElem?_take, if_pos (by omega), opZ_at (by omega)]
    simp
  rw [hl] at h3
  simp at h3
  exact h3.1.2
theorem rise_all {l : List Opn} (h : ∀ j, j < l.length → opFaultN (l.take j) (opZ l j) = 0) : ∀ d i, i + d + 1 < l.length → (opZ l i).c < (opZ l (i + d + 1)).c
  | 0, i, hi => rise_next h i hi
  | d + 1, i, hi => Int.lt_trans (rise_all h d i (by omega)) (rise_next h (i + d + 1) hi)

theorem zOk_of {l : List Opn} (h : CTold zFormB 2 l 0) : ZOk l := by
  obtain ⟨t, hc⟩ := h.zero
  obtain ⟨hlen, ho⟩ := toldNil t
  have hf : ∀ j, j < l.length → zFormB (opZ l j) = true := fun j hj => (cFault_zero (hc j hj)).2.1
  have hform : ∀ j, j < l.length → ((opZ l j).d = 1 ∨ (opZ l j).d = 2) ∧ 0 ≤ (opZ l j).e ∧ ((opZ l j).d = 2 → (opZ l j).a ≠ 0 ∧ (opZ l j).r = 0) := fun j hj => by
    have := hf j hj
    unfold zFormB at this
    split at this
    · next e => simp at this; exact ⟨.inl e, this, fun k => by omega⟩
    · split at this
      · next e => simp at this; exact ⟨.inr e, this.1.1, fun _ => ⟨this.1.2, this.2⟩⟩
      · cases this
  have hlt : ∀ i j, i < j → j < l.length → (opZ l i).c < (opZ l j).c := fun i j hij hj => by
    have := rise_all ho (j - i - 1) i (by omega)
    rwa [show i + (j - i - 1) + 1 = j from by omega] at this
  have hsh : ∀ i j, i < j → j < l.length → (opZ l i).c ≠ (opZ l j).c ∧ (opZ l i).e ≠ (opZ l j).c ∧ (opZ l i).c ≠ (opZ l j).e ∧ (opZ l i).e ≠ (opZ l j).e := fun i j hij hj => by
    have h4 := (opFault0 (ho j hj)).2.2.2.1 _ (mem_take hij hj)
    have he := (hform j hj).2.1
    unfold shareB hasB at h4
    simp at h4
    obtain ⟨⟨a, b⟩, c⟩ := h4
    have := c (by omega)
    exact ⟨a, b, this.1, this.2⟩
  refine ⟨hlen, fun i hi => (cFault_zero (hc i hi)).1, fun i hi => (hform i hi).1, fun i hi => ?_, fun i hi hd => (hform i hi).2.2 hd, fun i j hi hj hd hd' e => ?_, hlt, fun i j hi hj hne => ?_, fun i j hi hj hne => ?_, fun i j hi hj hne => ?_, fun i hi => ?_⟩
  · have h3 := (opFault0 (ho i hi)).2.2.1
    have he := (hform i hi).2.1
    unfold orderB at h3
    rw [if_neg (by omega)] at h3
    simp at h3
    exact ⟨h3.1.1, h3.2⟩
  · rcases Nat.lt_trichotomy i j with hl | hl | hl
    · exact absurd ⟨hd', _, mem_take hl hj, hd, e⟩ (cFault_zero (hc j hj)).2.2
    · exact hl
    · exact absurd ⟨hd, _, mem_take hl hi, hd', e.symm⟩ (cFault_zero (hc i hi)).2.2
  · rcases Nat.lt_or_gt_of_ne hne with hl | hl
    · exact (hsh i j hl hj).1
    · exact (hsh j i hl hi).1.symm
  · rcases Nat.lt_or_gt_of_ne hne with hl | hl
    · exact (hsh i j hl hj).2.2.1
    · exact (hsh j i hl hi).2.1.symm
  · rcases Nat.lt_or_gt_of_ne hne with hl | hl
    · exact (hsh i j hl hj).2.2.2
    · exact (hsh j i hl hi).2.2.2.symm
  · have h1 := (opFault0 (ho i hi)).1
    simp [rangeB, inB, numB] at h1
    omega

end Go.Proofs.YtibdchahallbjabDoor
