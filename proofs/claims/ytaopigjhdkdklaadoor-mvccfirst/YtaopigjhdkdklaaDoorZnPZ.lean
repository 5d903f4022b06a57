/-
  Chapter 5 in plain Lean: what is told of ops that a register's zones are asked of, the spans of values, the zones, which two don't fit.
  Chapter 7 in plain Lean: what Check tells, which write is read, what comes ahead of what (two ways to find it), what can't be.
-/
import Derived.Test.YtaopigjhdkdklaaDoorPlainAZ
namespace Go.Proofs.YtaopigjhdkdklaaDoor

def opZ (l : List Opn) (i : Nat) : Opn := l.getD i ⟨0, 0, 0, 0, 0, 0, 0, 0⟩
theorem opZ_at {l : List Opn} {i : Nat} (h : i < l.length) : opZ l i = l[i] := by simp [opZ, h]
def putK {α : Type} (S : Int → α) (q : Int) (x : α) : Int → α := fun p => if p = q then x else S p
theorem putK_same {α : Type} (S : Int → α) (q : Int) (x : α) : putK S q x q = x := by simp [putK]
theorem putK_other {α : Type} (S : Int → α) (q : Int) (x : α) (p : Int) (h : p ≠ q) : putK S q x p = S p := by simp [putK, h]

/-- The first number that isn't 0. -/
def First (f : Nat → Int) (N : Nat) (n : Int) : Prop :=
  ((∀ j, j < N → f j = 0) ∧ n = 0) ∨ ∃ k, k < N ∧ (∀ j, j < k → f j = 0) ∧ f k ≠ 0 ∧ n = f k
theorem First.one {f : Nat → Int} {N : Nat} {n m : Int} (h1 : First f N n) (h2 : First f N m) : n = m := by
  rcases h1 with ⟨a, rfl⟩ | ⟨k, hk, a, hne, rfl⟩
  · rcases h2 with ⟨_, rfl⟩ | ⟨k', hk', _, hne', rfl⟩
    · rfl
    · exact absurd (a k' hk') hne'
  · rcases h2 with ⟨b, rfl⟩ | ⟨k', hk', b, hne', rfl⟩
    · exact absurd (b k hk) hne
    · rcases Nat.lt_trichotomy k k' with h | h | h
      · exact absurd (b k h) hne
      · subst h; rfl
      · exact absurd (a k' h) hne'
theorem First.zero {f : Nat → Int} {N : Nat} (h : First f N 0) : ∀ j, j < N → f j = 0 := by
  rcases h with ⟨a, _⟩ | ⟨k, _, _, hne, e⟩
  · exact a
  · exact absurd e.symm hne

/-- Of one op behind others: its key and form, then whether it brings what one ahead brought. -/
def cFaultN (form : Opn → Bool) (d0 k0 : Int) (l : List Opn) (x : Opn) : Int :=
  if x.k == k0 && form x then (if x.d == d0 && l.any (fun y => y.d == d0 && y.a == x.a) then 9 else 0) else 3
def cFaultAt (form : Opn → Bool) (d0 : Int) (l : List Opn) (j : Nat) : Int := cFaultN form d0 (opZ l 0).k (l.take j) (opZ l j)
/-- What Check tells. -/
def CTold (form : Opn → Bool) (d0 : Int) (l : List Opn) (n : Int) : Prop :=
  ∃ m, Told l m ∧ ((m ≠ 0 ∧ n = m) ∨ (m = 0 ∧ First (cFaultAt form d0 l) l.length n))
theorem CTold.one {form : Opn → Bool} {d0 : Int} {l : List Opn} {n m : Int} (h1 : CTold form d0 l n) (h2 : CTold form d0 l m) : n = m := by
  obtain ⟨x, tx, h1⟩ := h1
  obtain ⟨y, ty, h2⟩ := h2
  obtain rfl := told_one tx ty
  rcases h1 with ⟨a, rfl⟩ | ⟨a, f⟩
  · rcases h2 with ⟨_, rfl⟩ | ⟨b, _⟩
    · rfl
    · exact absurd b a
  · rcases h2 with ⟨b, _⟩ | ⟨_, g⟩
    · exact absurd a b
    · exact f.one g

theorem CTold.zero {form : Opn → Bool} {d0 : Int} {l : List Opn} (h : CTold form d0 l 0) : Told l 0 ∧ ∀ j, j < l.length → cFaultAt form d0 l j = 0 := by
  obtain ⟨m, t, h⟩ := h
  rcases h with ⟨a, rfl⟩ | ⟨rfl, f⟩
  · exact absurd rfl a
  · exact ⟨t, f.zero⟩
theorem cFault_zero {form : Opn → Bool} {d0 k0 : Int} {l : List Opn} {x : Opn} (h : cFaultN form d0 k0 l x = 0) :
    x.k = k0 ∧ form x = true ∧ ¬ (x.d = d0 ∧ ∃ y ∈ l, y.d = d0 ∧ y.a = x.a) := by
  unfold cFaultN at h
  split at h
  · next hf =>
    split at h
    · cases h
    · next hn =>
      simp at hf hn
      exact ⟨hf.1, hf.2, fun ⟨e, y, hy, h1, h2⟩ => hn e y hy h1 h2⟩
  · cases h

/-- A read or a write that came to its end. -/
def zFormB (x : Opn) : Bool := if x.d = 1 then decide (0 ≤ x.e) else if x.d = 2 then decide (0 ≤ x.e) && x.a != 0 && x.r == 0 else false

/-- What is known of ops that may be looked at. -/
structure ZOk (l : List Opn) : Prop where
  few : l.length ≤ 40
  key : ∀ i, i < l.length → (opZ l i).k = (opZ l 0).k
  kind : ∀ i, i < l.length → (opZ l i).d = 1 ∨ (opZ l i).d = 2
  back : ∀ i, i < l.length → 0 ≤ (opZ l i).c ∧ (opZ l i).c < (opZ l i).e
  write : ∀ i, i < l.length → (opZ l i).d = 2 → (opZ l i).a ≠ 0 ∧ (opZ l i).r = 0
  once : ∀ i j, i < l.length → j < l.length → (opZ l i).d = 2 → (opZ l j).d = 2 → (opZ l i).a = (opZ l j).a → i = j
  rise : ∀ i j, i < j → j < l.length → (opZ l i).c < (opZ l j).c
  cc : ∀ i j, i < l.length → j < l.length → i ≠ j → (opZ l i).c ≠ (opZ l j).c
  ce : ∀ i j, i < l.length → j < l.length → i ≠ j → (opZ l i).c ≠ (opZ l j).e
  ee : ∀ i j, i < l.length → j < l.length → i ≠ j → (opZ l i).e ≠ (opZ l j).e
  num : ∀ i, i < l.length → (-1000000 ≤ (opZ l i).a ∧ (opZ l i).a ≤ 1000000) ∧ (-1000000 ≤ (opZ l i).r ∧ (opZ l i).r ≤ 1000000) ∧ (opZ l i).c ≤ 1000000 ∧ (opZ l i).e ≤ 1000000

theorem toldNil {l : List Opn} (h : Told l 0) : l.length ≤ 40 ∧ ∀ j, j < l.length → opFaultN (l.take j) (opZ l j) = 0 := by
  rcases h with ⟨_, e⟩ | ⟨h1, h2, _⟩ | ⟨_, k, hk, _, hne, e⟩
  · cases e
  · exact ⟨h1, fun j hj => by rw [opZ_at hj]; exact h2 j hj⟩
  · exact absurd e.symm hne

theorem opFault0 {l : List Opn} {x : Opn} (h : opFaultN l x = 0) : rangeB x = true ∧ kindB x.d = true ∧ orderB l x = true ∧ (∀ y ∈ l, shareB y x = false) ∧ (∀ y ∈ l, clashB y x = false) := by
  unfold opFaultN at h
  split at h
  · next h1 =>
    split at h
    · next h2 =>
      split at h
      · next h3 =>
        split at h
        · cases h
        · next h4 =>
          split at h
          · cases h
          · next h5 =>
            refine ⟨h1, h2, h3, fun y hy => ?_, fun y hy => ?_⟩
            · cases hs : shareB y x
              · rfl
              · exact absurd (List.any_eq_true.2 ⟨y, hy, hs⟩) h4
            · cases hs : clashB y x
              · rfl
              · exact absurd (List.any_eq_true.2 ⟨y, hy, hs⟩) h5
      · cases h
    · cases h
  · cases h

theorem mem_take {l : List Opn} {i j : Nat} (hij : i < j) (hj : j < l.length) : opZ l i ∈ l.take j := by
  rw [opZ_at (Nat.lt_trans hij hj)]
  exact List.mem_take_iff_getElem.2 ⟨i, by omega, rfl⟩

theorem rise_next {l : List Opn} (h : ∀ j, j < l.length → opFaultN (l.take j) (opZ l j) = 0) (j : Nat) (hj : j + 1 < l.length) : (opZ l j).c < (opZ l (j + 1)).c := by
  have h3 := (opFault0 (h (j + 1) hj)).2.2.1
  unfold orderB lastOk at h3
  have hl : (l.take (j + 1)).getLast? = some (opZ l j) := by
    rw [List.getLast?_eq_getElem?, List.length_take, Nat.min_eq_left (by omega), List.getElem?_take, if_pos (by omega), opZ_at (by omega)]
    simp
  rw [hl] at h3
  simp at h3
  exact h3.1.2
theorem rise_all {l : List Opn} (h : ∀ j, j < l.length → opFaultN (l.take j) (opZ l j) = 0) : ∀ d i, i + d + 1 < l.length → (opZ l i).c < (opZ l (i + d + 1)).c
  | 0, i, hi => rise_next h i hi
  | d + 1, i, hi => Int.lt_trans (rise_all h d i (by omega)) (rise_next h (i + d + 1) hi)

theorem zOk_of {l : List Opn} (h : CTold zFormB 2 l 0) : ZOk l := by
  obtain ⟨t, hc⟩ := h.zero
  obtain ⟨hlen, ho⟩ := toldNil t
  have hf : ∀ j, j < l.length → zFormB (opZ l j) = true := fun j hj => (cFault_zero (hc j hj)).2.1
  have hform : ∀ j, j < l.length → ((opZ l j).d = 1 ∨ (opZ l j).d = 2) ∧ 0 ≤ (opZ l j).e ∧ ((opZ l j).d = 2 → (opZ l j).a ≠ 0 ∧ (opZ l j).r = 0) := fun j hj => by
    have := hf j hj
    unfold zFormB at this
    split at this
    · next e => simp at this; exact ⟨.inl e, this, fun k => by omega⟩
    · split at this
      · next e => simp at this; exact ⟨.inr e, this.1.1, fun _ => ⟨this.1.2, this.2⟩⟩
      · cases this
  have hlt : ∀ i j, i < j → j < l.length → (opZ l i).c < (opZ l j).c := fun i j hij hj => by
    have := rise_all ho (j - i - 1) i (by omega)
    rwa [show i + (j - i - 1) + 1 = j from by omega] at this
  have hsh : ∀ i j, i < j → j < l.length → (opZ l i).c ≠ (opZ l j).c ∧ (opZ l i).e ≠ (opZ l j).c ∧ (opZ l i).c ≠ (opZ l j).e ∧ (opZ l i).e ≠ (opZ l j).e := fun i j hij hj => by
    have h4 := (opFault0 (ho j hj)).2.2.2.1 _ (mem_take hij hj)
    have he := (hform j hj).2.1
    unfold shareB hasB at h4
    simp at h4
    obtain ⟨⟨a, b⟩, c⟩ := h4
    have := c (by omega)
    exact ⟨a, b, this.1, this.2⟩
  refine ⟨hlen, fun i hi => (cFault_zero (hc i hi)).1, fun i hi => (hform i hi).1, fun i hi => ?_, fun i hi hd => (hform i hi).2.2 hd, fun i j hi hj hd hd' e => ?_, hlt, fun i j hi hj hne => ?_, fun i j hi hj hne => ?_, fun i j hi hj hne => ?_, fun i hi => ?_⟩
  · have h3 := (opFault0 (ho i hi)).2.2.1
    have he := (hform i hi).2.1
    unfold orderB at h3
    rw [if_neg (by omega)] at h3
    simp at h3
    exact ⟨h3.1.1, h3.2⟩
  · rcases Nat.lt_trichotomy i j with hl | hl | hl
    · exact absurd ⟨hd', _, mem_take hl hj, hd, e⟩ (cFault_zero (hc j hj)).2.2
    · exact hl
    · exact absurd ⟨hd, _, mem_take hl hi, hd', e.symm⟩ (cFault_zero (hc i hi)).2.2
  · rcases Nat.lt_or_gt_of_ne hne with hl | hl
    · exact (hsh i j hl hj).1
    · exact (hsh j i hl hi).1.symm
  · rcases Nat.lt_or_gt_of_ne hne with hl | hl
    · exact (hsh i j hl hj).2.2.1
    · exact (hsh j i hl hi).2.1.symm
  · rcases Nat.lt_or_gt_of_ne hne with hl | hl
    · exact (hsh i j hl hj).2.2.2
    · exact (hsh j i hl hi).2.2.2.symm
  · have h1 := (opFault0 (ho i hi)).1
    simp [rangeB, inB, numB] at h1
    omega

end Go.Proofs.YtaopigjhdkdklaaDoor

namespace Go.Proofs.YtaopigjhdkdklaaDoor

/-! ### what Check tells -/

def kFaultN (l : List Opn) (x : Opn) : Int :=
  if zFormB x then (if x.d == 2 && l.any (fun y => y.d == 2 && (y.k == x.k && y.a == x.a)) then 9 else 0) else 3
def kFaultAt (l : List Opn) (j : Nat) : Int := kFaultN (l.take j) (opZ l j)
def KTold (l : List Opn) (n : Int) : Prop :=
  ∃ m, Told l m ∧ ((m ≠ 0 ∧ n = m) ∨ (m = 0 ∧ First (kFaultAt l) l.length n))
theorem KTold.one {l : List Opn} {n m : Int} (h1 : KTold l n) (h2 : KTold l m) : n = m := by
  obtain ⟨x, tx, h1⟩ := h1
  obtain ⟨y, ty, h2⟩ := h2
  obtain rfl := told_one tx ty
  rcases h1 with ⟨a, rfl⟩ | ⟨a, f⟩
  · rcases h2 with ⟨_, rfl⟩ | ⟨b, _⟩
    · rfl
    · exact absurd b a
  · rcases h2 with ⟨b, _⟩ | ⟨_, g⟩
    · exact absurd a b
    · exact f.one g
theorem KTold.zero {l : List Opn} (h : KTold l 0) : Told l 0 ∧ ∀ j, j < l.length → kFaultAt l j = 0 := by
  obtain ⟨m, t, h⟩ := h
  rcases h with ⟨a, rfl⟩ | ⟨rfl, f⟩
  · exact absurd rfl a
  · exact ⟨t, f.zero⟩
theorem kFault_zero {l : List Opn} {x : Opn} (h : kFaultN l x = 0) : zFormB x = true ∧ ¬ (x.d = 2 ∧ ∃ y ∈ l, y.d = 2 ∧ y.k = x.k ∧ y.a = x.a) := by
  unfold kFaultN at h
  split at h
  · next hf =>
    split at h
    · cases h
    · next hn =>
      simp at hn
      exact ⟨hf, fun ⟨e, y, hy, h1, h2, h3⟩ => hn e y hy h1 h2 h3⟩
  · cases h
theorem kTold_err {l : List Opn} {m : Int} (h : Told l m) (hm : m ≠ 0) : KTold l m := ⟨m, h, .inl ⟨hm, rfl⟩⟩
theorem kTold_at {l : List Opn} (h : Told l 0) {k : Nat} (hk : k < l.length) (ha : ∀ j, j < k → kFaultAt l j = 0) {n : Int} (hn : kFaultAt l k = n) (h0 : n ≠ 0) : KTold l n :=
  ⟨0, h, .inr ⟨rfl, .inr ⟨k, hk, ha, by rw [hn]; exact h0, hn.symm⟩⟩⟩
theorem kTold_all {l : List Opn} (h : Told l 0) (ha : ∀ j, j < l.length → kFaultAt l j = 0) : KTold l 0 := ⟨0, h, .inr ⟨rfl, .inl ⟨ha, rfl⟩⟩⟩
theorem kFault_form {l : List Opn} {k : Nat} (h : zFormB (opZ l k) = false) : kFaultAt l k = 3 := by
  unfold kFaultAt kFaultN
  rw [h]; rfl
theorem kFault_other {l : List Opn} {k : Nat} (h2 : zFormB (opZ l k) = true) (h3 : (opZ l k).d ≠ 2) : kFaultAt l k = 0 := by
  unfold kFaultAt kFaultN
  rw [h2, if_pos rfl, if_neg (by simp [h3])]

/-- What is known of ops that may be looked at. -/
structure KOk (l : List Opn) : Prop where
  told : Told l 0
  few : l.length ≤ 40
  kind : ∀ i, i < l.length → (opZ l i).d = 1 ∨ (opZ l i).d = 2
  back : ∀ i, i < l.length → 0 ≤ (opZ l i).c ∧ (opZ l i).c < (opZ l i).e
  write : ∀ i, i < l.length → (opZ l i).d = 2 → (opZ l i).a ≠ 0 ∧ (opZ l i).r = 0
  once : ∀ i j, i < l.length → j < l.length → (opZ l i).d = 2 → (opZ l j).d = 2 → (opZ l i).k = (opZ l j).k → (opZ l i).a = (opZ l j).a → i = j
  rise : ∀ i j, i < j → j < l.length → (opZ l i).c < (opZ l j).c
  own : ∀ i j, i < j → j < l.length → (opZ l i).p = (opZ l j).p → (opZ l i).e < (opZ l j).c
  num : ∀ i, i < l.length → (0 ≤ (opZ l i).k ∧ (opZ l i).k ≤ 7) ∧ (-1000000 ≤ (opZ l i).a ∧ (opZ l i).a ≤ 1000000) ∧ (-1000000 ≤ (opZ l i).r ∧ (opZ l i).r ≤ 1000000) ∧ (opZ l i).c ≤ 1000000 ∧ (opZ l i).e ≤ 1000000

theorem kOk_of {l : List Opn} (h : KTold l 0) : KOk l := by
  obtain ⟨t, hc⟩ := h.zero
  obtain ⟨hlen, ho⟩ := toldNil t
  have hf : ∀ j, j < l.length → zFormB (opZ l j) = true := fun j hj => (kFault_zero (hc j hj)).1
  have hform : ∀ j, j < l.length → ((opZ l j).d = 1 ∨ (opZ l j).d = 2) ∧ 0 ≤ (opZ l j).e ∧ ((opZ l j).d = 2 → (opZ l j).a ≠ 0 ∧ (opZ l j).r = 0) := fun j hj => by
    have := hf j hj
    unfold zFormB at this
    split at this
    · next e => simp at this; exact ⟨.inl e, this, fun k => by omega⟩
    · split at this
      · next e => simp at this; exact ⟨.inr e, this.1.1, fun _ => ⟨this.1.2, this.2⟩⟩
      · cases this
  have hlt : ∀ i j, i < j → j < l.length → (opZ l i).c < (opZ l j).c := fun i j hij hj => by
    have := rise_all ho (j - i - 1) i (by omega)
    rwa [show i + (j - i - 1) + 1 = j from by omega] at this
  refine ⟨t, hlen, fun i hi => (hform i hi).1, fun i hi => ?_, fun i hi hd => (hform i hi).2.2 hd, fun i j hi hj hd hd' e e' => ?_, hlt, fun i j hij hj hp => ?_, fun i hi => ?_⟩
  · have h3 := (opFault0 (ho i hi)).2.2.1
    have he := (hform i hi).2.1
    unfold orderB at h3
    rw [if_neg (by omega)] at h3
    simp at h3
    exact ⟨h3.1.1, h3.2⟩
  · rcases Nat.lt_trichotomy i j with hl | hl | hl
    · exact absurd ⟨hd', _, mem_take hl hj, hd, e, e'⟩ (kFault_zero (hc j hj)).2
    · exact hl
    · exact absurd ⟨hd, _, mem_take hl hi, hd', e.symm, e'.symm⟩ (kFault_zero (hc i hi)).2
  · have h5 := (opFault0 (ho j hj)).2.2.2.2 _ (mem_take hij hj)
    simp [clashB, beforeB, hp] at h5
    exact h5.2
  · have h1 := (opFault0 (ho i hi)).1
    simp [rangeB, inB, numB, eightB] at h1
    omega

/-! ### writers -/

def putS {α : Type} (S : Int → Int → α) (q v : Int) (x : α) : Int → Int → α := fun p u => if p = q ∧ u = v then x else S p u
theorem putS_same {α : Type} (S : Int → Int → α) (q v : Int) (x : α) : putS S q v x q v = x := by simp [putS]
theorem putS_other {α : Type} (S : Int → Int → α) (q v : Int) (x : α) (p u : Int) (h : ¬ (p = q ∧ u = v)) : putS S q v x p u = S p u := by simp [putS, h]
/-- The number of the write, by key and value, of the first ops. -/
def wrK (l : List Opn) : Nat → Int → Int → Option Int
  | 0 => fun _ _ => none
  | k + 1 => if (opZ l k).d = 2 then putS (wrK l k) (opZ l k).k (opZ l k).a (some (k : Int)) else wrK l k

theorem take_snocK {l : List Opn} {k : Nat} (hk : k < l.length) : l.take (k + 1) = l.take k ++ [opZ l k] := by
  rw [List.take_add_one, List.getElem?_eq_getElem hk, opZ_at hk]; rfl
theorem wrK_any (l : List Opn) : ∀ k, k ≤ l.length → ∀ q v, (wrK l k q v).isSome = (l.take k).any (fun y => y.d == 2 && (y.k == q && y.a == v))
  | 0, _, q, v => by simp [wrK]
  | k + 1, hk, q, v => by
    have ih := wrK_any l k (by omega) q v
    rw [take_snocK (by omega), List.any_append, ← ih, show wrK l (k + 1) = if (opZ l k).d = 2 then putS (wrK l k) (opZ l k).k (opZ l k).a (some (k : Int)) else wrK l k from rfl]
    by_cases hd : (opZ l k).d = 2
    · rw [if_pos hd]
      by_cases e : q = (opZ l k).k ∧ v = (opZ l k).a
      · obtain ⟨rfl, rfl⟩ := e
        rw [putS_same]; simp [hd]
      · rw [putS_other _ _ _ _ _ _ e]
        have : ((opZ l k).k == q && (opZ l k).a == v) = false := by
          cases h : ((opZ l k).k == q && (opZ l k).a == v)
          · rfl
          · simp at h; exact absurd ⟨h.1.symm, h.2.symm⟩ e
        simp [this]
    · rw [if_neg hd]; simp [hd]
theorem kFault_twice {l : List Opn} {k : Nat} (hk : k ≤ l.length) (h2 : zFormB (opZ l k) = true) (h3 : (opZ l k).d = 2) (h4 : (wrK l k (opZ l k).k (opZ l k).a).isSome = true) : kFaultAt l k = 9 := by
  rw [wrK_any l k hk] at h4
  unfold kFaultAt kFaultN
  rw [h2, if_pos rfl, h4, h3]; rfl
theorem kFault_first {l : List Opn} {k : Nat} (hk : k ≤ l.length) (h2 : zFormB (opZ l k) = true) (h4 : (wrK l k (opZ l k).k (opZ l k).a).isSome = false) : kFaultAt l k = 0 := by
  rw [wrK_any l k hk] at h4
  unfold kFaultAt kFaultN
  rw [h2, if_pos rfl, h4]; simp

theorem wrK_some {l : List Opn} : ∀ {k q v n}, wrK l k q v = some n → ∃ i : Nat, i < k ∧ n = i ∧ (opZ l i).d = 2 ∧ (opZ l i).k = q ∧ (opZ l i).a = v
  | 0, _, _, _, h => by cases h
  | k + 1, q, v, n, h => by
    unfold wrK at h
    by_cases hd : (opZ l k).d = 2
    · rw [if_pos hd] at h
      by_cases e : q = (opZ l k).k ∧ v = (opZ l k).a
      · obtain ⟨rfl, rfl⟩ := e
        rw [putS_same] at h
        cases h
        exact ⟨k, by omega, rfl, hd, rfl, rfl⟩
      · rw [putS_other _ _ _ _ _ _ e] at h
        obtain ⟨i, hi, r⟩ := wrK_some h
        exact ⟨i, by omega, r⟩
    · rw [if_neg hd] at h
      obtain ⟨i, hi, r⟩ := wrK_some h
      exact ⟨i, by omega, r⟩

/-- The write that an op reads; -1: none. -/
def srcK (l : List Opn) (x : Opn) : Int := (wrK l l.length x.k x.r).getD (-1)
theorem srcK_is {l : List Opn} (ok : KOk l) {x : Opn} {i : Nat} (hi : i < l.length) (h1 : (opZ l i).d = 2) (h2 : (opZ l i).k = x.k) (h3 : (opZ l i).a = x.r) : srcK l x = i := by
  unfold srcK
  have hs : (wrK l l.length x.k x.r).isSome = true := by
    rw [wrK_any l _ (Nat.le_refl _), List.take_length, List.any_eq_true]
    exact ⟨opZ l i, by rw [opZ_at hi]; exact List.getElem_mem hi, by simp [h1, h2, h3]⟩
  obtain ⟨n, hn⟩ := Option.isSome_iff_exists.1 hs
  obtain ⟨j, hj, rfl, g1, g2, g3⟩ := wrK_some hn
  rw [hn, ok.once i j hi hj h1 g1 (h2.trans g2.symm) (h3.trans g3.symm)]; rfl
theorem srcK_cases (l : List Opn) (x : Opn) : (srcK l x = -1 ∧ ∀ i, i < l.length → ¬ ((opZ l i).d = 2 ∧ (opZ l i).k = x.k ∧ (opZ l i).a = x.r)) ∨
    ∃ i : Nat, i < l.length ∧ srcK l x = i ∧ (opZ l i).d = 2 ∧ (opZ l i).k = x.k ∧ (opZ l i).a = x.r := by
  unfold srcK
  cases h : wrK l l.length x.k x.r with
  | none =>
    refine .inl ⟨rfl, fun i hi ⟨h1, h2, h3⟩ => ?_⟩
    have := wrK_any l l.length (Nat.le_refl _) x.k x.r
    rw [h, List.take_length] at this
    have := (List.any_eq_false.1 this.symm) (opZ l i) (by rw [opZ_at hi]; exact List.getElem_mem hi)
    simp [h1, h2, h3] at this
  | some n =>
    obtain ⟨i, hi, e, r⟩ := wrK_some h
    exact .inr ⟨i, hi, e, r⟩
theorem srcK_write {l : List Opn} (ok : KOk l) {i : Nat} (hi : i < l.length) (hd : (opZ l i).d = 2) : srcK l (opZ l i) = -1 := by
  rcases srcK_cases l (opZ l i) with h | ⟨j, hj, _, g1, g2, g3⟩
  · exact h.1
  · exact absurd (g3.trans (ok.write i hi hd).2) (ok.write j hj g1).1
theorem srcK_ge (l : List Opn) (x : Opn) : -1 ≤ srcK l x ∧ srcK l x < l.length := by
  rcases srcK_cases l x with h | ⟨j, hj, h, _⟩ <;> omega
theorem srcK_zero {l : List Opn} (ok : KOk l) {x : Opn} (h : x.r = 0) : srcK l x = -1 := by
  rcases srcK_cases l x with h | ⟨j, hj, _, g1, g2, g3⟩
  · exact h.1
  · exact absurd (g3.trans h) (ok.write j hj g1).1

def thinB (l : List Opn) (i : Nat) : Bool := (opZ l i).r != 0 && srcK l (opZ l i) == -1

/-! ### roads and ways -/

def roadB (l : List Opn) (i k : Nat) : Bool := ((opZ l i).p == (opZ l k).p && decide ((opZ l i).c < (opZ l k).c)) || srcK l (opZ l k) == (i : Int)

inductive Way (R : Nat → Nat → Bool) (n : Nat) : Nat → Nat → Prop
  | one {i k : Nat} (hi : i < n) (hk : k < n) (h : R i k = true) : Way R n i k
  | more {i j k : Nat} (h1 : Way R n i j) (hk : k < n) (h : R j k = true) : Way R n i k
theorem Way.lt {R : Nat → Nat → Bool} {n i k : Nat} (h : Way R n i k) : i < n ∧ k < n := by
  induction h with
  | one hi hk _ => exact ⟨hi, hk⟩
  | more _ hk _ ih => exact ⟨ih.1, hk⟩
theorem Way.trans {R : Nat → Nat → Bool} {n i j k : Nat} (h1 : Way R n i j) (h2 : Way R n j k) : Way R n i k := by
  induction h2 with
  | one _ hk h => exact .more h1 hk h
  | more _ hk h ih => exact .more (ih) hk h

/-- Over one more between. -/
def warS (M : Nat → Nat → Bool) (t : Nat) : Nat → Nat → Bool := fun i k => M i k || (M i t && M t k)
def war (R : Nat → Nat → Bool) : Nat → Nat → Nat → Bool
  | 0 => R
  | t + 1 => warS (war R t) t
theorem warS_row (M : Nat → Nat → Bool) (t k : Nat) : warS M t t k = M t k := by
  unfold warS
  cases M t k <;> simp
theorem war_base {R : Nat → Nat → Bool} {i k : Nat} (h : R i k = true) : ∀ t, war R t i k = true
  | 0 => h
  | t + 1 => by unfold war warS; rw [war_base h t]; rfl
theorem war_closed {R : Nat → Nat → Bool} : ∀ t, ∀ i j k, j < t → war R t i j = true → war R t j k = true → war R t i k = true
  | 0, _, j, _, hj, _, _ => absurd hj (by omega)
  | t + 1, i, j, k, hj, h1, h2 => by
    have ih := war_closed (R := R) t
    unfold war at h1 h2 ⊢
    generalize war R t = M at *
    by_cases e : j = t
    · subst e
      have a1 : M i j = true := by
        simp [warS] at h1
        exact h1.elim id And.left
      have a2 : M j k = true := by rwa [warS_row] at h2
      simp [warS, a1, a2]
    · have hj' : j < t := by omega
      simp [warS] at h1 h2 ⊢
      rcases h1 with h1 | ⟨h1, h1'⟩
      · rcases h2 with h2 | ⟨h2, h2'⟩
        · exact .inl (ih i j k hj' h1 h2)
        · exact .inr ⟨ih i j t hj' h1 h2, h2'⟩
      · rcases h2 with h2 | ⟨h2, h2'⟩
        · exact .inr ⟨h1, ih t j k hj' h1' h2⟩
        · exact .inr ⟨h1, h2'⟩
theorem war_way {R : Nat → Nat → Bool} {n : Nat} : ∀ t, t ≤ n → ∀ i k, i < n → k < n → war R t i k = true → Way R n i k
  | 0, _, i, k, hi, hk, h => .one hi hk h
  | t + 1, ht, i, k, hi, hk, h => by
    have ih := war_way (R := R) (n := n) t (by omega)
    unfold war at h
    simp [warS] at h
    rcases h with h | ⟨h1, h2⟩
    · exact ih i k hi hk h
    · exact (ih i t hi (by omega) h1).trans (ih t k (by omega) hk h2)
theorem way_war {R : Nat → Nat → Bool} {n i k : Nat} (h : Way R n i k) : war R n i k = true := by
  induction h with
  | one _ _ h => exact war_base h n
  | more h1 hk h ih => exact war_closed n _ _ _ (h1.lt).2 ih (war_base h n)
theorem war_iff {R : Nat → Nat → Bool} {n i k : Nat} (hi : i < n) (hk : k < n) : war R n i k = true ↔ Way R n i k := ⟨war_way n (Nat.le_refl _) i k hi hk, way_war⟩

/-- What comes ahead of what. -/
def aheadK (l : List Opn) : Nat → Nat → Bool := war (roadB l) l.length

/-! ### the first that there is -/

def firstN (f : Nat → Bool) (n : Nat) : Option Nat := (List.range n).find? f
theorem firstN_at {f : Nat → Bool} {n k : Nat} (hk : k < n) (ha : ∀ j, j < k → f j = false) (h : f k = true) : firstN f n = some k := by
  unfold firstN
  rw [List.find?_range_eq_some]
  exact ⟨h, List.mem_range.2 hk, fun j hj => by simp [ha j hj]⟩
theorem firstN_none {f : Nat → Bool} {n : Nat} (h : ∀ j, j < n → f j = false) : firstN f n = none := by
  unfold firstN
  rw [List.find?_eq_none]
  intro x hx
  simp [h x (List.mem_range.1 hx)]
theorem firstN_cases (f : Nat → Bool) (n : Nat) : (firstN f n = none ∧ ∀ j, j < n → f j = false) ∨ ∃ k, k < n ∧ firstN f n = some k ∧ f k = true ∧ ∀ j, j < k → f j = false := by
  cases h : firstN f n with
  | none =>
    unfold firstN at h
    rw [List.find?_eq_none] at h
    exact .inl ⟨rfl, fun j hj => by simpa using h j (List.mem_range.2 hj)⟩
  | some k =>
    unfold firstN at h
    rw [List.find?_range_eq_some] at h
    exact .inr ⟨k, List.mem_range.1 h.2.1, rfl, h.1, fun j hj => by simpa using h.2.2 j hj⟩
theorem firstN_congr {f g : Nat → Bool} {n : Nat} (h : ∀ j, j < n → f j = g j) : firstN f n = firstN g n := by
  rcases firstN_cases f n with ⟨e, ha⟩ | ⟨k, hk, e, hf, ha⟩
  · rw [e, firstN_none fun j hj => by rw [← h j hj]; exact ha j hj]
  · rw [e, firstN_at hk (fun j hj => by rw [← h j (by omega)]; exact ha j hj) (by rw [← h k hk]; exact hf)]

/-- The least two: the least first one, of it the least second one. -/
def firstP (P : Nat → Nat → Bool) (n : Nat) : Option (Nat × Nat) := (firstN (fun i => (firstN (P i) n).isSome) n).map fun i => (i, (firstN (P i) n).getD 0)
theorem firstP_at {P : Nat → Nat → Bool} {n i k : Nat} (hi : i < n) (hk : k < n) (ha : ∀ a, a < i → ∀ b, b < n → P a b = false) (hb : ∀ b, b < k → P i b = false) (h : P i k = true) : firstP P n = some (i, k) := by
  unfold firstP
  rw [firstN_at (k := i) hi (fun a h' => by rw [firstN_none (ha a h')]; rfl) (by rw [firstN_at hk hb h]; rfl), Option.map_some, firstN_at hk hb h]; rfl
theorem firstP_none {P : Nat → Nat → Bool} {n : Nat} (h : ∀ i, i < n → ∀ k, k < n → P i k = false) : firstP P n = none := by
  unfold firstP
  rw [firstN_none fun i hi => by rw [firstN_none (h i hi)]; rfl]; rfl
theorem firstP_cases (P : Nat → Nat → Bool) (n : Nat) : (firstP P n = none ∧ ∀ i, i < n → ∀ k, k < n → P i k = false) ∨
    ∃ i k, i < n ∧ k < n ∧ firstP P n = some (i, k) ∧ P i k = true ∧ (∀ a, a < i → ∀ b, b < n → P a b = false) ∧ ∀ b, b < k → P i b = false := by
  rcases firstN_cases (fun i => (firstN (P i) n).isSome) n with ⟨e, ha⟩ | ⟨i, hi, e, hf, ha⟩
  · refine .inl ⟨by unfold firstP; rw [e]; rfl, fun i hi => ?_⟩
    have := ha i hi
    rcases firstN_cases (P i) n with ⟨_, h⟩ | ⟨k, _, e', _⟩
    · exact h
    · rw [e'] at this; cases this
  · have hrow : ∀ a, a < i → ∀ b, b < n → P a b = false := fun a h' => by
      have := ha a h'
      rcases firstN_cases (P a) n with ⟨_, h⟩ | ⟨k, _, e', _⟩
      · exact h
      · rw [e'] at this; cases this
    rcases firstN_cases (P i) n with ⟨e', _⟩ | ⟨k, hk, e', hpk, hb⟩
    · rw [e'] at hf; cases hf
    · exact .inr ⟨i, k, hi, hk, firstP_at hi hk hrow hb hpk, hpk, hrow, hb⟩
theorem firstP_congr {P Q : Nat → Nat → Bool} {n : Nat} (h : ∀ i k, i < n → k < n → P i k = Q i k) : firstP P n = firstP Q n := by
  rcases firstP_cases P n with ⟨e, ha⟩ | ⟨i, k, hi, hk, e, hf, ha, hb⟩
  · rw [e, firstP_none fun i hi k hk => by rw [← h i k hi hk]; exact ha i hi k hk]
  · rw [e, firstP_at hi hk (fun a h' b hb' => by rw [← h a b (by omega) hb']; exact ha a h' b hb') (fun b h' => by rw [← h i b hi (by omega)]; exact hb b h') (by rw [← h i k hi hk]; exact hf)]

/-! ### what can't be -/

def rwB (l : List Opn) (i k : Nat) : Bool := (opZ l i).d == 1 && ((opZ l k).d == 2 && (opZ l k).k == (opZ l i).k)
def empB (l : List Opn) (A : Nat → Nat → Bool) (i k : Nat) : Bool := rwB l i k && ((opZ l i).r == 0 && A k i)
def staB (l : List Opn) (A : Nat → Nat → Bool) (i k : Nat) : Bool := rwB l i k && (srcK l (opZ l i) != -1 && (A (srcK l (opZ l i)).toNat k && A k i))
def pairK (c : Int) (p : Nat × Nat) : Int × Int × Int := (c, (p.1 : Int), (p.2 : Int))
def findsK (l : List Opn) : Int × Int × Int :=
  match firstN (thinB l) l.length with
  | some i => pairK 1 (i, i)
  | none => match firstN (fun i => aheadK l i i) l.length with
    | some i => pairK 2 (i, i)
    | none => match firstP (empB l (aheadK l)) l.length with
      | some p => pairK 3 p
      | none => match firstP (staB l (aheadK l)) l.length with
        | some p => pairK 4 p
        | none => (0, 0, 0)

/-! ### the document's own way -/

/-- The write that a read reads; -1: nobody's; -2: there is none. -/
def readsD (l : List Opn) (i : Nat) : Int :=
  if (opZ l i).d ≠ 1 ∨ (opZ l i).r = 0 then -1 else ((firstN (fun k => (opZ l k).d == 2 && ((opZ l k).k == (opZ l i).k && (opZ l k).a == (opZ l i).r)) l.length).map fun k : Nat => (k : Int)).getD (-2)
theorem readsD_src {l : List Opn} (ok : KOk l) {i : Nat} (hi : i < l.length) : (thinB l i = true → readsD l i = -2) ∧ (thinB l i = false → readsD l i = srcK l (opZ l i)) := by
  unfold readsD thinB
  by_cases hz : (opZ l i).d ≠ 1 ∨ (opZ l i).r = 0
  · rw [if_pos hz]
    have hr : (opZ l i).r = 0 := by
      rcases hz with h | h
      · exact (ok.write i hi ((ok.kind i hi).resolve_left h)).2
      · exact h
    exact ⟨fun h => by simp [hr] at h, fun _ => (srcK_zero ok hr).symm⟩
  · rw [if_neg hz]
    have hr : (opZ l i).r ≠ 0 := fun h => hz (.inr h)
    rcases srcK_cases l (opZ l i) with ⟨e, h⟩ | ⟨j, hj, e, h1, h2, h3⟩
    · have hn : firstN (fun k => (opZ l k).d == 2 && ((opZ l k).k == (opZ l i).k && (opZ l k).a == (opZ l i).r)) l.length = none := firstN_none fun k hk => by
        cases hx : ((opZ l k).d == 2 && ((opZ l k).k == (opZ l i).k && (opZ l k).a == (opZ l i).r))
        · rfl
        · simp at hx; exact absurd hx (h k hk)
      rw [hn, e]
      exact ⟨fun _ => rfl, fun h => by simp [hr] at h⟩
    · have hn : firstN (fun k => (opZ l k).d == 2 && ((opZ l k).k == (opZ l i).k && (opZ l k).a == (opZ l i).r)) l.length = some j := firstN_at hj (fun k hk => by
        cases hx : ((opZ l k).d == 2 && ((opZ l k).k == (opZ l i).k && (opZ l k).a == (opZ l i).r))
        · rfl
        · simp at hx
          have := ok.once k j (by omega) hj hx.1 h1 (hx.2.1.trans h2.symm) (hx.2.2.trans h3.symm)
          omega) (by simp [h1, h2, h3])
      rw [hn, e]
      exact ⟨fun h => by simp at h, fun _ => rfl⟩
theorem readsD_thin {l : List Opn} (ok : KOk l) {i : Nat} (hi : i < l.length) : (readsD l i == -2) = thinB l i := by
  obtain ⟨h1, h2⟩ := readsD_src ok hi
  cases h : thinB l i
  · rw [h2 h]
    have := (srcK_ge l (opZ l i)).1
    simp; omega
  · rw [h1 h]; rfl
def roadD (l : List Opn) (i k : Nat) : Bool := ((opZ l i).p == (opZ l k).p && decide ((opZ l i).c < (opZ l k).c)) || readsD l k == (i : Int)
theorem roadD_road {l : List Opn} (ok : KOk l) {i k : Nat} (hk : k < l.length) : roadD l i k = roadB l i k := by
  unfold roadD roadB
  congr 1
  obtain ⟨h1, h2⟩ := readsD_src ok hk
  cases h : thinB l k
  · rw [h2 h]
  · rw [h1 h]
    have : srcK l (opZ l k) = -1 := by simp [thinB] at h; exact h.2
    rw [this]
    rw [show ((-2 : Int) == (i : Int)) = false from by simp, show ((-1 : Int) == (i : Int)) = false from by simp]
theorem way_congr {R S : Nat → Nat → Bool} {n : Nat} (h : ∀ i k, i < n → k < n → R i k = S i k) {i k : Nat} (hw : Way R n i k) : Way S n i k := by
  induction hw with
  | one hi hk e => exact .one hi hk (by rw [← h _ _ hi hk]; exact e)
  | more h1 hk e ih => exact .more ih hk (by rw [← h _ _ h1.lt.2 hk]; exact e)
/-- What a walk over the document's roads tells is what comes ahead. -/
theorem aheadK_of {l : List Opn} (ok : KOk l) {A : Nat → Nat → Bool} (hA : ∀ i k, i < l.length → k < l.length → (A i k = true ↔ Way (roadD l) l.length i k)) {i k : Nat} (hi : i < l.length) (hk : k < l.length) : A i k = aheadK l i k := by
  have h1 := hA i k hi hk
  have h2 := war_iff (R := roadB l) hi hk
  have h3 : Way (roadD l) l.length i k ↔ Way (roadB l) l.length i k := ⟨way_congr fun a b _ hb => roadD_road ok hb, way_congr fun a b _ hb => (roadD_road ok hb).symm⟩
  unfold aheadK
  cases ha : A i k
  · cases hb : war (roadB l) l.length i k
    · rfl
    · rw [h1.2 (h3.2 (h2.1 hb))] at ha; cases ha
  · exact (h2.2 (h3.1 (h1.1 ha))).symm

def bothD (l : List Opn) (A : Nat → Nat → Bool) (c : Int) (i k : Nat) : Bool :=
  ((opZ l i).d == 1 && ((opZ l k).d == 2 && ((opZ l k).k == (opZ l i).k && A k i))) && ((c == 3 && readsD l i == -1) || (c == 4 && (decide (0 ≤ readsD l i) && ((k : Int) != readsD l i && A (readsD l i).toNat k))))
def findsD (l : List Opn) (A : Nat → Nat → Bool) : Int × Int × Int :=
  match firstN (fun i => readsD l i == -2) l.length with
  | some i => pairK 1 (i, i)
  | none => match firstN (fun i => A i i) l.length with
    | some i => pairK 2 (i, i)
    | none => match firstP (bothD l A 3) l.length with
      | some p => pairK 3 p
      | none => match firstP (bothD l A 4) l.length with
        | some p => pairK 4 p
        | none => (0, 0, 0)
theorem findsD_eq {l : List Opn} (ok : KOk l) {A : Nat → Nat → Bool} (hA : ∀ i k, i < l.length → k < l.length → (A i k = true ↔ Way (roadD l) l.length i k)) : findsD l A = findsK l := by
  have hAK : ∀ i k, i < l.length → k < l.length → A i k = aheadK l i k := fun i k hi hk => aheadK_of ok hA hi hk
  unfold findsD findsK
  rw [firstN_congr fun i hi => readsD_thin ok hi]
  rcases firstN_cases (thinB l) l.length with ⟨e, hth⟩ | ⟨i, _, e, _⟩
  · rw [e]
    simp only
    rw [firstN_congr (f := fun i => A i i) (g := fun i => aheadK l i i) fun i hi => hAK i i hi hi]
    rcases firstN_cases (fun i => aheadK l i i) l.length with ⟨e, hr⟩ | ⟨i, _, e, _⟩
    · rw [e]
      simp only
      have hsrc : ∀ i, i < l.length → readsD l i = srcK l (opZ l i) := fun i hi => (readsD_src ok hi).2 (hth i hi)
      rw [firstP_congr (P := bothD l A 3) (Q := empB l (aheadK l)) fun i k hi hk => by
        unfold bothD empB rwB
        rw [hAK k i hk hi, hsrc i hi]
        cases h1 : (opZ l i).d == 1
        · simp
        · have : (srcK l (opZ l i) == -1) = ((opZ l i).r == 0) := by
            by_cases hz : (opZ l i).r = 0
            · rw [srcK_zero ok hz, hz]; rfl
            · have := hth i hi
              simp [thinB, hz] at this
              rw [show ((opZ l i).r == 0) = false from by simp [hz]]
              simp [this]
          rw [this]
          cases (opZ l k).d == 2 <;> cases (opZ l k).k == (opZ l i).k <;> cases aheadK l k i <;> cases (opZ l i).r == 0 <;> rfl]
      rw [firstP_congr (P := bothD l A 4) (Q := staB l (aheadK l)) fun i k hi hk => by
        unfold bothD staB rwB
        rw [hAK k i hk hi, hsrc i hi]
        rcases srcK_cases l (opZ l i) with ⟨e, _⟩ | ⟨j, hj, e, _⟩
        · rw [e]; simp
        · rw [e]
          have h1 : ((j : Int) != -1) = true := by simp
          have h2 : decide (0 ≤ (j : Int)) = true := by simp
          rw [h1, h2, Int.toNat_natCast, hAK j k hj hk]
          have h3 : (((k : Int) != (j : Int)) && aheadK l j k) = aheadK l j k := by
            by_cases e : k = j
            · subst e
              rw [hr k hk]; simp
            · have : ((k : Int) != (j : Int)) = true := by simp; omega
              rw [this]; rfl
          rw [h3]
          cases (opZ l i).d == 1 <;> cases (opZ l k).d == 2 <;> cases (opZ l k).k == (opZ l i).k <;> cases aheadK l k i <;> cases aheadK l j k <;> rfl]
    · rw [e]
  · rw [e]

/-! ### a walk over roads, from one -/

/-- What a walk from 'a' keeps: what was seen can be come to; of each that was seen, or where it began, all next ones were seen, or it is still to do (of the one at hand: those below m). -/
structure WalkT (R : Nat → Nat → Bool) (n a : Nat) (S : Nat → Bool) (todo : List Nat) : Prop where
  seen : ∀ k, k < n → S k = true → Way R n a k
  mem : ∀ x ∈ todo, x < n ∧ (x = a ∨ S x = true)
  done : ∀ x, x < n → (x = a ∨ S x = true) → x ∈ todo ∨ ∀ k, k < n → R x k = true → S k = true
theorem WalkT.begin {R : Nat → Nat → Bool} {n a : Nat} (ha : a < n) : WalkT R n a (fun _ => false) [a] :=
  ⟨fun _ _ h => (by cases h), fun x hx => by simp at hx; subst hx; exact ⟨ha, .inl rfl⟩, fun x _ h => by
    rcases h with rfl | h
    · exact .inl (by simp)
    · cases h⟩
theorem WalkT.over {R : Nat → Nat → Bool} {n a : Nat} {S : Nat → Bool} (h : WalkT R n a S []) {k : Nat} (hk : k < n) : S k = true ↔ Way R n a k := by
  refine ⟨h.seen k hk, fun hw => ?_⟩
  have hd : ∀ x, x < n → (x = a ∨ S x = true) → ∀ k, k < n → R x k = true → S k = true := fun x hx hs => (h.done x hx hs).resolve_left (by simp)
  clear hk
  induction hw with
  | one hi hk e => exact hd _ hi (.inl rfl) _ hk e
  | more h1 hk e ih => exact hd _ h1.lt.2 (.inr ih) _ hk e

/-- The one at hand, i: its next ones below m were seen. -/
structure WalkM (R : Nat → Nat → Bool) (n a i m : Nat) (S : Nat → Bool) (todo : List Nat) : Prop where
  hand : i < n ∧ (i = a ∨ S i = true)
  seen : ∀ k, k < n → S k = true → Way R n a k
  mem : ∀ x ∈ todo, x < n ∧ (x = a ∨ S x = true)
  done : ∀ x, x < n → (x = a ∨ S x = true) → x ∈ todo ∨ x = i ∨ ∀ k, k < n → R x k = true → S k = true
  next : ∀ k, k < m → R i k = true → S k = true
theorem WalkT.take {R : Nat → Nat → Bool} {n a i : Nat} {S : Nat → Bool} {todo : List Nat} (h : WalkT R n a S (i :: todo)) : WalkM R n a i 0 S todo :=
  ⟨h.mem i (by simp), h.seen, fun x hx => h.mem x (by simp [hx]), fun x hx hs => by
    rcases h.done x hx hs with hm | hm
    · rcases List.mem_cons.1 hm with hm | hm
      · exact .inr (.inl hm)
      · exact .inl hm
    · exact .inr (.inr hm), fun k hk => absurd hk (by omega)⟩
theorem WalkM.close {R : Nat → Nat → Bool} {n a i : Nat} {S : Nat → Bool} {todo : List Nat} (h : WalkM R n a i n S todo) : WalkT R n a S todo :=
  ⟨h.seen, h.mem, fun x hx hs => by
    rcases h.done x hx hs with hm | hm | hm
    · exact .inl hm
    · subst hm; exact .inr h.next
    · exact .inr hm⟩
theorem WalkM.skip {R : Nat → Nat → Bool} {n a i m : Nat} {S : Nat → Bool} {todo : List Nat} (h : WalkM R n a i m S todo) (hs : (R i m && !S m) = false) : WalkM R n a i (m + 1) S todo :=
  ⟨h.hand, h.seen, h.mem, h.done, fun k hk e => by
    by_cases hkm : k = m
    · subst hkm
      rw [e] at hs; simpa using hs
    · exact h.next k (by omega) e⟩
def putB (S : Nat → Bool) (m : Nat) : Nat → Bool := fun k => if k = m then true else S k
theorem putB_same (S : Nat → Bool) (m : Nat) : putB S m m = true := by simp [putB]
theorem putB_other (S : Nat → Bool) {m k : Nat} (h : k ≠ m) : putB S m k = S k := by simp [putB, h]
theorem putB_up {S : Nat → Bool} {m k : Nat} (h : S k = true) : putB S m k = true := by simp [putB, h]
theorem WalkM.go {R : Nat → Nat → Bool} {n a i m : Nat} {S : Nat → Bool} {todo : List Nat} (h : WalkM R n a i m S todo) (hm : m < n) (hs : (R i m && !S m) = true) : WalkM R n a i (m + 1) (putB S m) (todo ++ [m]) := by
  simp at hs
  have up : ∀ x, (x = a ∨ S x = true) → (x = a ∨ putB S m x = true) := fun x hx => hx.imp id putB_up
  refine ⟨⟨h.hand.1, up _ h.hand.2⟩, fun k hk e => ?_, fun x hx => ?_, fun x hx hsx => ?_, fun k hk e => ?_⟩
  · by_cases hkm : k = m
    · subst hkm
      rcases h.hand.2 with e | e
      · subst e; exact .one h.hand.1 hk hs.1
      · exact .more (h.seen _ h.hand.1 e) hk hs.1
    · rw [putB_other _ hkm] at e; exact h.seen k hk e
  · rcases List.mem_append.1 hx with hx | hx
    · exact ⟨(h.mem x hx).1, up _ (h.mem x hx).2⟩
    · simp at hx; subst hx; exact ⟨hm, .inr (putB_same _ _)⟩
  · by_cases hxm : x = m
    · subst hxm; exact .inl (by simp)
    · rw [putB_other _ hxm] at hsx
      rcases h.done x hx hsx with h1 | h1 | h1
      · exact .inl (List.mem_append.2 (.inl h1))
      · exact .inr (.inl h1)
      · exact .inr (.inr fun k hk e => putB_up (h1 k hk e))
  · by_cases hkm : k = m
    · subst hkm; exact putB_same _ _
    · exact putB_up (h.next k (by omega) e)
/-- How many were not seen yet. -/
def leftN (S : Nat → Bool) : Nat → Nat
  | 0 => 0
  | n + 1 => leftN S n + (if S n then 0 else 1)
theorem leftN_le (S : Nat → Bool) : ∀ n, leftN S n ≤ n
  | 0 => Nat.le_refl _
  | n + 1 => by have := leftN_le S n; unfold leftN; split <;> omega
theorem leftN_put {S : Nat → Bool} {m : Nat} (hs : S m = false) : ∀ n, (n ≤ m → leftN (putB S m) n = leftN S n) ∧ (m < n → leftN (putB S m) n + 1 = leftN S n)
  | 0 => ⟨fun _ => rfl, fun h => absurd h (by omega)⟩
  | n + 1 => by
    obtain ⟨h1, h2⟩ := leftN_put hs n
    unfold leftN
    refine ⟨fun h => ?_, fun h => ?_⟩
    · rw [h1 (by omega), putB_other S (by omega)]
    · by_cases e : n = m
      · subst e
        rw [h1 (Nat.le_refl _), putB_same, hs]; simp
      · rw [putB_other S e, ← h2 (by omega)]; omega
end Go.Proofs.YtaopigjhdkdklaaDoor
