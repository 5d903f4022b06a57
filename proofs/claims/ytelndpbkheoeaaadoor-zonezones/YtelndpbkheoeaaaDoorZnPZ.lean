/-
  Chapter 5 in plain Lean: what is told of ops that a register's zones are asked of, the spans of values, the zones, which two don't fit.
  The spans of values, their zones, and the list of these, in plain Lean.
  Chapter 6 in plain Lean: the lives of values, which pairs can't be, and that the least of what is gathered is the least of all.
-/
import Derived.Test.YtelndpbkheoeaaaDoorPlainAZ
namespace Go.Proofs.YtelndpbkheoeaaaDoor

def opZ (l : List Opn) (i : Nat) : Opn := l.getD i ⟨0, 0, 0, 0, 0, 0, 0, 0⟩
theorem opZ_at {l : List Opn} {i : Nat} (h : i < l.length) : opZ l i = l[i] := by simp [opZ, h]
def putK {α : Type} (S : Int → α) (q : Int) (x : α) : Int → α := fun p => if p = q then x else S p
theorem putK_same {α : Type} (S : Int → α) (q : Int) (x : α) : putK S q x q = x := by simp [putK]
theorem putK_other {α : Type} (S : Int → α) (q : Int) (x : α) (p : Int) (h : p ≠ q) : putK S q x p = S p := by simp [putK, h]

/-- The first number that isn't 0. -/
def First (f : Nat → Int) (N : Nat) (n : Int) : Prop :=
  ((∀ j, j < N → f j = 0) ∧ n = 0) ∨ ∃ k, k < N ∧ (∀ j, j < k → f j = 0) ∧ f k ≠ 0 ∧ n = f k
theorem First.one {f : Nat → Int} {N : Nat} {n m : Int} (h1 : First f N n) (h2 : First f N m) : n = m := by
  rcases h1 with ⟨a, rfl⟩ | ⟨k, hk, a, hne, rfl⟩
  · rcases h2 with ⟨_, rfl⟩ | ⟨k', hk', _, hne', rfl⟩
    · rfl
    · exact absurd (a k' hk') hne'
  · rcases h2 with ⟨b, rfl⟩ | ⟨k', hk', b, hne', rfl⟩
    · exact absurd (b k hk) hne
    · rcases Nat.lt_trichotomy k k' with h | h | h
      · exact absurd (b k h) hne
      · subst h; rfl
      · exact absurd (a k' h) hne'
theorem First.zero {f : Nat → Int} {N : Nat} (h : First f N 0) : ∀ j, j < N → f j = 0 := by
  rcases h with ⟨a, _⟩ | ⟨k, _, _, hne, e⟩
  · exact a
  · exact absurd e.symm hne

/-- Of one op behind others: its key and form, then whether it brings what one ahead brought. -/
def cFaultN (form : Opn → Bool) (d0 k0 : Int) (l : List Opn) (x : Opn) : Int :=
  if x.k == k0 && form x then (if x.d == d0 && l.any (fun y => y.d == d0 && y.a == x.a) then 9 else 0) else 3
def cFaultAt (form : Opn → Bool) (d0 : Int) (l : List Opn) (j : Nat) : Int := cFaultN form d0 (opZ l 0).k (l.take j) (opZ l j)
/-- What Check tells. -/
def CTold (form : Opn → Bool) (d0 : Int) (l : List Opn) (n : Int) : Prop :=
  ∃ m, Told l m ∧ ((m ≠ 0 ∧ n = m) ∨ (m = 0 ∧ First (cFaultAt form d0 l) l.length n))
theorem CTold.one {form : Opn → Bool} {d0 : Int} {l : List Opn} {n m : Int} (h1 : CTold form d0 l n) (h2 : CTold form d0 l m) : n = m := by
  obtain ⟨x, tx, h1⟩ := h1
  obtain ⟨y, ty, h2⟩ := h2
  obtain rfl := told_one tx ty
  rcases h1 with ⟨a, rfl⟩ | ⟨a, f⟩
  · rcases h2 with ⟨_, rfl⟩ | ⟨b, _⟩
    · rfl
    · exact absurd b a
  · rcases h2 with ⟨b, _⟩ | ⟨_, g⟩
    · exact absurd a b
    · exact f.one g

theorem CTold.zero {form : Opn → Bool} {d0 : Int} {l : List Opn} (h : CTold form d0 l 0) : Told l 0 ∧ ∀ j, j < l.length → cFaultAt form d0 l j = 0 := by
  obtain ⟨m, t, h⟩ := h
  rcases h with ⟨a, rfl⟩ | ⟨rfl, f⟩
  · exact absurd rfl a
  · exact ⟨t, f.zero⟩
theorem cFault_zero {form : Opn → Bool} {d0 k0 : Int} {l : List Opn} {x : Opn} (h : cFaultN form d0 k0 l x = 0) :
    x.k = k0 ∧ form x = true ∧ ¬ (x.d = d0 ∧ ∃ y ∈ l, y.d = d0 ∧ y.a = x.a) := by
  unfold cFaultN at h
  split at h
  · next hf =>
    split at h
    · cases h
    · next hn =>
      simp at hf hn
      exact ⟨hf.1, hf.2, fun ⟨e, y, hy, h1, h2⟩ => hn e y hy h1 h2⟩
  · cases h

/-- A read or a write that came to its end. -/
def zFormB (x : Opn) : Bool := if x.d = 1 then decide (0 ≤ x.e) else if x.d = 2 then decide (0 ≤ x.e) && x.a != 0 && x.r == 0 else false

/-- What is known of ops that may be looked at. -/
structure ZOk (l : List Opn) : Prop where
  few : l.length ≤ 40
  key : ∀ i, i < l.length → (opZ l i).k = (opZ l 0).k
  kind : ∀ i, i < l.length → (opZ l i).d = 1 ∨ (opZ l i).d = 2
  back : ∀ i, i < l.length → 0 ≤ (opZ l i).c ∧ (opZ l i).c < (opZ l i).e
  write : ∀ i, i < l.length → (opZ l i).d = 2 → (opZ l i).a ≠ 0 ∧ (opZ l i).r = 0
  once : ∀ i j, i < l.length → j < l.length → (opZ l i).d = 2 → (opZ l j).d = 2 → (opZ l i).a = (opZ l j).a → i = j
  rise : ∀ i j, i < j → j < l.length → (opZ l i).c < (opZ l j).c
  cc : ∀ i j, i < l.length → j < l.length → i ≠ j → (opZ l i).c ≠ (opZ l j).c
  ce : ∀ i j, i < l.length → j < l.length → i ≠ j → (opZ l i).c ≠ (opZ l j).e
  ee : ∀ i j, i < l.length → j < l.length → i ≠ j → (opZ l i).e ≠ (opZ l j).e
  num : ∀ i, i < l.length → (-1000000 ≤ (opZ l i).a ∧ (opZ l i).a ≤ 1000000) ∧ (-1000000 ≤ (opZ l i).r ∧ (opZ l i).r ≤ 1000000) ∧ (opZ l i).c ≤ 1000000 ∧ (opZ l i).e ≤ 1000000

theorem toldNil {l : List Opn} (h : Told l 0) : l.length ≤ 40 ∧ ∀ j, j < l.length → opFaultN (l.take j) (opZ l j) = 0 := by
  rcases h with ⟨_, e⟩ | ⟨h1, h2, _⟩ | ⟨_, k, hk, _, hne, e⟩
  · cases e
  · exact ⟨h1, fun j hj => by rw [opZ_at hj]; exact h2 j hj⟩
  · exact absurd e.symm hne

theorem opFault0 {l : List Opn} {x : Opn} (h : opFaultN l x = 0) : rangeB x = true ∧ kindB x.d = true ∧ orderB l x = true ∧ (∀ y ∈ l, shareB y x = false) ∧ (∀ y ∈ l, clashB y x = false) := by
  unfold opFaultN at h
  split at h
  · next h1 =>
    split at h
    · next h2 =>
      split at h
      · next h3 =>
        split at h
        · cases h
        · next h4 =>
          split at h
          · cases h
          · next h5 =>
            refine ⟨h1, h2, h3, fun y hy => ?_, fun y hy => ?_⟩
            · cases hs : shareB y x
              · rfl
              · exact absurd (List.any_eq_true.2 ⟨y, hy, hs⟩) h4
            · cases hs : clashB y x
              · rfl
              · exact absurd (List.any_eq_true.2 ⟨y, hy, hs⟩) h5
      · cases h
    · cases h
  · cases h

theorem mem_take {l : List Opn} {i j : Nat} (hij : i < j) (hj : j < l.length) : opZ l i ∈ l.take j := by
  rw [opZ_at (Nat.lt_trans hij hj)]
  exact List.mem_take_iff_getElem.2 ⟨i, by omega, rfl⟩

theorem rise_next {l : List Opn} (h : ∀ j, j < l.length → opFaultN (l.take j) (opZ l j) = 0) (j : Nat) (hj : j + 1 < l.length) : (opZ l j).c < (opZ l (j + 1)).c := by
  have h3 := (opFault0 (h (j + 1) hj)).2.2.1
  unfold orderB lastOk at h3
  have hl : (l.take (j + 1)).getLast? = some (opZ l j) := by
    rw [List.getLast?_eq_getElem?, List.length_take, Nat.min_eq_left (by omega), List.getElem?_take, if_pos (by omega), opZ_at (by omega)]
    simp
  rw [hl] at h3
  simp at h3
  exact h3.1.2
theorem rise_all {l : List Opn} (h : ∀ j, j < l.length → opFaultN (l.take j) (opZ l j) = 0) : ∀ d i, i + d + 1 < l.length → (opZ l i).c < (opZ l (i + d + 1)).c
  | 0, i, hi => rise_next h i hi
  | d + 1, i, hi => Int.lt_trans (rise_all h d i (by omega)) (rise_next h (i + d + 1) hi)

theorem zOk_of {l : List Opn} (h : CTold zFormB 2 l 0) : ZOk l := by
  obtain ⟨t, hc⟩ := h.zero
  obtain ⟨hlen, ho⟩ := toldNil t
  have hf : ∀ j, j < l.length → zFormB (opZ l j) = true := fun j hj => (cFault_zero (hc j hj)).2.1
  have hform : ∀ j, j < l.length → ((opZ l j).d = 1 ∨ (opZ l j).d = 2) ∧ 0 ≤ (opZ l j).e ∧ ((opZ l j).d = 2 → (opZ l j).a ≠ 0 ∧ (opZ l j).r = 0) := fun j hj => by
    have := hf j hj
    unfold zFormB at this
    split at this
    · next e => simp at this; exact ⟨.inl e, this, fun k => by omega⟩
    · split at this
      · next e => simp at this; exact ⟨.inr e, this.1.1, fun _ => ⟨this.1.2, this.2⟩⟩
      · cases this
  have hlt : ∀ i j, i < j → j < l.length → (opZ l i).c < (opZ l j).c := fun i j hij hj => by
    have := rise_all ho (j - i - 1) i (by omega)
    rwa [show i + (j - i - 1) + 1 = j from by omega] at this
  have hsh : ∀ i j, i < j → j < l.length → (opZ l i).c ≠ (opZ l j).c ∧ (opZ l i).e ≠ (opZ l j).c ∧ (opZ l i).c ≠ (opZ l j).e ∧ (opZ l i).e ≠ (opZ l j).e := fun i j hij hj => by
    have h4 := (opFault0 (ho j hj)).2.2.2.1 _ (mem_take hij hj)
    have he := (hform j hj).2.1
    unfold shareB hasB at h4
    simp at h4
    obtain ⟨⟨a, b⟩, c⟩ := h4
    have := c (by omega)
    exact ⟨a, b, this.1, this.2⟩
  refine ⟨hlen, fun i hi => (cFault_zero (hc i hi)).1, fun i hi => (hform i hi).1, fun i hi => ?_, fun i hi hd => (hform i hi).2.2 hd, fun i j hi hj hd hd' e => ?_, hlt, fun i j hi hj hne => ?_, fun i j hi hj hne => ?_, fun i j hi hj hne => ?_, fun i hi => ?_⟩
  · have h3 := (opFault0 (ho i hi)).2.2.1
    have he := (hform i hi).2.1
    unfold orderB at h3
    rw [if_neg (by omega)] at h3
    simp at h3
    exact ⟨h3.1.1, h3.2⟩
  · rcases Nat.lt_trichotomy i j with hl | hl | hl
    · exact absurd ⟨hd', _, mem_take hl hj, hd, e⟩ (cFault_zero (hc j hj)).2.2
    · exact hl
    · exact absurd ⟨hd, _, mem_take hl hi, hd', e.symm⟩ (cFault_zero (hc i hi)).2.2
  · rcases Nat.lt_or_gt_of_ne hne with hl | hl
    · exact (hsh i j hl hj).1
    · exact (hsh j i hl hi).1.symm
  · rcases Nat.lt_or_gt_of_ne hne with hl | hl
    · exact (hsh i j hl hj).2.2.1
    · exact (hsh j i hl hi).2.1.symm
  · rcases Nat.lt_or_gt_of_ne hne with hl | hl
    · exact (hsh i j hl hj).2.2.2
    · exact (hsh j i hl hi).2.2.2.symm
  · have h1 := (opFault0 (ho i hi)).1
    simp [rangeB, inB, numB] at h1
    omega

end Go.Proofs.YtelndpbkheoeaaaDoor

namespace Go.Proofs.YtelndpbkheoeaaaDoor

structure Span where
  w : Int
  e : Int
  b : Int
structure Zon where
  v : Int
  lo : Int
  hi : Int
  fw : Bool
def zonOf (v : Int) (s : Span) : Zon := ⟨v, min s.e s.b, max s.e s.b, decide (s.e < s.b)⟩
def Span.more (s : Span) (x : Opn) : Span := ⟨s.w, min s.e x.e, max s.b x.c⟩

/-- The spans by the first k writes. -/
def spW (l : List Opn) : Nat → Int → Option Span
  | 0 => putK (fun _ => none) 0 (some ⟨-2, -1, -2⟩)
  | k + 1 => if (opZ l k).d = 2 then putK (spW l k) (opZ l k).a (some ⟨(opZ l k).c, (opZ l k).e, (opZ l k).c⟩) else spW l k
/-- What a read can't have read: none wrote it, or it came back ahead of its write's call. -/
def noneB (f : Int → Option Span) (x : Opn) : Bool := match f x.r with
  | none => true
  | some s => decide (x.e < s.w)
def moreAt (f : Int → Option Span) (x : Opn) : Int → Option Span := match f x.r with
  | none => f
  | some s => putK f x.r (some (s.more x))
/-- .. and by the first k reads. -/
def spR (l : List Opn) : Nat → Int → Option Span
  | 0 => spW l l.length
  | k + 1 => if (opZ l k).d = 1 then moreAt (spR l k) (opZ l k) else spR l k

def valO (x : Opn) : Int := if x.d = 2 then x.a else x.r
/-- The least return, the greatest call of the first k that write or read a value. -/
def leastE (l : List Opn) (v e0 : Int) : Nat → Int
  | 0 => e0
  | k + 1 => if valO (opZ l k) = v then min (leastE l v e0 k) (opZ l k).e else leastE l v e0 k
def mostB (l : List Opn) (v b0 : Int) : Nat → Int
  | 0 => b0
  | k + 1 => if valO (opZ l k) = v then max (mostB l v b0 k) (opZ l k).c else mostB l v b0 k

theorem leastE_le (l : List Opn) (v e0 : Int) : ∀ k, leastE l v e0 k ≤ e0
  | 0 => Int.le_refl _
  | k + 1 => by have := leastE_le l v e0 k; unfold leastE; split <;> omega
theorem mostB_ge (l : List Opn) (v b0 : Int) : ∀ k, b0 ≤ mostB l v b0 k
  | 0 => Int.le_refl _
  | k + 1 => by have := mostB_ge l v b0 k; unfold mostB; split <;> omega

section
variable {l : List Opn} (ok : ZOk l)
include ok

/-- Who wrote what is in the spans. -/
theorem spW_iff : ∀ k, k ≤ l.length → ∀ v s, spW l k v = some s ↔ (v = 0 ∧ s = ⟨-2, -1, -2⟩) ∨ ∃ i, i < k ∧ (opZ l i).d = 2 ∧ (opZ l i).a = v ∧ s = ⟨(opZ l i).c, (opZ l i).e, (opZ l i).c⟩
  | 0, _, v, s => by
    unfold spW putK
    by_cases h : v = 0
    · simp [h]; exact eq_comm
    · simp [h]
  | k + 1, hk, v, s => by
    have ih := spW_iff k (by omega) v s
    unfold spW
    split
    · next hd =>
      have hw := ok.write k (by omega) hd
      unfold putK
      by_cases h : v = (opZ l k).a
      · rw [if_pos h]
        constructor
        · intro e; exact .inr ⟨k, by omega, hd, h.symm, (Option.some.inj e).symm⟩
        · rintro (⟨e, _⟩ | ⟨i, hi, hdi, ha, rfl⟩)
          · exact absurd (h.symm.trans e) hw.1
          · obtain rfl := ok.once i k (by omega) (by omega) hdi hd (ha.trans h)
            rfl
      · rw [if_neg h, ih]
        constructor
        · rintro (e | ⟨i, hi, r⟩)
          · exact .inl e
          · exact .inr ⟨i, by omega, r⟩
        · rintro (e | ⟨i, hi, hdi, ha, r⟩)
          · exact .inl e
          · by_cases e : i = k
            · subst e; exact absurd ha.symm h
            · exact .inr ⟨i, by omega, hdi, ha, r⟩
    · next hd =>
      rw [ih]
      constructor
      · rintro (e | ⟨i, hi, r⟩)
        · exact .inl e
        · exact .inr ⟨i, by omega, r⟩
      · rintro (e | ⟨i, hi, hdi, r⟩)
        · exact .inl e
        · by_cases e : i = k
          · subst e; exact absurd hdi hd
          · exact .inr ⟨i, by omega, hdi, r⟩

/-- A write's own times are in its span already. -/
theorem spW_own {k : Nat} (hk : k < l.length) (hd : (opZ l k).d = 2) {s : Span} (h : spW l l.length (opZ l k).a = some s) : s = ⟨(opZ l k).c, (opZ l k).e, (opZ l k).c⟩ := by
  rcases (spW_iff ok l.length (Nat.le_refl _) _ _).1 h with ⟨e, _⟩ | ⟨i, hi, hdi, ha, rfl⟩
  · exact absurd e (ok.write k hk hd).1
  · obtain rfl := ok.once i k hi hk hdi hd ha
    rfl

/-- The spans behind k reads: by the first k ops of each value. -/
theorem spR_eq : ∀ k, k ≤ l.length → ∀ v, spR l k v = (spW l l.length v).map fun s => ⟨s.w, leastE l v s.e k, mostB l v s.b k⟩
  | 0, _, v => by
    show spW l l.length v = _
    cases spW l l.length v <;> rfl
  | k + 1, hk, v => by
    have ih := spR_eq k (by omega)
    unfold spR
    rcases ok.kind k (by omega) with hd | hd
    · rw [if_pos hd]
      have hv : valO (opZ l k) = (opZ l k).r := by unfold valO; rw [if_neg (by omega)]
      unfold moreAt
      rw [ih (opZ l k).r]
      by_cases e : v = (opZ l k).r
      · subst e
        cases hs : spW l l.length (opZ l k).r with
        | none => simp [ih, hs]
        | some s =>
          have e1 : leastE l (opZ l k).r s.e (k + 1) = min (leastE l (opZ l k).r s.e k) (opZ l k).e := by rw [leastE, if_pos hv]
          have e2 : mostB l (opZ l k).r s.b (k + 1) = max (mostB l (opZ l k).r s.b k) (opZ l k).c := by rw [mostB, if_pos hv]
          simp only [Option.map_some, putK_same, Span.more, e1, e2]
      · have h2 : ¬ valO (opZ l k) = v := fun e' => e (by rw [← e', hv])
        have hgoal : spR l k v = (spW l l.length v).map fun s => ⟨s.w, leastE l v s.e (k + 1), mostB l v s.b (k + 1)⟩ := by
          rw [ih v]
          cases spW l l.length v with
          | none => rfl
          | some s =>
            have e1 : leastE l v s.e (k + 1) = leastE l v s.e k := by rw [leastE, if_neg h2]
            have e2 : mostB l v s.b (k + 1) = mostB l v s.b k := by rw [mostB, if_neg h2]
            simp only [Option.map_some, e1, e2]
        cases hs : spW l l.length (opZ l k).r with
        | none => simpa using hgoal
        | some s => simp only [Option.map_some]; rw [putK_other _ _ _ _ e]; exact hgoal
    · rw [if_neg (by omega), ih v]
      have hv : valO (opZ l k) = (opZ l k).a := by unfold valO; rw [if_pos hd]
      cases hs : spW l l.length v with
      | none => rfl
      | some s =>
        simp only [Option.map_some]
        by_cases e : valO (opZ l k) = v
        · have := spW_own ok (k := k) (by omega) hd (by rw [← hv, e]; exact hs)
          subst this
          have h1 := leastE_le l v (opZ l k).e k
          have h2 := mostB_ge l v (opZ l k).c k
          have e1 : leastE l v (opZ l k).e (k + 1) = leastE l v (opZ l k).e k := by rw [leastE, if_pos e]; omega
          have e2 : mostB l v (opZ l k).c (k + 1) = mostB l v (opZ l k).c k := by rw [mostB, if_pos e]; omega
          simp only [e1, e2]
        · have e1 : leastE l v s.e (k + 1) = leastE l v s.e k := by rw [leastE, if_neg e]
          have e2 : mostB l v s.b (k + 1) = mostB l v s.b k := by rw [mostB, if_neg e]
          simp only [e1, e2]

/-- What a read reads: the spans' writes don't turn. -/
theorem noneB_eq {k : Nat} (hk : k ≤ l.length) (x : Opn) : noneB (spR l k) x = noneB (spW l l.length) x := by
  unfold noneB
  rw [spR_eq ok k hk]
  cases spW l l.length x.r <;> rfl

end

/-- The span of a value that is written, of all ops. -/
def spanO (l : List Opn) (v : Int) : Option Span := spR l l.length v

/-- The zones: those of all values, rising. -/
structure ZList (l : List Opn) (L : List Zon) : Prop where
  mem : ∀ z, z ∈ L ↔ ∃ s, spanO l z.v = some s ∧ z = zonOf z.v s
  sorted : L.Pairwise (fun x y => x.lo < y.lo)

theorem sorted_one : ∀ {L M : List Zon}, L.Pairwise (fun x y => x.lo < y.lo) → M.Pairwise (fun x y => x.lo < y.lo) → (∀ z, z ∈ L ↔ z ∈ M) → L = M
  | [], [], _, _, _ => rfl
  | [], b :: M, _, _, h => absurd ((h b).2 (List.mem_cons_self ..)) (by simp)
  | a :: L, [], _, _, h => absurd ((h a).1 (List.mem_cons_self ..)) (by simp)
  | a :: L, b :: M, hL, hM, h => by
    obtain ⟨h1, h2⟩ := List.pairwise_cons.1 hL
    obtain ⟨h3, h4⟩ := List.pairwise_cons.1 hM
    have e : a = b := by
      rcases List.mem_cons.1 ((h a).1 (List.mem_cons_self ..)) with e | ha
      · exact e
      · rcases List.mem_cons.1 ((h b).2 (List.mem_cons_self ..)) with e | hb
        · exact e.symm
        · have := h1 b hb; have := h3 a ha; omega
    subst e
    rw [sorted_one h2 h4 fun z => ?_]
    constructor
    · intro hz
      rcases List.mem_cons.1 ((h z).1 (List.mem_cons_of_mem _ hz)) with e | hz'
      · subst e; have := h1 z hz; omega
      · exact hz'
    · intro hz
      rcases List.mem_cons.1 ((h z).2 (List.mem_cons_of_mem _ hz)) with e | hz'
      · subst e; have := h3 z hz; omega
      · exact hz'
theorem ZList.one {l : List Opn} {L M : List Zon} (h1 : ZList l L) (h2 : ZList l M) : L = M :=
  sorted_one h1.sorted h2.sorted fun z => (h1.mem z).trans (h2.mem z).symm

section
variable {l : List Opn}

theorem leastE_from (v e0 : Int) : ∀ k, leastE l v e0 k = e0 ∨ ∃ i, i < k ∧ valO (opZ l i) = v ∧ leastE l v e0 k = (opZ l i).e
  | 0 => .inl rfl
  | k + 1 => by
    unfold leastE
    split
    · next h =>
      by_cases hm : leastE l v e0 k ≤ (opZ l k).e
      · rw [show min (leastE l v e0 k) (opZ l k).e = leastE l v e0 k from by omega]
        rcases leastE_from v e0 k with e | ⟨i, hi, r⟩
        · exact .inl e
        · exact .inr ⟨i, by omega, r⟩
      · exact .inr ⟨k, by omega, h, by omega⟩
    · rcases leastE_from v e0 k with e | ⟨i, hi, r⟩
      · exact .inl e
      · exact .inr ⟨i, by omega, r⟩
theorem mostB_from (v b0 : Int) : ∀ k, mostB l v b0 k = b0 ∨ ∃ i, i < k ∧ valO (opZ l i) = v ∧ mostB l v b0 k = (opZ l i).c
  | 0 => .inl rfl
  | k + 1 => by
    unfold mostB
    split
    · next h =>
      by_cases hm : (opZ l k).c ≤ mostB l v b0 k
      · rw [show max (mostB l v b0 k) (opZ l k).c = mostB l v b0 k from by omega]
        rcases mostB_from v b0 k with e | ⟨i, hi, r⟩
        · exact .inl e
        · exact .inr ⟨i, by omega, r⟩
      · exact .inr ⟨k, by omega, h, by omega⟩
    · rcases mostB_from v b0 k with e | ⟨i, hi, r⟩
      · exact .inl e
      · exact .inr ⟨i, by omega, r⟩
theorem leastE_at (v e0 : Int) : ∀ k i, i < k → valO (opZ l i) = v → leastE l v e0 k ≤ (opZ l i).e
  | 0, _, h, _ => absurd h (by omega)
  | k + 1, i, h, e => by
    unfold leastE
    by_cases hi : i = k
    · subst hi; rw [if_pos e]; omega
    · have := leastE_at v e0 k i (by omega) e
      split <;> omega
theorem mostB_at (v b0 : Int) : ∀ k i, i < k → valO (opZ l i) = v → (opZ l i).c ≤ mostB l v b0 k
  | 0, _, h, _ => absurd h (by omega)
  | k + 1, i, h, e => by
    unfold mostB
    by_cases hi : i = k
    · subst hi; rw [if_pos e]; omega
    · have := mostB_at v b0 k i (by omega) e
      split <;> omega

/-- The edges of a value's span: times of ops that write or read it; of 0 the least return is -1. -/
structure Edges (l : List Opn) (v : Int) (s : Span) : Prop where
  e : (v = 0 ∧ s.e = -1) ∨ (v ≠ 0 ∧ ∃ i, i < l.length ∧ valO (opZ l i) = v ∧ s.e = (opZ l i).e)
  b : (v = 0 ∧ s.b = -2) ∨ ∃ i, i < l.length ∧ valO (opZ l i) = v ∧ s.b = (opZ l i).c
  eAt : ∀ i, i < l.length → valO (opZ l i) = v → s.e ≤ (opZ l i).e
  bAt : ∀ i, i < l.length → valO (opZ l i) = v → (opZ l i).c ≤ s.b

theorem edges_span (ok : ZOk l) {v : Int} {s : Span} (h : spanO l v = some s) : Edges l v s := by
  unfold spanO at h
  rw [spR_eq ok l.length (Nat.le_refl _)] at h
  obtain ⟨s0, h0, rfl⟩ := Option.map_eq_some_iff.1 h
  refine ⟨?_, ?_, fun i hi e => leastE_at v _ _ i hi e, fun i hi e => mostB_at v _ _ i hi e⟩
  · rcases (spW_iff ok l.length (Nat.le_refl _) _ _).1 h0 with ⟨rfl, rfl⟩ | ⟨j, hj, hd, ha, rfl⟩
    · refine .inl ⟨rfl, ?_⟩
      rcases leastE_from (l := l) 0 (-1) l.length with e | ⟨i, hi, hv, e⟩
      · exact e
      · have := leastE_le l 0 (-1) l.length
        have := ok.back i hi
        have e' : leastE l 0 (-1) l.length = (opZ l i).e := e
        omega
    · refine .inr ⟨by rw [← ha]; exact (ok.write j hj hd).1, ?_⟩
      rcases leastE_from (l := l) v (opZ l j).e l.length with e | ⟨i, hi, hv, e⟩
      · exact ⟨j, hj, by unfold valO; rw [if_pos hd]; exact ha, e⟩
      · exact ⟨i, hi, hv, e⟩
  · rcases (spW_iff ok l.length (Nat.le_refl _) _ _).1 h0 with ⟨rfl, rfl⟩ | ⟨j, hj, hd, ha, rfl⟩
    · rcases mostB_from (l := l) 0 (-2) l.length with e | ⟨i, hi, hv, e⟩
      · exact .inl ⟨rfl, e⟩
      · exact .inr ⟨i, hi, hv, e⟩
    · refine .inr ?_
      rcases mostB_from (l := l) v (opZ l j).c l.length with e | ⟨i, hi, hv, e⟩
      · exact ⟨j, hj, by unfold valO; rw [if_pos hd]; exact ha, e⟩
      · exact ⟨i, hi, hv, e⟩

/-- No two zones begin at one time. -/
theorem lo_apart (ok : ZOk l) {v u : Int} {s t : Span} (hne : v ≠ u) (hs : spanO l v = some s) (ht : spanO l u = some t) : (zonOf v s).lo ≠ (zonOf u t).lo := by
  have a := edges_span ok hs
  have b := edges_span ok ht
  have key : ∀ i j, i < l.length → j < l.length → valO (opZ l i) = v → valO (opZ l j) = u → i ≠ j := fun i j _ _ e1 e2 e => hne (by rw [← e1, ← e2, e])
  show min s.e s.b ≠ min t.e t.b
  rcases a.e with ⟨v0, ea⟩ | ⟨v0, i1, hi1, vi1, ea⟩ <;> rcases b.e with ⟨u0, eb⟩ | ⟨u0, j1, hj1, vj1, eb⟩
  · exact absurd (v0.trans u0.symm) hne
  · rcases b.b with ⟨u0', _⟩ | ⟨j2, hj2, vj2, bb⟩
    · exact absurd u0' u0
    · have := ok.back j1 hj1; have := ok.back j2 hj2
      omega
  · rcases a.b with ⟨v0', _⟩ | ⟨i2, hi2, vi2, ba⟩
    · exact absurd v0' v0
    · have := ok.back i1 hi1; have := ok.back i2 hi2
      omega
  · rcases a.b with ⟨v0', _⟩ | ⟨i2, hi2, vi2, ba⟩
    · exact absurd v0' v0
    · rcases b.b with ⟨u0', _⟩ | ⟨j2, hj2, vj2, bb⟩
      · exact absurd u0' u0
      · have h1 := ok.ee i1 j1 hi1 hj1 (key i1 j1 hi1 hj1 vi1 vj1)
        have h2 := ok.cc i2 j2 hi2 hj2 (key i2 j2 hi2 hj2 vi2 vj2)
        have h3 := ok.ce i2 j1 hi2 hj1 (key i2 j1 hi2 hj1 vi2 vj1)
        have h4 := ok.ce j2 i1 hj2 hi1 (key i1 j2 hi1 hj2 vi1 vj2).symm
        omega

end

/-- Which two don't fit, the first standing ahead. -/
def clashZ (x y : Zon) : Bool := x.fw && (if y.fw then decide (y.lo < x.hi) else decide (y.hi < x.hi))
def zonI (L : List Zon) (i : Nat) : Zon := L.getD i ⟨0, 0, 0, false⟩
theorem zonI_at {L : List Zon} {i : Nat} (h : i < L.length) : zonI L i = L[i] := by simp [zonI, h]
def FTold (L : List Zon) (ok : Bool) (a b : Int) : Prop :=
  (ok = true ∧ a = 0 ∧ b = 0 ∧ ∀ i k, i < k → k < L.length → clashZ (zonI L i) (zonI L k) = false) ∨
  ∃ i k, i < k ∧ k < L.length ∧ clashZ (zonI L i) (zonI L k) = true ∧ (∀ i' k', i' < i → i' < k' → k' < L.length → clashZ (zonI L i') (zonI L k') = false) ∧ (∀ k', i < k' → k' < k → clashZ (zonI L i) (zonI L k') = false) ∧
    ok = false ∧ a = (zonI L i).v ∧ b = (zonI L k).v
theorem FTold.one {L : List Zon} {x y : Bool} {a b c d : Int} (h1 : FTold L x a b) (h2 : FTold L y c d) : x = y ∧ a = c ∧ b = d := by
  rcases h1 with ⟨rfl, rfl, rfl, h1⟩ | ⟨i, k, hik, hk, hc, ha, hb, rfl, rfl, rfl⟩
  · rcases h2 with ⟨rfl, rfl, rfl, _⟩ | ⟨i, k, hik, hk, hc, _⟩
    · exact ⟨rfl, rfl, rfl⟩
    · rw [h1 i k hik hk] at hc; cases hc
  · rcases h2 with ⟨_, _, _, h2⟩ | ⟨i', k', hik', hk', hc', ha', hb', rfl, rfl, rfl⟩
    · rw [h2 i k hik hk] at hc; cases hc
    · have ei : i = i' := by
        rcases Nat.lt_trichotomy i i' with h | h | h
        · rw [ha' i k h hik hk] at hc; cases hc
        · exact h
        · rw [ha i' k' h hik' hk'] at hc'; cases hc'
      subst ei
      have ek : k = k' := by
        rcases Nat.lt_trichotomy k k' with h | h | h
        · rw [hb' k hik h] at hc; cases hc
        · exact h
        · rw [hb k' hik' h] at hc'; cases hc'
      subst ek
      exact ⟨rfl, rfl, rfl⟩

/-- What Zones tells: an error, or the zones. -/
def ZTold (l : List Opn) (n : Int) (L : List Zon) : Prop :=
  ∃ m, CTold zFormB 2 l m ∧ ((m ≠ 0 ∧ n = m ∧ L = []) ∨ (m = 0 ∧ (∃ j, j < l.length ∧ (opZ l j).d = 1 ∧ noneB (spW l l.length) (opZ l j) = true) ∧ n = 8 ∧ L = []) ∨
    (m = 0 ∧ (∀ j, j < l.length → (opZ l j).d = 1 → noneB (spW l l.length) (opZ l j) = false) ∧ n = 0 ∧ ZList l L))
theorem ZTold.one {l : List Opn} {n m : Int} {L M : List Zon} (h1 : ZTold l n L) (h2 : ZTold l m M) : n = m ∧ L = M := by
  obtain ⟨x, hx, h1⟩ := h1
  obtain ⟨y, hy, h2⟩ := h2
  obtain rfl := hx.one hy
  rcases h1 with ⟨a, rfl, rfl⟩ | ⟨a, ⟨j, hj, hd, hn⟩, rfl, rfl⟩ | ⟨a, hn, rfl, hL⟩
  · rcases h2 with ⟨_, rfl, rfl⟩ | ⟨b, _⟩ | ⟨b, _⟩
    · exact ⟨rfl, rfl⟩
    · exact absurd b a
    · exact absurd b a
  · rcases h2 with ⟨b, _⟩ | ⟨_, _, rfl, rfl⟩ | ⟨_, g, _⟩
    · exact absurd a b
    · exact ⟨rfl, rfl⟩
    · rw [g j hj hd] at hn; cases hn
  · rcases h2 with ⟨b, _⟩ | ⟨_, ⟨j, hj, hd, hg⟩, _⟩ | ⟨_, g, rfl, hM⟩
    · exact absurd a b
    · rw [hn j hj hd] at hg; cases hg
    · exact ⟨rfl, hL.one hM⟩

end Go.Proofs.YtelndpbkheoeaaaDoor

namespace Go.Proofs.YtelndpbkheoeaaaDoor

/-- A push or a pop that came to its end. -/
def qFormB (x : Opn) : Bool := if x.d = 9 then decide (0 ≤ x.e) && x.a != -1 && x.r == 0 else if x.d = 10 then decide (0 ≤ x.e) && x.r != -1 else false

structure QOk (l : List Opn) : Prop where
  few : l.length ≤ 40
  kind : ∀ i, i < l.length → (opZ l i).d = 9 ∨ (opZ l i).d = 10
  once : ∀ i j, i < l.length → j < l.length → (opZ l i).d = 9 → (opZ l j).d = 9 → (opZ l i).a = (opZ l j).a → i = j

theorem qOk_of {l : List Opn} (h : CTold qFormB 9 l 0) : QOk l := by
  obtain ⟨t, hc⟩ := h.zero
  obtain ⟨hlen, ho⟩ := toldNil t
  refine ⟨hlen, fun i hi => ?_, fun i j hi hj hd hd' e => ?_⟩
  · have := (cFault_zero (hc i hi)).2.1
    unfold qFormB at this
    split at this
    · next e => exact .inl e
    · split at this
      · next e => exact .inr e
      · cases this
  · rcases Nat.lt_trichotomy i j with hl | hl | hl
    · exact absurd ⟨hd', _, mem_take hl hj, hd, e⟩ (cFault_zero (hc j hj)).2.2
    · exact hl
    · exact absurd ⟨hd, _, mem_take hl hi, hd', e.symm⟩ (cFault_zero (hc i hi)).2.2

structure Life where
  push : Int
  pop : Int
  again : Int
def life0 : Life := ⟨-1, -1, -1⟩
def Life.more (s : Life) (n d : Int) : Life := if d = 9 then ⟨n, s.pop, s.again⟩ else if s.pop = -1 then ⟨s.push, n, s.again⟩ else if s.again = -1 then ⟨s.push, s.pop, n⟩ else s
def valQ (x : Opn) : Int := if x.d = 10 then x.r else x.a
def lvs (l : List Opn) : Nat → Int → Option Life
  | 0 => fun _ => none
  | k + 1 => putK (lvs l k) (valQ (opZ l k)) (some (((lvs l k (valQ (opZ l k))).getD life0).more k (opZ l k).d))

def PopOf (l : List Opn) (v : Int) (i : Nat) : Prop := (opZ l i).d = 10 ∧ (opZ l i).r = v
def PushOf (l : List Opn) (v : Int) (i : Nat) : Prop := (opZ l i).d = 9 ∧ (opZ l i).a = v

structure LifeOk (l : List Opn) (k : Nat) (v : Int) (s : Life) : Prop where
  push : (s.push = -1 ∧ ∀ i, i < k → ¬ PushOf l v i) ∨ ∃ i, i < k ∧ s.push = (i : Nat) ∧ PushOf l v i
  pop : (s.pop = -1 ∧ ∀ i, i < k → ¬ PopOf l v i) ∨ ∃ i, i < k ∧ s.pop = (i : Nat) ∧ PopOf l v i ∧ ∀ j, j < i → ¬ PopOf l v j
  again : (s.again = -1 ∧ ∀ i j, i < k → j < k → PopOf l v i → PopOf l v j → i = j) ∨ ∃ i j, i < j ∧ j < k ∧ s.pop = (i : Nat) ∧ s.again = (j : Nat) ∧ PopOf l v i ∧ PopOf l v j ∧ ∀ m, i < m → m < j → ¬ PopOf l v m

section
variable {l : List Opn} (ok : QOk l)
include ok

theorem lvs_ok : ∀ k, k ≤ l.length → ∀ v, LifeOk l k v ((lvs l k v).getD life0)
  | 0, _, v => ⟨.inl ⟨rfl, fun i hi => absurd hi (by omega)⟩, .inl ⟨rfl, fun i hi => absurd hi (by omega)⟩, .inl ⟨rfl, fun i j hi => absurd hi (by omega)⟩⟩
  | k + 1, hk, v => by
    have ih := lvs_ok k (by omega) v
    unfold lvs
    by_cases e : v = valQ (opZ l k)
    · rw [← e, putK_same, Option.getD_some]
      generalize (lvs l k v).getD life0 = s at ih ⊢
      rcases ok.kind k (by omega) with hd | hd
      · have ha : PushOf l v k := ⟨hd, by rw [e]; unfold valQ; rw [if_neg (by omega)]⟩
        have hp : ∀ i, i < k + 1 → PopOf l v i → i < k := fun i hi h => by
          by_cases e' : i = k
          · subst e'; have := h.1; omega
          · omega
        unfold Life.more
        rw [if_pos hd]
        refine ⟨.inr ⟨k, by omega, rfl, ha⟩, ?_, ?_⟩
        · rcases ih.pop with ⟨h1, h2⟩ | ⟨i, hi, r⟩
          · exact .inl ⟨h1, fun i hi h => h2 i (hp i hi h) h⟩
          · exact .inr ⟨i, by omega, r⟩
        · rcases ih.again with ⟨h1, h2⟩ | ⟨i, j, hij, hj, r⟩
          · exact .inl ⟨h1, fun i j hi hj h h' => h2 i j (hp i hi h) (hp j hj h') h h'⟩
          · exact .inr ⟨i, j, hij, by omega, r⟩
      · have ha : PopOf l v k := ⟨hd, by rw [e]; unfold valQ; rw [if_pos hd]⟩
        have hpush : (s.push = -1 ∧ ∀ i, i < k + 1 → ¬ PushOf l v i) ∨ ∃ i, i < k + 1 ∧ s.push = (i : Nat) ∧ PushOf l v i := by
          rcases ih.push with ⟨h1, h2⟩ | ⟨i, hi, r⟩
          · refine .inl ⟨h1, fun i hi h => ?_⟩
            by_cases e' : i = k
            · subst e'; have := h.1; omega
            · exact h2 i (by omega) h
          · exact .inr ⟨i, by omega, r⟩
        unfold Life.more
        rw [if_neg (by omega)]
        split
        · next h0 =>
          rcases ih.pop with ⟨_, h2⟩ | ⟨i, _, h1, _⟩
          · refine ⟨hpush, .inr ⟨k, by omega, rfl, ha, h2⟩, ?_⟩
            rcases ih.again with ⟨h3, _⟩ | ⟨i, j, _, _, h3, _⟩
            · refine .inl ⟨h3, fun i j hi hj h h' => ?_⟩
              have : i = k := by
                by_cases e' : i = k
                · exact e'
                · exact absurd h (h2 i (by omega))
              have : j = k := by
                by_cases e' : j = k
                · exact e'
                · exact absurd h' (h2 j (by omega))
              omega
            · omega
          · omega
        · next h0 =>
          rcases ih.pop with ⟨h1, _⟩ | ⟨i, hi, h1, hpi, hbe⟩
          · exact absurd h1 h0
          · split
            · next h3 =>
              refine ⟨hpush, .inr ⟨i, by omega, h1, hpi, hbe⟩, .inr ⟨i, k, hi, by omega, h1, rfl, hpi, ha, fun m hm1 hm2 h => ?_⟩⟩
              rcases ih.again with ⟨_, h4⟩ | ⟨_, _, _, _, _, h4, _⟩
              · have := h4 i m hi hm2 hpi h; omega
              · omega
            · next h3 =>
              refine ⟨hpush, .inr ⟨i, by omega, h1, hpi, hbe⟩, ?_⟩
              rcases ih.again with ⟨h4, _⟩ | ⟨i', j, hij, hj, r⟩
              · exact absurd h4 h3
              · exact .inr ⟨i', j, hij, by omega, r⟩
    · rw [putK_other _ _ _ _ e]
      have hp : ∀ i, i < k + 1 → PopOf l v i → i < k := fun i hi h => by
        by_cases e' : i = k
        · subst e'; exact absurd (by unfold valQ; rw [if_pos h.1]; exact h.2.symm) e
        · omega
      have hq : ∀ i, i < k + 1 → PushOf l v i → i < k := fun i hi h => by
        by_cases e' : i = k
        · subst e'; exact absurd (by have := h.1; unfold valQ; rw [if_neg (by omega)]; exact h.2.symm) e
        · omega
      refine ⟨?_, ?_, ?_⟩
      · rcases ih.push with ⟨h1, h2⟩ | ⟨i, hi, r⟩
        · exact .inl ⟨h1, fun i hi h => h2 i (hq i hi h) h⟩
        · exact .inr ⟨i, by omega, r⟩
      · rcases ih.pop with ⟨h1, h2⟩ | ⟨i, hi, r⟩
        · exact .inl ⟨h1, fun i hi h => h2 i (hp i hi h) h⟩
        · exact .inr ⟨i, by omega, r⟩
      · rcases ih.again with ⟨h1, h2⟩ | ⟨i, j, hij, hj, r⟩
        · exact .inl ⟨h1, fun i j hi hj h h' => h2 i j (hp i hi h) (hp j hj h') h h'⟩
        · exact .inr ⟨i, j, hij, by omega, r⟩

omit ok in
theorem lvs_some : ∀ k v i, i < k → valQ (opZ l i) = v → ∃ s, lvs l k v = some s
  | 0, _, _, h, _ => absurd h (by omega)
  | k + 1, v, i, h, e => by
    unfold lvs
    by_cases h1 : v = valQ (opZ l k)
    · rw [← h1, putK_same]; exact ⟨_, rfl⟩
    · rw [putK_other _ _ _ _ h1]
      by_cases h2 : i = k
      · subst h2; exact absurd e.symm h1
      · exact lvs_some k v i (by omega) e
omit ok in
theorem lvs_none : ∀ k v s, lvs l k v = some s → ∃ i, i < k ∧ valQ (opZ l i) = v
  | 0, _, _, h => by cases h
  | k + 1, v, s, h => by
    unfold lvs at h
    by_cases h1 : v = valQ (opZ l k)
    · exact ⟨k, by omega, h1.symm⟩
    · rw [putK_other _ _ _ _ h1] at h
      obtain ⟨i, hi, e⟩ := lvs_none k v s h
      exact ⟨i, by omega, e⟩

theorem life_of {v : Int} {s : Life} (h : lvs l l.length v = some s) : LifeOk l l.length v s := by
  have := lvs_ok ok l.length (Nat.le_refl _) v
  rwa [h] at this

end

/-- Two ops that can't be, by the document's words. -/
def badP (l : List Opn) (code : Int) (i k : Nat) : Prop :=
  if code = 1 then i = k ∧ (opZ l i).d = 10 ∧ ∀ j, j < l.length → ¬ PushOf l (opZ l i).r j
  else if code = 2 then i < k ∧ (opZ l i).d = 10 ∧ (opZ l k).d = 10 ∧ (opZ l i).r = (opZ l k).r
  else if code = 3 then (opZ l i).d = 9 ∧ (opZ l k).d = 10 ∧ (opZ l k).r = (opZ l i).a ∧ beforeB (opZ l k) (opZ l i) = true
  else (opZ l i).d = 9 ∧ (opZ l k).d = 9 ∧ beforeB (opZ l i) (opZ l k) = true ∧
    ∃ q, q < l.length ∧ PopOf l (opZ l k).a q ∧ (∀ m, m < l.length → q < m → ¬ PopOf l (opZ l k).a m) ∧
      ((∀ x, x < l.length → ¬ PopOf l (opZ l i).a x) ∨ ∃ x, x < l.length ∧ PopOf l (opZ l i).a x ∧ (∀ m, m < l.length → x < m → ¬ PopOf l (opZ l i).a m) ∧ beforeB (opZ l q) (opZ l x) = true)

/-- What is gathered of a code: of one life, or of two. -/
def earlyB (l : List Opn) (s : Life) : Bool := s.pop != -1 && beforeB (opZ l s.pop.toNat) (opZ l s.push.toNat)
def crossB (l : List Opn) (s t : Life) : Bool := t.pop != -1 && beforeB (opZ l s.push.toNat) (opZ l t.push.toNat) && (s.pop == -1 || beforeB (opZ l t.pop.toNat) (opZ l s.pop.toNat))
/-- Which pairs are gathered of a code. -/
def pairP (l : List Opn) (f : Int → Option Life) (code a b : Int) : Prop :=
  if code = 1 then ∃ v s, f v = some s ∧ s.push = -1 ∧ a = s.pop ∧ b = s.pop
  else if code = 2 then ∃ v s, f v = some s ∧ s.again ≠ -1 ∧ a = s.pop ∧ b = s.again
  else if code = 3 then ∃ v s, f v = some s ∧ earlyB l s = true ∧ a = s.push ∧ b = s.pop
  else ∃ v s u t, f v = some s ∧ f u = some t ∧ crossB l s t = true ∧ a = s.push ∧ b = t.push

def noBad (l : List Opn) (code : Int) : Prop := ∀ i k, i < l.length → k < l.length → ¬ badP l code i k
def lexLe (a b c d : Int) : Prop := a < c ∨ (a = c ∧ b ≤ d)

section
variable {l : List Opn} (ok : QOk l)
include ok

/-- All that is gathered can't be. -/
theorem pair_bad {code a b : Int} (h1 : 1 ≤ code) (h4 : code ≤ 4) (hb : ∀ c, 1 ≤ c → c < code → noBad l c) (h : pairP l (lvs l l.length) code a b) :
    ∃ i k : Nat, i < l.length ∧ k < l.length ∧ a = i ∧ b = k ∧ badP l code i k := by
  have thin : 1 < code → ∀ v s, lvs l l.length v = some s → ∃ i, i < l.length ∧ s.push = (i : Nat) ∧ PushOf l v i := fun hc v s hs => by
    rcases (life_of ok hs).push with ⟨_, hn⟩ | r
    · obtain ⟨i, hi, e⟩ := lvs_none _ _ _ hs
      rcases ok.kind i hi with hd | hd
      · exact absurd ⟨hd, by rw [← e]; unfold valQ; rw [if_neg (by omega)]⟩ (hn i hi)
      · refine absurd ?_ (hb 1 (by omega) hc i i hi hi)
        unfold badP
        rw [if_pos rfl]
        have : (opZ l i).r = v := by rw [← e]; unfold valQ; rw [if_pos hd]
        exact ⟨rfl, hd, by rw [this]; exact hn⟩
    · exact r
  have twice : 2 < code → ∀ v i j, i < l.length → j < l.length → PopOf l v i → PopOf l v j → i = j := fun hc v i j hi hj p q => by
    have hne : ∀ i j, i < l.length → j < l.length → PopOf l v i → PopOf l v j → ¬ i < j := fun i j hi hj p q hij => by
      refine hb 2 (by omega) hc i j hi hj ?_
      unfold badP
      rw [if_neg (by decide), if_pos rfl]
      exact ⟨hij, p.1, q.1, p.2.trans q.2.symm⟩
    have := hne i j hi hj p q
    have := hne j i hj hi q p
    omega
  unfold pairP at h
  split at h
  · next e =>
    subst e
    obtain ⟨v, s, hs, hp, rfl, rfl⟩ := h
    have L := life_of ok hs
    rcases L.push with ⟨_, hn⟩ | ⟨i, _, e, _⟩
    · rcases L.pop with ⟨_, hq⟩ | ⟨i, hi, e, hpi, _⟩
      · obtain ⟨i, hi, e⟩ := lvs_none _ _ _ hs
        rcases ok.kind i hi with hd | hd
        · exact absurd ⟨hd, by rw [← e]; unfold valQ; rw [if_neg (by omega)]⟩ (hn i hi)
        · exact absurd ⟨hd, by rw [← e]; unfold valQ; rw [if_pos hd]⟩ (hq i hi)
      · refine ⟨i, i, hi, hi, e, e, ?_⟩
        unfold badP
        rw [if_pos rfl]
        exact ⟨rfl, hpi.1, by rw [hpi.2]; exact hn⟩
    · omega
  · split at h
    · next _ e =>
      subst e
      obtain ⟨v, s, hs, hp, rfl, rfl⟩ := h
      rcases (life_of ok hs).again with ⟨e, _⟩ | ⟨i, j, hij, hj, e1, e2, p, q, _⟩
      · exact absurd e hp
      · refine ⟨i, j, by omega, hj, e1, e2, ?_⟩
        unfold badP
        rw [if_neg (by decide), if_pos rfl]
        exact ⟨hij, p.1, q.1, p.2.trans q.2.symm⟩
    · split at h
      · next _ _ e =>
        subst e
        obtain ⟨v, s, hs, hp, rfl, rfl⟩ := h
        obtain ⟨i, hi, ei, pi⟩ := thin (by decide) v s hs
        unfold earlyB at hp
        simp at hp
        rcases (life_of ok hs).pop with ⟨e, _⟩ | ⟨k, hk, e, pk, _⟩
        · exact absurd e hp.1
        · refine ⟨i, k, hi, hk, ei, e, ?_⟩
          unfold badP
          rw [if_neg (by decide), if_neg (by decide), if_pos rfl]
          refine ⟨pi.1, pk.1, pk.2.trans pi.2.symm, ?_⟩
          have := hp.2
          rw [e, ei] at this
          simpa using this
      · next n1 n2 n3 =>
        obtain rfl : code = 4 := by omega
        obtain ⟨v, s, u, t, hs, ht, hp, rfl, rfl⟩ := h
        obtain ⟨i, hi, ei, pi⟩ := thin (by decide) v s hs
        obtain ⟨k, hk, ek, pk⟩ := thin (by decide) u t ht
        unfold crossB at hp
        simp only [Bool.and_eq_true, Bool.or_eq_true, bne_iff_ne, beq_iff_eq] at hp
        obtain ⟨⟨h1, h2⟩, h3⟩ := hp
        rw [ei, ek] at h2
        refine ⟨i, k, hi, hk, ei, ek, ?_⟩
        unfold badP
        rw [if_neg (by decide), if_neg (by decide), if_neg (by decide)]
        refine ⟨pi.1, pk.1, by simpa using h2, ?_⟩
        rcases (life_of ok ht).pop with ⟨e, _⟩ | ⟨q, hq, e, pq, _⟩
        · exact absurd e h1
        · refine ⟨q, hq, by rw [pk.2]; exact pq, fun m hm hqm h => ?_, ?_⟩
          · rw [pk.2] at h
            have := twice (by decide) u q m hq hm pq h
            omega
          · rw [pi.2]
            rcases (life_of ok hs).pop with ⟨_, hn⟩ | ⟨x, hx, ex, px, _⟩
            · exact .inl hn
            · refine .inr ⟨x, hx, px, fun m hm hxm h => ?_, ?_⟩
              · have := twice (by decide) v x m hx hm px h
                omega
              · rcases h3 with h3 | h3
                · omega
                · rw [e, ex] at h3
                  simpa using h3

/-- And of what can't be something is gathered that is no greater. -/
theorem bad_pair {code : Int} {i k : Nat} (h1 : 1 ≤ code) (h4 : code ≤ 4) (hb : ∀ c, 1 ≤ c → c < code → noBad l c) (hi : i < l.length) (hk : k < l.length) (h : badP l code i k) :
    ∃ a b, pairP l (lvs l l.length) code a b ∧ lexLe a b i k := by
  have twice : 2 < code → ∀ v i j, i < l.length → j < l.length → PopOf l v i → PopOf l v j → i = j := fun hc v i j hi hj p q => by
    have hne : ∀ i j, i < l.length → j < l.length → PopOf l v i → PopOf l v j → ¬ i < j := fun i j hi hj p q hij => by
      refine hb 2 (by omega) hc i j hi hj ?_
      unfold badP
      rw [if_neg (by decide), if_pos rfl]
      exact ⟨hij, p.1, q.1, p.2.trans q.2.symm⟩
    have := hne i j hi hj p q
    have := hne j i hj hi q p
    omega
  have valPop : ∀ v i, PopOf l v i → valQ (opZ l i) = v := fun v i h => by unfold valQ; rw [if_pos h.1]; exact h.2
  have valPush : ∀ v i, PushOf l v i → valQ (opZ l i) = v := fun v i h => by have := h.1; unfold valQ; rw [if_neg (by omega)]; exact h.2
  unfold badP at h
  split at h
  · next e =>
    subst e
    obtain ⟨rfl, hd, hn⟩ := h
    have pi : PopOf l (opZ l i).r i := ⟨hd, rfl⟩
    obtain ⟨s, hs⟩ := lvs_some l.length _ i hi (valPop _ i pi)
    have L := life_of ok hs
    rcases L.push with ⟨e1, _⟩ | ⟨j, hj, _, pj⟩
    · rcases L.pop with ⟨_, hq⟩ | ⟨j, hj, e2, pj, hbe⟩
      · exact absurd pi (hq i hi)
      · refine ⟨s.pop, s.pop, ?_, ?_⟩
        · unfold pairP; rw [if_pos rfl]; exact ⟨_, s, hs, e1, rfl, rfl⟩
        · have : j ≤ i := by
            rcases Nat.lt_or_ge i j with h | h
            · exact absurd pi (hbe i h)
            · exact h
          unfold lexLe
          omega
    · exact absurd pj (hn j hj)
  · split at h
    · next _ e =>
      subst e
      obtain ⟨hik, hd, hd', hr⟩ := h
      have pi : PopOf l (opZ l i).r i := ⟨hd, rfl⟩
      have pk : PopOf l (opZ l i).r k := ⟨hd', hr.symm⟩
      obtain ⟨s, hs⟩ := lvs_some l.length _ i hi (valPop _ i pi)
      have L := life_of ok hs
      rcases L.again with ⟨_, hq⟩ | ⟨i', j', hij, hj, e1, e2, p', q', hbe⟩
      · have := hq i k hi hk pi pk; omega
      · refine ⟨s.pop, s.again, ?_, ?_⟩
        · unfold pairP; rw [if_neg (by decide), if_pos rfl]; exact ⟨_, s, hs, by omega, rfl, rfl⟩
        · rcases L.pop with ⟨e3, _⟩ | ⟨i2, hi2, e3, _, hf⟩
          · omega
          · have h5 : i' = i2 := by omega
            subst h5
            have h6 : i' ≤ i := by
              rcases Nat.lt_or_ge i i' with h | h
              · exact absurd pi (hf i h)
              · exact h
            unfold lexLe
            by_cases e5 : i' = i
            · have h7 : j' ≤ k := by
                rcases Nat.lt_or_ge k j' with h | h
                · exact absurd pk (hbe k (by omega) h)
                · exact h
              omega
            · omega
    · split at h
      · next _ _ e =>
        subst e
        obtain ⟨hd, hd', hr, hbf⟩ := h
        have pi : PushOf l (opZ l i).a i := ⟨hd, rfl⟩
        have pk : PopOf l (opZ l i).a k := ⟨hd', hr⟩
        obtain ⟨s, hs⟩ := lvs_some l.length _ i hi (valPush _ i pi)
        have L := life_of ok hs
        rcases L.push with ⟨_, hn⟩ | ⟨i', hi', e1, p'⟩
        · exact absurd pi (hn i hi)
        · obtain rfl := ok.once i' i hi' hi p'.1 hd (p'.2)
          rcases L.pop with ⟨_, hn⟩ | ⟨k', hk', e2, q', _⟩
          · exact absurd pk (hn k hk)
          · obtain rfl := twice (by decide) _ k' k hk' hk q' pk
            refine ⟨s.push, s.pop, ?_, ?_⟩
            · unfold pairP
              rw [if_neg (by decide), if_neg (by decide), if_pos rfl]
              refine ⟨_, s, hs, ?_, rfl, rfl⟩
              unfold earlyB
              rw [e1, e2]
              simp [hbf]
            · unfold lexLe; omega
      · next n1 n2 n3 =>
        obtain rfl : code = 4 := by omega
        obtain ⟨hd, hd', hbf, q, hq, pq, _, hx⟩ := h
        have pi : PushOf l (opZ l i).a i := ⟨hd, rfl⟩
        have pk : PushOf l (opZ l k).a k := ⟨hd', rfl⟩
        obtain ⟨s, hs⟩ := lvs_some l.length _ i hi (valPush _ i pi)
        obtain ⟨t, ht⟩ := lvs_some l.length _ k hk (valPush _ k pk)
        have L := life_of ok hs
        have M := life_of ok ht
        rcases L.push with ⟨_, hn⟩ | ⟨i', hi', e1, p'⟩
        · exact absurd pi (hn i hi)
        · obtain rfl := ok.once i' i hi' hi p'.1 hd (p'.2)
          rcases M.push with ⟨_, hn⟩ | ⟨k', hk', e2, q'⟩
          · exact absurd pk (hn k hk)
          · obtain rfl := ok.once k' k hk' hk q'.1 hd' (q'.2)
            rcases M.pop with ⟨_, hn⟩ | ⟨q2, hq2, e3, pq2, _⟩
            · exact absurd pq (hn q hq)
            · obtain rfl := twice (by decide) _ q2 q hq2 hq pq2 pq
              refine ⟨s.push, t.push, ?_, ?_⟩
              · unfold pairP
                rw [if_neg (by decide), if_neg (by decide), if_neg (by decide)]
                refine ⟨_, s, _, t, hs, ht, ?_, rfl, rfl⟩
                unfold crossB
                rw [e1, e2, e3]
                simp only [Int.toNat_natCast, hbf, Bool.and_true, Bool.and_eq_true, Bool.or_eq_true, bne_iff_ne, beq_iff_eq]
                refine ⟨by omega, ?_⟩
                rcases hx with hx | ⟨x, hx, px, _, hb2⟩
                · rcases L.pop with ⟨e4, _⟩ | ⟨x, hx', _, px, _⟩
                  · exact .inl e4
                  · exact absurd px (hx x hx')
                · rcases L.pop with ⟨_, hn⟩ | ⟨x', hx', e4, px', _⟩
                  · exact absurd px (hn x hx)
                  · obtain rfl := twice (by decide) _ x' x hx' hx px' px
                    refine .inr ?_
                    rw [e4]
                    simpa using hb2
              · unfold lexLe; omega

end

/-- What Finds tells. -/
def FindsT (l : List Opn) (code a b : Int) : Prop :=
  (code = 0 ∧ a = 0 ∧ b = 0 ∧ ∀ c, 1 ≤ c → c ≤ 4 → noBad l c) ∨
  (1 ≤ code ∧ code ≤ 4 ∧ (∀ c, 1 ≤ c → c < code → noBad l c) ∧ ∃ i k : Nat, i < l.length ∧ k < l.length ∧ a = i ∧ b = k ∧ badP l code i k ∧ ∀ i' k', i' < l.length → k' < l.length → badP l code i' k' → lexLe i k i' k')
theorem FindsT.one {l : List Opn} {c a b c' a' b' : Int} (h1 : FindsT l c a b) (h2 : FindsT l c' a' b') : c = c' ∧ a = a' ∧ b = b' := by
  rcases h1 with ⟨rfl, rfl, rfl, n1⟩ | ⟨p1, p2, p3, i, k, hi, hk, rfl, rfl, bd, lst⟩
  · rcases h2 with ⟨rfl, rfl, rfl, _⟩ | ⟨q1, q2, _, i, k, hi, hk, _, _, bd, _⟩
    · exact ⟨rfl, rfl, rfl⟩
    · exact absurd bd (n1 c' q1 q2 i k hi hk)
  · rcases h2 with ⟨rfl, rfl, rfl, n2⟩ | ⟨q1, q2, q3, i', k', hi', hk', rfl, rfl, bd', lst'⟩
    · exact absurd bd (n2 c p1 p2 i k hi hk)
    · have e : c = c' := by
        rcases Int.lt_trichotomy c c' with h | h | h
        · exact absurd bd (q3 c p1 h i k hi hk)
        · exact h
        · exact absurd bd' (p3 c' q1 h i' k' hi' hk')
      subst e
      have x := lst i' k' hi' hk' bd'
      have y := lst' i k hi hk bd
      unfold lexLe at x y
      refine ⟨rfl, ?_, ?_⟩ <;> omega

end Go.Proofs.YtelndpbkheoeaaaDoor
