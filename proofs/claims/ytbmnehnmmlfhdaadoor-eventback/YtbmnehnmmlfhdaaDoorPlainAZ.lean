/-
  Plain facts on what may be of an event: numbers alone; nothing of the program is named here.
  Plain facts on what may be of ops: numbers and lists alone; nothing of the program is named here.
-/

namespace Go.Proofs.YtbmnehnmmlfhdaaDoor

def numB (n : Int) : Bool := decide (-1000000 ≤ n ∧ n ≤ 1000000)
def kindB (n : Int) : Bool := decide (1 ≤ n ∧ n ≤ 12)
def eightB (n : Int) : Bool := decide (0 ≤ n ∧ n < 8)
def inB (p k a b r : Int) : Bool := eightB p && eightB k && numB a && numB b && numB r
def faultN (p t k d a b r : Int) : Int :=
  if inB p k a b r then (if decide (1 ≤ t ∧ t ≤ 4) && kindB d then (if decide (r = 0 ∨ t = 2) then 0 else 1) else 1) else 2

theorem faultN_cases (p t k d a b r : Int) : faultN p t k d a b r = 0 ∨ faultN p t k d a b r = 1 ∨ faultN p t k d a b r = 2 := by
  unfold faultN
  split
  · split
    · split
      · exact Or.inl rfl
      · exact Or.inr (Or.inl rfl)
    · exact Or.inr (Or.inl rfl)
  · exact Or.inr (Or.inr rfl)

end Go.Proofs.YtbmnehnmmlfhdaaDoor

namespace Go.Proofs.YtbmnehnmmlfhdaaDoor

/-- An op, its eight numbers: process, key, kind, A, B, result, call, return. -/
structure Opn where
  p : Int
  k : Int
  d : Int
  a : Int
  b : Int
  r : Int
  c : Int
  e : Int

def beforeB (x y : Opn) : Bool := decide (0 ≤ x.e) && decide (x.e < y.c)
def hasB (x : Opn) (t : Int) : Bool := x.c == t || x.e == t
def shareB (x y : Opn) : Bool := hasB x y.c || (y.e != -1 && hasB x y.e)
def clashB (x y : Opn) : Bool := x.p == y.p && !beforeB x y
def rangeB (x : Opn) : Bool := inB x.p x.k x.a x.b x.r && numB x.c && numB x.e
/-- The call of the last one ahead, if there is one. -/
def lastOk (l : List Opn) (x : Opn) : Bool := match l.getLast? with
  | none => true
  | some y => decide (y.c < x.c)
def orderB (l : List Opn) (x : Opn) : Bool := decide (0 ≤ x.c) && lastOk l x && (if x.e = -1 then x.r == 0 else decide (x.c < x.e))
def opFaultN (l : List Opn) (x : Opn) : Int :=
  if rangeB x then (if kindB x.d then (if orderB l x then (if l.any (fun y => shareB y x) then 9 else if l.any (fun y => clashB y x) then 6 else 0) else 10) else 1) else 2

/-- What is told of a list: the first fault, 0 if there is none, 4 if it is too long. -/
def Told (l : List Opn) (n : Int) : Prop :=
  (40 < l.length ∧ n = 4) ∨ (l.length ≤ 40 ∧ (∀ j, (h : j < l.length) → opFaultN (l.take j) l[j] = 0) ∧ n = 0) ∨
  (l.length ≤ 40 ∧ ∃ k, ∃ h : k < l.length, (∀ j, (hj : j < k) → opFaultN (l.take j) (l[j]'(Nat.lt_trans hj h)) = 0) ∧ opFaultN (l.take k) l[k] ≠ 0 ∧ n = opFaultN (l.take k) l[k])

theorem told_one {l : List Opn} {n m : Int} (h1 : Told l n) (h2 : Told l m) : n = m := by
  rcases h1 with ⟨a, rfl⟩ | ⟨a, g, rfl⟩ | ⟨a, k, hk, g, hne, rfl⟩
  · rcases h2 with ⟨_, rfl⟩ | ⟨b, _⟩ | ⟨b, _⟩
    · rfl
    · omega
    · omega
  · rcases h2 with ⟨b, _⟩ | ⟨_, _, rfl⟩ | ⟨_, k, hk, _, hne, rfl⟩
    · omega
    · rfl
    · exact absurd (g k hk) hne
  · rcases h2 with ⟨b, _⟩ | ⟨_, g', rfl⟩ | ⟨_, k', hk', g', hne', rfl⟩
    · omega
    · exact absurd (g' k hk) hne
    · rcases Nat.lt_trichotomy k k' with h | h | h
      · exact absurd (g' k h) hne
      · subst h; rfl
      · exact absurd (g k' h) hne'

end Go.Proofs.YtbmnehnmmlfhdaaDoor
