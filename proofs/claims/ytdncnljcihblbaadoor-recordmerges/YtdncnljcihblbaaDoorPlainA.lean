/-
  Plain facts on what may be of an event: numbers alone; nothing of the program is named here.
-/

namespace Go.Proofs.YtdncnljcihblbaaDoor

def numB (n : Int) : Bool := decide (-1000000 ≤ n ∧ n ≤ 1000000)
def kindB (n : Int) : Bool := decide (1 ≤ n ∧ n ≤ 12)
def eightB (n : Int) : Bool := decide (0 ≤ n ∧ n < 8)
def inB (p k a b r : Int) : Bool := eightB p && eightB k && numB a && numB b && numB r
def faultN (p t k d a b r : Int) : Int :=
  if inB p k a b r then (if decide (1 ≤ t ∧ t ≤ 4) && kindB d then (if decide (r = 0 ∨ t = 2) then 0 else 1) else 1) else 2

theorem faultN_cases (p t k d a b r : Int) : faultN p t k d a b r = 0 ∨ faultN p t k d a b r = 1 ∨ faultN p t k d a b r = 2 := by
  unfold faultN
  split
  · split
    · split
      · exact Or.inl rfl
      · exact Or.inr (Or.inl rfl)
    · exact Or.inr (Or.inl rfl)
  · exact Or.inr (Or.inr rfl)

end Go.Proofs.YtdncnljcihblbaaDoor
