/-
  Objects in plain Lean: which calls an object knows, its state at first, what a call makes of a state, and what it tells.
-/
import Derived.WalkKit
namespace Go.Proofs.YtibdchahallbjabDoor
open Go.RowKit

def oneB (o : Int) : Bool := o == 1 || o == 2 || o == 6

def knowsB (o k : Int) : Bool :=
  (o == 1 && (k == 1 || k == 2 || k == 3)) || (o == 2 && (k == 4 || k == 5)) || (o == 3 && (k == 6 || k == 7 || k == 8)) ||
  (o == 4 && (k == 9 || k == 10)) || (o == 5 && (k == 9 || k == 10)) || (o == 6 && (k == 11 || k == 12))

def startL (o : Int) : List Int := if oneB o then [0] else []

/-- How many of a state are less. -/
def placeOf (st : List Int) (a : Int) : Nat := st.countP (· < a)

def regM (x k a b : Int) : Int × Int :=
  if k = 2 then (a, 0) else if k = 3 then (if x = a then (b, 1) else (x, 0)) else (x, x)
def cntM (x k a : Int) : Int × Int :=
  if k = 4 then (wrap64 (x + a), wrap64 (x + a)) else (x, x)
def setM (st : List Int) (k a : Int) : List Int × Int :=
  if k = 6 ∧ st.contains a = false then (st.take (placeOf st a) ++ a :: st.drop (placeOf st a), 1)
  else if k = 7 ∧ st.contains a = true then (st.take (placeOf st a) ++ st.drop (placeOf st a + 1), 1)
  else if k = 8 ∧ st.contains a = true then (st, 1) else (st, 0)
def queM (st : List Int) (k a : Int) : List Int × Int :=
  if k = 9 then (st ++ [a], 0) else if st = [] then (st, -1) else (st.drop 1, st.headD 0)
def staM (st : List Int) (k a : Int) : List Int × Int :=
  if k = 9 then (st ++ [a], 0) else if st = [] then (st, -1) else (st.take (st.length - 1), st.getD (st.length - 1) 0)
/-- What a mutex is to be, ahead of a call of it and behind it. -/
def mutM (x k : Int) : Option Int :=
  if k = 12 then (if x = 1 then some 0 else none) else (if x = 0 then some 1 else none)

/-- What a call makes of a state, and what it tells; none: it can't be done. -/
def stepM (o : Int) (st : List Int) (k a b : Int) : Option (List Int × Int) :=
  if knowsB o k = false ∨ (oneB o = true ∧ st.length ≠ 1) then none
  else if o = 1 then some ([(regM (st.headD 0) k a b).1], (regM (st.headD 0) k a b).2)
  else if o = 2 then some ([(cntM (st.headD 0) k a).1], (cntM (st.headD 0) k a).2)
  else if o = 3 then some (setM st k a)
  else if o = 4 then some (queM st k a)
  else if o = 5 then some (staM st k a)
  else (mutM (st.headD 0) k).map fun y => ([y], 0)

end Go.Proofs.YtibdchahallbjabDoor
