/-
  Objects in plain Lean: which calls an object knows, its state at first, what a call makes of a state, and what it tells.
  A state in memory that is one's own: a row of numbers, from some block on, that may be written into.
-/
import Derived.WalkKit
import Derived.Laws.AppendOwn
import Derived.Laws.IdiomCopy
import Derived.Laws.Rows
import Derived.Sort.Row
import Derived.Maps.AppendAt
import Derived.Maps.Range
import Derived.Maps.RangeWalk
import Derived.Deep.Draws
namespace Go.Proofs.YtaopigjhdkdklaaDoor
open Go.RowKit

def oneB (o : Int) : Bool := o == 1 || o == 2 || o == 6

def knowsB (o k : Int) : Bool :=
  (o == 1 && (k == 1 || k == 2 || k == 3)) || (o == 2 && (k == 4 || k == 5)) || (o == 3 && (k == 6 || k == 7 || k == 8)) ||
  (o == 4 && (k == 9 || k == 10)) || (o == 5 && (k == 9 || k == 10)) || (o == 6 && (k == 11 || k == 12))

def startL (o : Int) : List Int := if oneB o then [0] else []

/-- How many of a state are less. -/
def placeOf (st : List Int) (a : Int) : Nat := st.countP (· < a)

def regM (x k a b : Int) : Int × Int :=
  if k = 2 then (a, 0) else if k = 3 then (if x = a then (b, 1) else (x, 0)) else (x, x)
def cntM (x k a : Int) : Int × Int :=
  if k = 4 then (wrap64 (x + a), wrap64 (x + a)) else (x, x)
def setM (st : List Int) (k a : Int) : List Int × Int :=
  if k = 6 ∧ st.contains a = false then (st.take (placeOf st a) ++ a :: st.drop (placeOf st a), 1)
  else if k = 7 ∧ st.contains a = true then (st.take (placeOf st a) ++ st.drop (placeOf st a + 1), 1)
  else if k = 8 ∧ st.contains a = true then (st, 1) else (st, 0)
def queM (st : List Int) (k a : Int) : List Int × Int :=
  if k = 9 then (st ++ [a], 0) else if st = [] then (st, -1) else (st.drop 1, st.headD 0)
def staM (st : List Int) (k a : Int) : List Int × Int :=
  if k = 9 then (st ++ [a], 0) else if st = [] then (st, -1) else (st.take (st.length - 1), st.getD (st.length - 1) 0)
/-- What a mutex is to be, ahead of a call of it and behind it. -/
def mutM (x k : Int) : Option Int :=
  if k = 12 then (if x = 1 then some 0 else none) else (if x = 0 then some 1 else none)

/-- What a call makes of a state, and what it tells; none: it can't be done. -/
def stepM (o : Int) (st : List Int) (k a b : Int) : Option (List Int × Int) :=
  if knowsB o k = false ∨ (oneB o = true ∧ st.length ≠ 1) then none
  else if o = 1 then some ([(regM (st.headD 0) k a b).1], (regM (st.headD 0) k a b).2)
  else if o = 2 then some ([(cntM (st.headD 0) k a).1], (cntM (st.headD 0) k a).2)
  else if o = 3 then some (setM st k a)
  else if o = 4 then some (queM st k a)
  else if o = 5 then some (staM st k a)
  else (mutM (st.headD 0) k).map fun y => ([y], 0)

end Go.Proofs.YtaopigjhdkdklaaDoor

namespace Go.Proofs.YtaopigjhdkdklaaDoor
open Go.RowKit

def RowAt (w : World) (base : Nat) (v : Value) (st : List Int) : Prop :=
  (v = .slice none 0 0 ∧ st = []) ∨
  ∃ g off cap cur, v = .slice (some ⟨g, off, none⟩) st.length cap ∧ base ≤ g ∧ w.heap[g]? = some (.cells cur 3 (0, 0)) ∧ st.length ≤ cap ∧ off + cap ≤ cur.size ∧ cap ≤ maxLen ∧
    ∀ j, (hj : j < st.length) → w.cell? ⟨g, off + j, none⟩ = some (.int .i64 st[j])

theorem lt_of_heap {w : World} {g : Nat} {o : Obj} (h : w.heap[g]? = some o) : g < w.heap.size := by
  rcases Nat.lt_or_ge g w.heap.size with hlt | hge
  · exact hlt
  · rw [Array.getElem?_eq_none hge] at h; cases h

theorem rowAt_nil (w : World) (base : Nat) : RowAt w base (.slice none 0 0) [] := .inl ⟨rfl, rfl⟩

theorem RowAt.lt {w : World} {base : Nat} {v : Value} {st : List Int} (h : RowAt w base v st) : ∀ k, v.ownBlock = some k → base ≤ k ∧ k < w.heap.size := by
  intro k hk
  rcases h with ⟨rfl, _⟩ | ⟨g, off, cap, cur, rfl, hb, hg, _⟩
  · cases hk
  · obtain rfl : g = k := by simpa [Value.ownBlock] using hk
    exact ⟨hb, lt_of_heap hg⟩

theorem RowAt.kept {w w' : World} {base : Nat} {v : Value} {st : List Int} {row : Option Nat} (h : RowAt w base v st) (hg : w.grownBy w' row) (hne : v.ownBlock = none ∨ v.ownBlock ≠ row) : RowAt w' base v st := by
  rcases h with h | ⟨g, off, cap, cur, rfl, hb, hh, h1, h2, h4, h5⟩
  · exact .inl h
  · have hne' : some g ≠ row := by
      rcases hne with h | h
      · cases h
      · exact h
    have e := hg.block g (lt_of_heap hh) hne'
    exact .inr ⟨g, off, cap, cur, rfl, hb, e.trans hh, h1, h2, h4, fun j hj => (World.cell?_of_block (a := ⟨g, off + j, none⟩) e).trans (h5 j hj)⟩

theorem RowAt.base {w : World} {base base' : Nat} {v : Value} {st : List Int} (h : RowAt w base v st) (hb : base' ≤ base) : RowAt w base' v st := by
  rcases h with h | ⟨g, off, cap, cur, rfl, h0, h⟩
  · exact .inl h
  · exact .inr ⟨g, off, cap, cur, rfl, by omega, h⟩

theorem rowAt_owns {w : World} {base : Nat} {v : Value} {st : List Int} (h : w.ownsRow base 3 1 v st.length (st.map (Value.int .i64))) : RowAt w base v st := by
  obtain ⟨_, ⟨rfl, h0⟩ | ⟨g, cap, cur, rfl, hb, hg, h1, h2, h3, h4⟩⟩ := h
  · exact .inl ⟨rfl, List.length_eq_zero_iff.1 h0⟩
  · refine .inr ⟨g, 0, cap, cur, rfl, hb, hg, h1, by omega, h2, fun j hj => ?_⟩
    rw [cell_of_row w g _ cur 3 (0, 0) hg, Nat.zero_add]
    have := congrArg (·[j]?) h4
    simp only [Nat.mul_one] at this
    rw [List.getElem?_take_of_lt hj, List.getElem?_map, List.getElem?_eq_getElem hj] at this
    simpa using this

theorem grown_setCell (w : World) (a : Addr) (u : Value) : w.grownBy (w.setCell a u) (some a.block) :=
  ⟨rfl, rfl, rfl, by simp [World.setCell], fun k _ hne => by
    have : a.block ≠ k := fun e => hne (by rw [e])
    simp [World.setCell, Array.getElem?_modify, this]⟩
theorem grown_refl (w : World) (row : Option Nat) : w.grownBy w row := ⟨rfl, rfl, rfl, Nat.le_refl _, fun _ _ _ => rfl⟩
theorem grown_drew (w : World) (row : Option Nat) : w.grownBy w.drew row := ⟨rfl, rfl, rfl, Nat.le_refl _, fun _ _ _ => rfl⟩
theorem grown_drewN (w : World) (n : Nat) (row : Option Nat) : w.grownBy (w.drewN n) row := ⟨rfl, rfl, rfl, Nat.le_refl _, fun _ _ _ => rfl⟩
theorem grown_setCells (b : Nat) : ∀ (vs : List Value) (o : Nat) (w : World), w.grownBy (w.setCells b o vs) (some b)
  | [], _, w => grown_refl w _
  | v :: r, o, w => (grown_setCell w ⟨b, o, none⟩ v).trans (grown_setCells b r (o + 1) _)

theorem heap_setCell {w : World} {g : Nat} {cur : Array Value} {t : TypeId} {fr : Nat × Nat} (h : w.heap[g]? = some (.cells cur t fr)) (o : Nat) (u : Value) : ∃ cur', (w.setCell ⟨g, o, none⟩ u).heap[g]? = some (.cells cur' t fr) ∧ cur'.size = cur.size := by
  refine ⟨cur.setIfInBounds o u, ?_, by simp⟩
  simp [World.setCell, Array.getElem?_modify, h]
theorem heap_setCells {g : Nat} {t : TypeId} {fr : Nat × Nat} : ∀ (vs : List Value) (o : Nat) (w : World) (cur : Array Value), w.heap[g]? = some (.cells cur t fr) → ∃ cur', (w.setCells g o vs).heap[g]? = some (.cells cur' t fr) ∧ cur'.size = cur.size
  | [], _, _, cur, h => ⟨cur, h, rfl⟩
  | v :: r, o, w, cur, h => by
    obtain ⟨c1, h1, e1⟩ := heap_setCell h o v
    obtain ⟨c2, h2, e2⟩ := heap_setCells r (o + 1) _ c1 h1
    exact ⟨c2, h2, e2.trans e1⟩

section
variable {w : World} {g : Nat} {cur : Array Value}
theorem some_of_heap (h : w.heap[g]? = some (.cells cur 3 (0, 0))) {i : Nat} (hi : i < cur.size) : (w.cell? ⟨g, i, none⟩).isSome = true := by
  rw [cell_of_row w g i cur 3 (0, 0) h, Array.getElem?_eq_getElem hi]; rfl
theorem unfrozen_of_heap (h : w.heap[g]? = some (.cells cur 3 (0, 0))) (i : Nat) : w.frozen? ⟨g, i, none⟩ = false := frozen_of_row w g i cur 3 h
theorem shape_of_heap (h : w.heap[g]? = some (.cells cur 3 (0, 0))) : w.shape? g = some (3, cur.size) := by simp [World.shape?, h]
end

/-- A row that was written into, as a whole. -/
theorem rowAt_put {w' : World} {base g off cap : Nat} {cur : Array Value} {st : List Int} (hb : base ≤ g) (hg' : ∃ cur', w'.heap[g]? = some (.cells cur' 3 (0, 0)) ∧ cur'.size = cur.size)
    (h1 : st.length ≤ cap) (h2 : off + cap ≤ cur.size) (h4 : cap ≤ maxLen) (h5 : ∀ j, (hj : j < st.length) → w'.cell? ⟨g, off + j, none⟩ = some (.int .i64 st[j])) {n : Nat} (hn : n = st.length) : RowAt w' base (.slice (some ⟨g, off, none⟩) n cap) st := by
  subst hn
  obtain ⟨cur', e1, e2⟩ := hg'
  exact .inr ⟨g, off, cap, cur', rfl, hb, e1, h1, by omega, h4, h5⟩

end Go.Proofs.YtaopigjhdkdklaaDoor
