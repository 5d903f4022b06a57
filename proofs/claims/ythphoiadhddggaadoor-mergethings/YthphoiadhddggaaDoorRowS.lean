/-
  A state in memory that is one's own: a row of numbers, from some block on, that may be written into.
-/
import Derived.Test.YthphoiadhddggaaDoorThW
import Derived.Laws.AppendOwn
import Derived.Laws.IdiomCopy
import Derived.Laws.Rows
import Derived.Sort.Row
import Derived.Maps.AppendAt
import Derived.Maps.Range
import Derived.Maps.RangeWalk
import Derived.Deep.Draws
namespace Go.Proofs.YthphoiadhddggaaDoor
open Go.RowKit

def RowAt (w : World) (base : Nat) (v : Value) (st : List Int) : Prop :=
  (v = .slice none 0 0 ∧ st = []) ∨
  ∃ g off cap cur, v = .slice (some ⟨g, off, none⟩) st.length cap ∧ base ≤ g ∧ w.heap[g]? = some (.cells cur 3 (0, 0)) ∧ st.length ≤ cap ∧ off + cap ≤ cur.size ∧ cap ≤ maxLen ∧
    ∀ j, (hj : j < st.length) → w.cell? ⟨g, off + j, none⟩ = some (.int .i64 st[j])

theorem lt_of_heap {w : World} {g : Nat} {o : Obj} (h : w.heap[g]? = some o) : g < w.heap.size := by
  rcases Nat.lt_or_ge g w.heap.size with hlt | hge
  · exact hlt
  · rw [Array.getElem?_eq_none hge] at h; cases h

theorem rowAt_nil (w : World) (base : Nat) : RowAt w base (.slice none 0 0) [] := .inl ⟨rfl, rfl⟩

theorem RowAt.lt {w : World} {base : Nat} {v : Value} {st : List Int} (h : RowAt w base v st) : ∀ k, v.ownBlock = some k → base ≤ k ∧ k < w.heap.size := by
  intro k hk
  rcases h with ⟨rfl, _⟩ | ⟨g, off, cap, cur, rfl, hb, hg, _⟩
  · cases hk
  · obtain rfl : g = k := by simpa [Value.ownBlock] using hk
    exact ⟨hb, lt_of_heap hg⟩

theorem RowAt.kept {w w' : World} {base : Nat} {v : Value} {st : List Int} {row : Option Nat} (h : RowAt w base v st) (hg : w.grownBy w' row) (hne : v.ownBlock = none ∨ v.ownBlock ≠ row) : RowAt w' base v st := by
  rcases h with h | ⟨g, off, cap, cur, rfl, hb, hh, h1, h2, h4, h5⟩
  · exact .inl h
  · have hne' : some g ≠ row := by
      rcases hne with h | h
      · cases h
      · exact h
    have e := hg.block g (lt_of_heap hh) hne'
    exact .inr ⟨g, off, cap, cur, rfl, hb, e.trans hh, h1, h2, h4, fun j hj => (World.cell?_of_block (a := ⟨g, off + j, none⟩) e).trans (h5 j hj)⟩

theorem RowAt.base {w : World} {base base' : Nat} {v : Value} {st : List Int} (h : RowAt w base v st) (hb : base' ≤ base) : RowAt w base' v st := by
  rcases h with h | ⟨g, off, cap, cur, rfl, h0, h⟩
  · exact .inl h
  · exact .inr ⟨g, off, cap, cur, rfl, by omega, h⟩

theorem rowAt_owns {w : World} {base : Nat} {v : Value} {st : List Int} (h : w.ownsRow base 3 1 v st.length (st.map (Value.int .i64))) : RowAt w base v st := by
  obtain ⟨_, ⟨rfl, h0⟩ | ⟨g, cap, cur, rfl, hb, hg, h1, h2, h3, h4⟩⟩ := h
  · exact .inl ⟨rfl, List.length_eq_zero_iff.1 h0⟩
  · refine .inr ⟨g, 0, cap, cur, rfl, hb, hg, h1, by omega, h2, fun j hj => ?_⟩
    rw [cell_of_row w g _ cur 3 (0, 0) hg, Nat.zero_add]
    have := congrArg (·[j]?) h4
    simp only [Nat.mul_one] at this
    rw [List.getElem?_take_of_lt hj, List.getElem?_map, List.getElem?_eq_getElem hj] at this
    simpa using this

theorem grown_setCell (w : World) (a : Addr) (u : Value) : w.grownBy (w.setCell a u) (some a.block) :=
  ⟨rfl, rfl, rfl, by simp [World.setCell], fun k _ hne => by
    have : a.block ≠ k := fun e => hne (by rw [e])
    simp [World.setCell, Array.getElem?_modify, this]⟩
theorem grown_refl (w : World) (row : Option Nat) : w.grownBy w row := ⟨rfl, rfl, rfl, Nat.le_refl _, fun _ _ _ => rfl⟩
theorem grown_drew (w : World) (row : Option Nat) : w.grownBy w.drew row := ⟨rfl, rfl, rfl, Nat.le_refl _, fun _ _ _ => rfl⟩
theorem grown_drewN (w : World) (n : Nat) (row : Option Nat) : w.grownBy (w.drewN n) row := ⟨rfl, rfl, rfl, Nat.le_refl _, fun _ _ _ => rfl⟩
theorem grown_setCells (b : Nat) : ∀ (vs : List Value) (o : Nat) (w : World), w.grownBy (w.setCells b o vs) (some b)
  | [], _, w => grown_refl w _
  | v :: r, o, w => (grown_setCell w ⟨b, o, none⟩ v).trans (grown_setCells b r (o + 1) _)

theorem heap_setCell {w : World} {g : Nat} {cur : Array Value} {t : TypeId} {fr : Nat × Nat} (h : w.heap[g]? = some (.cells cur t fr)) (o : Nat) (u : Value) : ∃ cur', (w.setCell ⟨g, o, none⟩ u).heap[g]? = some (.cells cur' t fr) ∧ cur'.size = cur.size := by
  refine ⟨cur.setIfInBounds o u, ?_, by simp⟩
  simp [World.setCell, Array.getElem?_modify, h]
theorem heap_setCells {g : Nat} {t : TypeId} {fr : Nat × Nat} : ∀ (vs : List Value) (o : Nat) (w : World) (cur : Array Value), w.heap[g]? = some (.cells cur t fr) → ∃ cur', (w.setCells g o vs).heap[g]? = some (.cells cur' t fr) ∧ cur'.size = cur.size
  | [], _, _, cur, h => ⟨cur, h, rfl⟩
  | v :: r, o, w, cur, h => by
    obtain ⟨c1, h1, e1⟩ := heap_setCell h o v
    obtain ⟨c2, h2, e2⟩ := heap_setCells r (o + 1) _ c1 h1
    exact ⟨c2, h2, e2.trans e1⟩

section
variable {w : World} {g : Nat} {cur : Array Value}
theorem some_of_heap (h : w.heap[g]? = some (.cells cur 3 (0, 0))) {i : Nat} (hi : i < cur.size) : (w.cell? ⟨g, i, none⟩).isSome = true := by
  rw [cell_of_row w g i cur 3 (0, 0) h, Array.getElem?_eq_getElem hi]; rfl
theorem unfrozen_of_heap (h : w.heap[g]? = some (.cells cur 3 (0, 0))) (i : Nat) : w.frozen? ⟨g, i, none⟩ = false := frozen_of_row w g i cur 3 h
theorem shape_of_heap (h : w.heap[g]? = some (.cells cur 3 (0, 0))) : w.shape? g = some (3, cur.size) := by simp [World.shape?, h]
end

/-- A row that was written into, as a whole. -/
theorem rowAt_put {w' : World} {base g off cap : Nat} {cur : Array Value} {st : List Int} (hb : base ≤ g) (hg' : ∃ cur', w'.heap[g]? = some (.cells cur' 3 (0, 0)) ∧ cur'.size = cur.size)
    (h1 : st.length ≤ cap) (h2 : off + cap ≤ cur.size) (h4 : cap ≤ maxLen) (h5 : ∀ j, (hj : j < st.length) → w'.cell? ⟨g, off + j, none⟩ = some (.int .i64 st[j])) {n : Nat} (hn : n = st.length) : RowAt w' base (.slice (some ⟨g, off, none⟩) n cap) st := by
  subst hn
  obtain ⟨cur', e1, e2⟩ := hg'
  exact .inr ⟨g, off, cap, cur', rfl, hb, e1, h1, by omega, h4, h5⟩

end Go.Proofs.YthphoiadhddggaaDoor
