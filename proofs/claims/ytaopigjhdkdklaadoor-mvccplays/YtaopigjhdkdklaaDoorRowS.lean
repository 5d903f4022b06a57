/-
  A state in memory that is one's own: a row of numbers, from some block on, that may be written into.
-/
import Derived.WalkKit
import Derived.Laws.AppendOwn
import Derived.Laws.IdiomCopy
import Derived.Laws.Rows
import Derived.Sort.Row
import Derived.Maps.AppendAt
import Derived.Maps.Range
import Derived.Maps.RangeWalk
import Derived.Deep.Draws
namespace Go.Proofs.YtaopigjhdkdklaaDoor
open Go.RowKit

def RowAt (w : World) (base : Nat) (v : Value) (st : List Int) : Prop :=
  (v = .slice none 0 0 ∧ st = []) ∨
  ∃ g off cap cur, v = .slice (some ⟨g, off, none⟩) st.length cap ∧ base ≤ g ∧ w.heap[g]? = some (.cells cur 3 (0, 0)) ∧ st.length ≤ cap ∧ off + cap ≤ cur.size ∧ cap ≤ maxLen ∧
    ∀ j, (hj : j < st.length) → w.cell? ⟨g, off + j, none⟩ = some (.int .i64 st[j])

theorem lt_of_heap {w : World} {g : Nat} {o : Obj} (h : w.heap[g]? = some o) : g < w.heap.size := by
  rcases Nat.lt_or_ge g w.heap.size with hlt | hge
  · exact hlt
  · rw [Array.getElem?_eq_none hge] at h; cases h





theorem rowAt_owns {w : World} {base : Nat} {v : Value} {st : List Int} (h : w.ownsRow base 3 1 v st.length (st.map (Value.int .i64))) : RowAt w base v st := by
  obtain ⟨_, ⟨rfl, h0⟩ | ⟨g, cap, cur, rfl, hb, hg, h1, h2, h3, h4⟩⟩ := h
  · exact .inl ⟨rfl, List.length_eq_zero_iff.1 h0⟩
  · refine .inr ⟨g, 0, cap, cur, rfl, hb, hg, h1, by omega, h2, fun j hj => ?_⟩
    rw [cell_of_row w g _ cur 3 (0, 0) hg, Nat.zero_add]
    have := congrArg (·[j]?) h4
    simp only [Nat.mul_one] at this
    rw [List.getElem?_take_of_lt hj, List.getElem?_map, List.getElem?_eq_getElem hj] at this
    simpa using this


theorem heap_setCell {w : World} {g : Nat} {cur : Array Value} {t : TypeId} {fr : Nat × Nat} (h : w.heap[g]? = some (.cells cur t fr)) (o : Nat) (u : Value) : ∃ cur', (w.setCell ⟨g, o, none⟩ u).heap[g]? = some (.cells cur' t fr) ∧ cur'.size = cur.size := by
  refine ⟨cur.setIfInBounds o u, ?_, by simp⟩
  simp [World.setCell, Array.getElem?_modify, h]

section
variable {w : World} {g : Nat} {cur : Array Value}
end


end Go.Proofs.YtaopigjhdkdklaaDoor
