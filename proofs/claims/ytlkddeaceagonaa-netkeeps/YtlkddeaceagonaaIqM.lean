/-
  Lists of numbers in memory.
-/
import Derived.Test.YtlkddeaceagonaaBsG
namespace Go.Proofs.Ytlkddeaceagonaa
open Go.RowKit

/-- A list of numbers that is read. -/
def IntsQ (w : World) (a : Option Addr) (l : List Int) : Prop := l = [] ∨ ∃ g off, a = some ⟨g, off, none⟩ ∧ g < w.heap.size ∧ ∀ j (h : j < l.length), w.cell? ⟨g, off + j, none⟩ = some (.int .i64 l[j])
theorem IntsQ.at {w : World} {a : Option Addr} {l : List Int} (h : IntsQ w a l) {k : Nat} (hk : k < l.length) : ∃ g off, a = some ⟨g, off, none⟩ ∧ g < w.heap.size ∧ w.cell? ⟨g, off + k, none⟩ = some (.int .i64 l[k]) := by
  rcases h with rfl | ⟨g, off, e, hg, h⟩
  · simp at hk
  · exact ⟨g, off, e, hg, h k hk⟩
theorem IntsQ.below {w w' : World} {a : Option Addr} {l : List Int} (h : IntsQ w a l) (hb : Below w.heap.size w w') : IntsQ w' a l :=
  h.imp id fun ⟨g, off, e, hg, h⟩ => ⟨g, off, e, Nat.lt_of_lt_of_le hg hb.size, fun j hj => (hb.cell (p := ⟨g, off + j, none⟩) hg).trans (h j hj)⟩
end Go.Proofs.Ytlkddeaceagonaa
