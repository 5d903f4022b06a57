/-
  Run of package model: walked.
-/
import Derived.Test.YtfojmbbhcmeejaaDoorMapRZ
import Derived.Carry
namespace Go.Proofs.YtfojmbbhcmeejaaDoor
open Go.RowKit

/-- A list of ops in memory, to be read. -/
def HasOps (w : World) (v : Value) (l : List Opn) : Prop :=
  ∃ a cap, v = .slice a l.length cap ∧ l.length ≤ maxLen ∧ (l = [] ∨ ∃ b off, a = some ⟨b, off, none⟩ ∧ ∀ i, (hi : i < l.length) → OpAt w b (off + i * 8) l[i])

theorem OpAt.bel {w w' : World} {b off : Nat} {x : Opn} {n : Nat} (h : OpAt w b off x) (hb : Below n w w') (hn : b < n) : OpAt w' b off x := by
  obtain ⟨h0, h1, h2, h3, h4, h5, h6, h7⟩ := h
  exact ⟨(hb.cell hn).trans h0, (hb.cell hn).trans h1, (hb.cell hn).trans h2, (hb.cell hn).trans h3, (hb.cell hn).trans h4, (hb.cell hn).trans h5, (hb.cell hn).trans h6, (hb.cell hn).trans h7⟩
theorem HasOps.below {w w' : World} {v : Value} {l : List Opn} (h : HasOps w v l) (hb : Below w.heap.size w w') : HasOps w' v l := by
  obtain ⟨a, cap, rfl, hm, h⟩ := h
  refine ⟨a, cap, rfl, hm, ?_⟩
  rcases h with h | ⟨b, off, rfl, h⟩
  · exact .inl h
  · exact .inr ⟨b, off, rfl, fun i hi => (h i hi).bel hb (h i hi).lt⟩

end Go.Proofs.YtfojmbbhcmeejaaDoor
