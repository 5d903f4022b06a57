/-
  Events in memory.
-/
import Derived.Test.YtdncnljcihblbaaDoorEnW
namespace Go.Proofs.YtdncnljcihblbaaDoor
open Go.RowKit

def Ev.cells (e : Ev) : List Value := [.int .i64 e.p, .int .i64 e.t, .int .i64 e.k, .int .i64 e.d, .int .i64 e.a, .int .i64 e.b, .int .i64 e.r]
def evCells (l : List Ev) : List Value := l.flatMap Ev.cells
theorem evCells_snoc (l : List Ev) (e : Ev) : evCells (l ++ [e]) = evCells l ++ e.cells := by simp [evCells]
theorem infoE : (Tryd.prog.info? 23).map (fun i => (i.zero, i.size, i.bytes)) = some (some (.agg #[.int .i64 0, .int .i64 0, .int .i64 0, .int .i64 0, .int .i64 0, .int .i64 0, .int .i64 0]), 7, 56) := by kernel_rfl
/-- The seven cells of an event, from a place on. -/
def EvAt (w : World) (b off : Nat) (e : Ev) : Prop :=
  w.cell? ⟨b, off, none⟩ = some (.int .i64 e.p) ∧ w.cell? ⟨b, off + 1, none⟩ = some (.int .i64 e.t) ∧ w.cell? ⟨b, off + 2, none⟩ = some (.int .i64 e.k) ∧ w.cell? ⟨b, off + 3, none⟩ = some (.int .i64 e.d) ∧ w.cell? ⟨b, off + 4, none⟩ = some (.int .i64 e.a) ∧ w.cell? ⟨b, off + 5, none⟩ = some (.int .i64 e.b) ∧ w.cell? ⟨b, off + 6, none⟩ = some (.int .i64 e.r)
/-- A row of events, from a place on. -/
def EvsAt (w : World) (b off : Nat) (l : List Ev) : Prop := ∀ i, (h : i < l.length) → EvAt w b (off + i * 7) l[i]
theorem EvAt.below {w w' : World} {B b off : Nat} {e : Ev} (h : EvAt w b off e) (hb : b < B) (hn : Below B w w') : EvAt w' b off e := by
  obtain ⟨h0, h1, h2, h3, h4, h5, h6⟩ := h
  exact ⟨(hn.cell (p := ⟨b, off, none⟩) hb).trans h0, (hn.cell (p := ⟨b, off + 1, none⟩) hb).trans h1, (hn.cell (p := ⟨b, off + 2, none⟩) hb).trans h2, (hn.cell (p := ⟨b, off + 3, none⟩) hb).trans h3, (hn.cell (p := ⟨b, off + 4, none⟩) hb).trans h4, (hn.cell (p := ⟨b, off + 5, none⟩) hb).trans h5, (hn.cell (p := ⟨b, off + 6, none⟩) hb).trans h6⟩
/-- A slice of events that came in. -/
def EvQ (w : World) (v : Value) (l : List Ev) : Prop := ∃ a cap, v = .slice a l.length cap ∧ l.length ≤ cap ∧ (l = [] ∨ ∃ b off, a = some ⟨b, off, none⟩ ∧ b < w.heap.size ∧ EvsAt w b off l)
/-- A slice of bools that came in. -/
def BoQ (w : World) (v : Value) (l : List Bool) : Prop := ∃ a cap, v = .slice a l.length cap ∧ l.length ≤ cap ∧ (l = [] ∨ ∃ b off, a = some ⟨b, off, none⟩ ∧ b < w.heap.size ∧ ∀ i, (h : i < l.length) → w.cell? ⟨b, off + i, none⟩ = some (.bool l[i]))
/-- A slice of numbers that came in. -/
def InQ (w : World) (v : Value) (l : List Int) : Prop := ∃ a cap, v = .slice a l.length cap ∧ l.length ≤ cap ∧ (l = [] ∨ ∃ b off, a = some ⟨b, off, none⟩ ∧ b < w.heap.size ∧ ∀ i, (h : i < l.length) → w.cell? ⟨b, off + i, none⟩ = some (.int .i64 l[i]))

end Go.Proofs.YtdncnljcihblbaaDoor
