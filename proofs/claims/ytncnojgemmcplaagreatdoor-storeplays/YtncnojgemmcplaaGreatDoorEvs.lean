/-
  Events as plain data, and rows of them in memory.
-/
import Derived.Test.YtncnojgemmcplaaGreatDoorPlainAZ
namespace Go.Proofs.YtncnojgemmcplaaGreatDoor
open Go.RowKit

/-- An event, its seven numbers. -/
structure Ev where
  p : Int
  t : Int
  k : Int
  d : Int
  a : Int
  b : Int
  r : Int

def Ev.cells (e : Ev) : List Value := [.int .i64 e.p, .int .i64 e.t, .int .i64 e.k, .int .i64 e.d, .int .i64 e.a, .int .i64 e.b, .int .i64 e.r]
def evCells (l : List Ev) : List Value := l.flatMap Ev.cells

/-- The seven cells of an event, from a place on. -/
def EvAt (w : World) (b off : Nat) (e : Ev) : Prop :=
  w.cell? ⟨b, off, none⟩ = some (.int .i64 e.p) ∧ w.cell? ⟨b, off + 1, none⟩ = some (.int .i64 e.t) ∧ w.cell? ⟨b, off + 2, none⟩ = some (.int .i64 e.k) ∧ w.cell? ⟨b, off + 3, none⟩ = some (.int .i64 e.d) ∧ w.cell? ⟨b, off + 4, none⟩ = some (.int .i64 e.a) ∧ w.cell? ⟨b, off + 5, none⟩ = some (.int .i64 e.b) ∧ w.cell? ⟨b, off + 6, none⟩ = some (.int .i64 e.r)

/-- A row of events, from a place on. -/
def EvsAt (w : World) (b off : Nat) (l : List Ev) : Prop := ∀ i, (h : i < l.length) → EvAt w b (off + i * 7) l[i]

theorem EvAt.below {w w' : World} {B b off : Nat} {e : Ev} (h : EvAt w b off e) (hb : b < B) (hn : Below B w w') : EvAt w' b off e := by
  obtain ⟨h0, h1, h2, h3, h4, h5, h6⟩ := h
  exact ⟨(hn.cell (p := ⟨b, off, none⟩) hb).trans h0, (hn.cell (p := ⟨b, off + 1, none⟩) hb).trans h1, (hn.cell (p := ⟨b, off + 2, none⟩) hb).trans h2, (hn.cell (p := ⟨b, off + 3, none⟩) hb).trans h3, (hn.cell (p := ⟨b, off + 4, none⟩) hb).trans h4, (hn.cell (p := ⟨b, off + 5, none⟩) hb).trans h5, (hn.cell (p := ⟨b, off + 6, none⟩) hb).trans h6⟩


end Go.Proofs.YtncnojgemmcplaaGreatDoor
