/-
  Moves in memory.
-/
import Derived.Test.YtggdjongbmdefaaDoorBsGZ
namespace Go.Proofs.YtggdjongbmdefaaDoor
open Go.RowKit

/-- A move: what, and three numbers. -/
structure Mvs where
  what : Int
  a : Int
  b : Int
  c : Int
def MvAt (w : World) (g o : Nat) (m : Mvs) : Prop := w.cell? ⟨g, o, none⟩ = some (.int .i64 m.what) ∧ w.cell? ⟨g, o + 1, none⟩ = some (.int .i64 m.a) ∧ w.cell? ⟨g, o + 2, none⟩ = some (.int .i64 m.b) ∧ w.cell? ⟨g, o + 3, none⟩ = some (.int .i64 m.c)
/-- A list of moves that is read. -/
def MvsQ (w : World) (a : Option Addr) (l : List Mvs) : Prop := l = [] ∨ ∃ g off, a = some ⟨g, off, none⟩ ∧ g < w.heap.size ∧ ∀ k (h : k < l.length), MvAt w g (off + k * 4) l[k]
theorem MvsQ.at {w : World} {a : Option Addr} {l : List Mvs} (h : MvsQ w a l) {k : Nat} (hk : k < l.length) : ∃ g off, a = some ⟨g, off, none⟩ ∧ g < w.heap.size ∧ MvAt w g (off + k * 4) l[k] := by
  rcases h with rfl | ⟨g, off, e, hg, h⟩
  · simp at hk
  · exact ⟨g, off, e, hg, h k hk⟩
theorem MvsQ.below {w w' : World} {a : Option Addr} {l : List Mvs} (h : MvsQ w a l) (hb : Below w.heap.size w w') : MvsQ w' a l :=
  h.imp id fun ⟨g, off, e, hg, h⟩ => ⟨g, off, e, Nat.lt_of_lt_of_le hg hb.size, fun k hk => by
    obtain ⟨h0, h1, h2, h3⟩ := h k hk
    exact ⟨(hb.cell (p := ⟨g, off + k * 4, none⟩) hg).trans h0, (hb.cell (p := ⟨g, off + k * 4 + 1, none⟩) hg).trans h1, (hb.cell (p := ⟨g, off + k * 4 + 2, none⟩) hg).trans h2, (hb.cell (p := ⟨g, off + k * 4 + 3, none⟩) hg).trans h3⟩⟩
end Go.Proofs.YtggdjongbmdefaaDoor
