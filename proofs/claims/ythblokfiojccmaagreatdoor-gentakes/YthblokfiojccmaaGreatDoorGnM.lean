/-
  Numbers and a tape in memory.
-/
import Derived.Test.YthblokfiojccmaaGreatDoorProg
import Derived.Test.YthblokfiojccmaaGreatDoorGnP
import Derived.WalkKit
import Derived.WalkSpells
import Derived.WalkLawsBesides
import Derived.Laws.OwnMore
import Derived.Laws.AppendOwnNone
import Derived.Deep.QuietTactic
import Derived.BigQuiet
namespace Go.Proofs.YthblokfiojccmaaGreatDoor.Gn
open Go.RowKit

theorem hideIt {p : Prop} (h : p) : Hid p := h

theorem ret_int {k : IntKind} {a b : Int} (h : a = b) : Ending.returned (.int k a) = .returned (.int k b) := by rw [h]
theorem grown_set (W : World) (p : Addr) (v : Value) : W.grownBy (W.setCell p v) (some p.block) :=
  ⟨rfl, rfl, rfl, by simp [World.setCell], fun k _ hne => by
    have : p.block ≠ k := fun e => hne (by rw [e])
    simp [World.setCell, Array.getElem?_modify, this]⟩

/-- A slice of numbers that came in. -/
def InQ (w : World) (v : Value) (l : List Int) : Prop := ∃ a cap, v = .slice a l.length cap ∧ l.length ≤ cap ∧ (l = [] ∨ ∃ b off, a = some ⟨b, off, none⟩ ∧ b < w.heap.size ∧ ∀ i, (h : i < l.length) → w.cell? ⟨b, off + i, none⟩ = some (.int .i64 l[i]))

/-- A tape: from cell o of block B on; its numbers lie below. -/
structure TpAt (w : World) (base B o : Nat) (t : Tp) : Prop where
  row : ∃ a cap, w.cell? ⟨B, o, none⟩ = some (.slice a t.l.length cap) ∧ t.l.length ≤ cap ∧ (t.l = [] ∨ ∃ b off, a = some ⟨b, off, none⟩ ∧ b < base ∧ ∀ i, (h : i < t.l.length) → w.cell? ⟨b, off + i, none⟩ = some (.int .i64 t.l[i]))
  used : w.cell? ⟨B, o + 1, none⟩ = some (.int .i64 t.u)
  melt : w.frozen? ⟨B, o + 1, none⟩ = false
  lo : base ≤ B
theorem TpAt.lt {w : World} {base B o : Nat} {t : Tp} (h : TpAt w base B o t) : B < w.heap.size := World.block_lt_of_cell? w _ h.used

end Go.Proofs.YthblokfiojccmaaGreatDoor.Gn
