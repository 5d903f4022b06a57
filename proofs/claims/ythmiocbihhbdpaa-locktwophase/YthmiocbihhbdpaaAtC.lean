/-
  errors.As at a target of type *api.Errno, walked: at an *api.At, which leads to an Errno; what 'at' of the statements tells of it.
-/
import Derived.Test.YthmiocbihhbdpaaAsZ
import Derived.Test.YthmiocbihhbdpaaCsW
import Derived.RegionTactic
import Derived.Deep.RegionHeld3
namespace Go.Proofs.Ythmiocbihhbdpaa
open Go.RowKit Go.Extern.Stop Go.Stop Go.Extern

theorem at64yes64 (v : Value) (w : World) : (Instr.typeAssert (.iface 89 v) 29 89 true).run Try.prog w = .ok (.tuple #[v, .bool true]) w := by kernel_rfl

/-- An error: none, a bare one, one at a place. -/
def ErrAt (w : World) (v : Value) (n pl : Int) : Prop :=
  (n = 0 ∧ pl = -1 ∧ v = .nilIface) ∨ (n ≠ 0 ∧ pl = -1 ∧ v = .iface 45 (.int .i64 n)) ∨ (n ≠ 0 ∧ pl ≠ -1 ∧ ∃ g, v = .iface 89 (.pointer (some ⟨g, 0, none⟩)) ∧ g < w.heap.size ∧ w.cell? ⟨g, 0, none⟩ = some (.int .i64 n) ∧ w.cell? ⟨g, 1, none⟩ = some (.int .i64 pl))
theorem ErrAt.below {w w' : World} {v : Value} {n pl : Int} (h : ErrAt w v n pl) (hb : Below w.heap.size w w') : ErrAt w' v n pl := by
  rcases h with h | h | ⟨h1, h2, g, rfl, hg, c0, c1⟩
  · exact .inl h
  · exact .inr (.inl h)
  · exact .inr (.inr ⟨h1, h2, g, rfl, Nat.lt_of_lt_of_le hg hb.size, (hb.cell (p := ⟨g, 0, none⟩) hg).trans c0, (hb.cell (p := ⟨g, 1, none⟩) hg).trans c1⟩)

end Go.Proofs.Ythmiocbihhbdpaa
