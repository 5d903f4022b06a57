/-
  What errors.As does at a target of type *api.Errno: at an Errno itself, and at an error that has one within.
  errors.As at a target of type *api.Errno, walked: at an Errno itself.
  What api.Tell and plain.Place tell of nil and of an Errno.
  What the statements' own 'at' and 'bare' tell of nil and of an Errno.
-/
import Derived.Test.YthmiocbihhbdpaaWalkAZ
import Derived.LaidEql
import Derived.Stop.Asserts
import Derived.RowKitTokens
namespace Go.Proofs.Ythmiocbihhbdpaa
open Go.RowKit Go.Extern.Stop Go.Stop Go.Extern

end Go.Proofs.Ythmiocbihhbdpaa

namespace Go.Proofs.Ythmiocbihhbdpaa
open Go.RowKit Go.Extern.Stop Go.Stop Go.Extern

end Go.Proofs.Ythmiocbihhbdpaa

namespace Go.Proofs.Ythmiocbihhbdpaa
open Go.RowKit Go.Extern.Stop Go.Stop Go.Extern

end Go.Proofs.Ythmiocbihhbdpaa

namespace Go.Proofs.Ythmiocbihhbdpaa
open Go.RowKit Go.Extern.Stop Go.Stop Go.Extern

theorem glob_alloc {w : World} {o : Obj} {x : Value} (hg : w.cell? ⟨1, 0, none⟩ = some x) : (w.alloc o).cell? ⟨1, 0, none⟩ = some x := by
  have hlt : 1 < w.heap.size := by
    rcases Nat.lt_or_ge 1 w.heap.size with h | h
    · exact h
    · simp [World.cell?, Array.getElem?_eq_none h] at hg
  rw [World.cell?_alloc_lt _ _ ⟨1, 0, none⟩ hlt]; exact hg

theorem toldV_zero : toldV 0 = .nilIface := by simp [toldV]
theorem toldV_pos {n : Int} (h : n ≠ 0) : toldV n = .iface 45 (.int .i64 n) := by simp [toldV, h]

end Go.Proofs.Ythmiocbihhbdpaa
