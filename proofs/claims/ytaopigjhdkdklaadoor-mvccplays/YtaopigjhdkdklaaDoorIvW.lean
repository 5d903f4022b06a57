/-
  The program's versionsOf, walked: how often each transaction writes each key.
-/
import Derived.Test.YtaopigjhdkdklaaDoorIsM
import Derived.Deep.MidRow
import Derived.Deep.WholeRow
namespace Go.Proofs.YtaopigjhdkdklaaDoor
open Go.RowKit



theorem results_one {fn : Func} {p : Tmp} {ty : TypeId} (h : fn.results = #[.cell p ty]) (tmps : Array Value) (w : World) (g : Nat) (v : Value)
    (hp : tmps.getD p undef = .pointer (some ⟨g, 0, none⟩)) (hl : (loadVar ty ⟨g, 0, none⟩).run Tryd.prog w = .ok v w) : (results fn tmps).run Tryd.prog w = .ok v w := by
  have hp' : tmps[p]?.getD undef = .pointer (some ⟨g, 0, none⟩) := by simpa using hp
  simp [results, h, hp', asAddr, hl]
theorem cellA {w : World} {o : Obj} {p : Addr} {x : Value} (h : w.cell? p = some x) : (w.alloc o).cell? p = some x := by
  rw [World.cell?_alloc_lt _ _ p (World.block_lt_of_cell? w _ h)]
  exact h

end Go.Proofs.YtaopigjhdkdklaaDoor
