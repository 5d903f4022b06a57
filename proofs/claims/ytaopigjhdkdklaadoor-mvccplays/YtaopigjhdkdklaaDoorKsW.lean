/-
  The statements' own skews, walked: the story that it tells.
-/
import Derived.Test.YtaopigjhdkdklaaDoorIvW
import Derived.Test.YtaopigjhdkdklaaDoorWalkB
import Derived.Deep.RegionHeld3
import Derived.Laws.EntriesVeiled
import Derived.Deep.CutBlock
import Derived.Deep.DeepCutAuto
import Derived.Test.YtaopigjhdkdklaaDoorMnP
namespace Go.Proofs.YtaopigjhdkdklaaDoor
open Go.RowKit


theorem two_load {w : World} {g : Nat} {t : TypeId} {x y : Value} (h : w.heap[g]? = some (.cells #[x, y] t (0, 0))) : (loadVar 44 ⟨g, 0, none⟩).run Tryd.prog w = .ok (.agg #[x, y]) w :=
  run_loadVar_mid w g 0 44 [x, y] _ (fun j v hv => by rw [Nat.zero_add, cell_of_row _ _ _ _ t _ h]; simpa using hv) Tryd.underlying44 rfl (by kernel_rfl)

end Go.Proofs.YtaopigjhdkdklaaDoor
