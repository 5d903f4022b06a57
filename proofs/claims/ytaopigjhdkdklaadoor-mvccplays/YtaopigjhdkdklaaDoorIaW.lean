/-
  The program's All, walked: the edges of a story.
-/
import Derived.Test.YtaopigjhdkdklaaDoorIvW
import Derived.Test.YtaopigjhdkdklaaDoorWalkB
import Derived.Deep.RegionHeld3
import Derived.Laws.EntriesVeiled
import Derived.Deep.CutBlock
import Derived.Deep.DeepCutAuto
import Derived.Test.YtaopigjhdkdklaaDoorMnP
import Derived.RegionTactic
import Derived.Test.YtaopigjhdkdklaaDoorMatP
import Derived.Deep.QuietTactic
import Derived.BigQuiet
import Derived.ArgAppend
import Derived.Lib.JoinLaws
import Derived.Test.YtaopigjhdkdklaaDoorGhPZ
import Derived.Test.YtaopigjhdkdklaaDoorSmIZ
import Derived.WalkSmall
import Derived.RangeFuncNested
import Derived.RangeFuncBound
import Derived.RangeFuncCalls
import Derived.RangeFuncLeaves
import Derived.Shelf.Abstract
import Derived.OwnWalkIn
import Derived.TacticsInMore
import Derived.LoopNIn
import Derived.LoopIn
import Derived.Test.YtaopigjhdkdklaaDoorRgRZ
namespace Go.Proofs.YtaopigjhdkdklaaDoor
open Go.RowKit Go.Shelf
attribute [local go_sem] Oper.semAt_some


/-- As asked, and never a panic. -/
def noPan (Q : Exit → Act → World → Prop) : Exit → Act → World → Prop := fun e a w => match e with
  | .panic _ => False
  | e => Q e a w
theorem noPan_spec {Q : Exit → Act → World → Prop} : ∀ e a w, noPan Q e a w → Q e a w := fun e a w h => by
  cases e <;> first | exact h | exact h.elim

end Go.Proofs.YtaopigjhdkdklaaDoor
