/-
  The statements' own 'flat' and 'bare', walked.
-/
import Derived.Test.YtibdchahallbjabDoorAtC
import Derived.Test.YtibdchahallbjabDoorGrM
namespace Go.Proofs.YtibdchahallbjabDoor
open Go.RowKit

end Go.Proofs.YtibdchahallbjabDoor
