/-
  The document's Level, walked.
-/
import Derived.Test.YtodanhjookgbeaaDoorJfW
namespace Go.Proofs.YtodanhjookgbeaaDoor
open Go.RowKit

set_option maxRecDepth 100000 in
set_option maxHeartbeats 2000000 in
theorem dLevel_any (s : ISt) (ok : IOk s) (a b : Option Addr) (ca cb : Nat) (w : World) (h : StyQ w a ca b cb s) :
    Calls Tryd.prog 14 #[.agg #[.slice a s.txs.length ca, .slice b s.ord.length cb]] w fun e w' => e = .returned (.int .i64 (lvlI s)) ∧ Below w.heap.size w w' := by
  have HB : Hid (Below w.heap.size w (w.alloc (.cells #[.slice a s.txs.length ca, .slice b s.ord.length cb] 28))) := belA (Below.refl _ _) _
  have HF := hideIt (dFinds_any s ok a b ca cb _ (h.below HB.out))
  clear h ok
  go_enter Tryd.func14, Tryd.ntmps14
  go_wp2_with fail
  refine HF.out.mono ?_
  rintro e w1 ⟨B, rfl, hB, hb1⟩
  have HB1 := hideIt (belJ HB.out hb1)
  clear HF hb1 HB
  have c0 := hB.bit 0 (by omega)
  have c1 := hB.bit 1 (by omega)
  have c2 := hB.bit 2 (by omega)
  have c3 := hB.bit 3 (by omega)
  have c5 := hB.bit 5 (by omega)
  have HE : Hid (∀ r : Int, (if fndB s 0 = true then 0 else if fndB s 1 = true ∨ fndB s 2 = true ∨ fndB s 3 = true then 1 else if fndB s 5 = true then 2 else 3) = r → (Ending.returned (.int .i64 r)) = .returned (.int .i64 (lvlI s)) ∧ Below w.heap.size w w1) := fun r hr => ⟨by rw [show lvlI s = r from hr], HB1.out⟩
  clear hB
  generalize fndB s 0 = x0 at *
  generalize fndB s 1 = x1 at *
  generalize fndB s 2 = x2 at *
  generalize fndB s 3 = x3 at *
  generalize fndB s 5 = x5 at *
  cases x0
  · cases x1
    · cases x2
      · cases x3
        · cases x5
          · have HE2 := hideIt (HE.out 3 (by simp))
            clear HE
            go_wp2
            go_ret
            exact HE2.out
          · have HE2 := hideIt (HE.out 2 (by simp))
            clear HE
            go_wp2
            go_ret
            exact HE2.out
        · have HE2 := hideIt (HE.out 1 (by simp))
          clear HE
          go_wp2
          go_ret
          exact HE2.out
      · have HE2 := hideIt (HE.out 1 (by simp))
        clear HE
        go_wp2
        go_ret
        exact HE2.out
    · have HE2 := hideIt (HE.out 1 (by simp))
      clear HE
      go_wp2
      go_ret
      exact HE2.out
  · have HE2 := hideIt (HE.out 0 (by simp))
    clear HE
    go_wp2
    go_ret
    exact HE2.out
end Go.Proofs.YtodanhjookgbeaaDoor
