/-
  What inOrder of package event does.
-/
import Derived.Test.YtbmnehnmmlfhdaaDoorWalkCZ
import Derived.Deep.QuietTactic
import Derived.BigQuiet
namespace Go.Proofs.YtbmnehnmmlfhdaaDoor
open Go.RowKit

theorem lastOk_nil (x : Opn) : lastOk [] x = true := rfl
theorem lastOk_pos (l : List Opn) (x : Opn) (h : 0 < l.length) : lastOk l x = decide ((l[l.length - 1]'(by omega)).c < x.c) := by
  unfold lastOk
  rw [List.getLast?_eq_getElem?, List.getElem?_eq_getElem (by omega)]

/-- The tail of inOrder: times of one op. -/
def timesB (x : Opn) : Bool := if x.e = -1 then x.r == 0 else decide (x.c < x.e)

theorem orderB_neg (l : List Opn) (x : Opn) (h : x.c < 0) : orderB l x = false := by
  have e : decide (0 ≤ x.c) = false := by simp; omega
  unfold orderB; rw [e]; rfl
theorem orderB_last (l : List Opn) (x : Opn) (h : lastOk l x = false) : orderB l x = false := by simp [orderB, h]
theorem orderB_times (l : List Opn) (x : Opn) (h : ¬ x.c < 0) (h2 : lastOk l x = true) : orderB l x = timesB x := by
  have e : decide (0 ≤ x.c) = true := by simp; omega
  unfold orderB timesB; rw [e, h2]; rfl

end Go.Proofs.YtbmnehnmmlfhdaaDoor
