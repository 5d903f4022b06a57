/-
  The statement GraphOrders, walked.
-/
import Derived.Test.YtibdchahallbjabDoorPoW
import Derived.Test.YtibdchahallbjabDoorFlW
import Derived.Test.YtibdchahallbjabDoorSmBZ
namespace Go.Proofs.YtibdchahallbjabDoor
open Go.RowKit

/-- A graph that came in, and what the listed variable holds. -/
structure InG (w : World) (a : Option Addr) (cap : Nat) (R : List (List Bool)) : Prop where
  max : R.length ≤ maxLen
  row : ∀ r ∈ R, r.length ≤ maxLen
  at_ : GrQ w a R
  typ : TypAt w
theorem InG.below {w w' : World} {a : Option Addr} {cap : Nat} {R : List (List Bool)} (h : InG w a cap R) (hb : Below w.heap.size w w') : InG w' a cap R := ⟨h.max, h.row, h.at_.below hb, h.typ.below hb⟩
theorem oL_len (R : List (List Bool)) : (natI (oL R)).length ≤ 60 := by
  unfold natI oL
  rw [List.length_map]
  split
  · rename_i ok
    cases h : ordG (gB R) R.length R.length with
    | none => simp
    | some L => simp; rw [(ordG_ok h).1]; have := (ckG_ok ok).1; omega
  · simp

end Go.Proofs.YtibdchahallbjabDoor
