/-
  What the listed variables hold; ops that came in, opened.
-/
import Derived.Test.YtndogemgjjgbgabDoorOpenO
import Derived.Test.YtndogemgjjgbgabDoorCheckW
namespace Go.Proofs.YtndogemgjjgbgabDoor
open Go.ChangeShapes Go.WideShapes Go.ChangeAt Go.RowKit


section
variable {H : Type} {enc : TypeId × Value → H} {w : World} {base : Nat} {spare : Nat → Bool} {held : Bool}
theorem opsIn_of_Trod {a : Option Addr} {len cap : Nat} {d : DataW H} {ps : List MemPlace} (h : DataW.Trod enc Tryd.prog w base spare held 24 (.slice a len cap) d ps) :
    ∃ l : List Opn, OpsIn w (.slice a len cap) l := by
  obtain ⟨fuel, hf⟩ := h
  obtain ⟨hm, h | ⟨hp, hc, b, off, l, rfl, hl, hb, ho⟩⟩ := ops_of_trod (x := (d, ps)) (by simpa [Value.cells] using hf)
  · subst h
    exact ⟨[], a, cap, rfl, Nat.zero_le _, by decide, .inl rfl⟩
  · exact ⟨l, _, cap, by rw [hl], by rw [hl]; exact hc, by rw [hl]; exact hm, .inr ⟨b, off, rfl, hb, ho⟩⟩
end
end Go.Proofs.YtndogemgjjgbgabDoor
