/-
  Numbers that came in, opened.
-/
import Derived.Test.YtdncnljcihblbaaDoorOpenR
namespace Go.Proofs.YtdncnljcihblbaaDoor
open Go.ChangeShapes Go.WideShapes Go.ChangeAt Go.RowKit

section
variable {H : Type} {enc : TypeId × Value → H} {w : World} {base : Nat} {spare : Nat → Bool} {held : Bool}
theorem ints_of_Trod {a : Option Addr} {len cap : Nat} {d : DataW H} {ps : List MemPlace} (h : DataW.Trod enc Tryd.prog w base spare held 54 (.slice a len cap) d ps) : ∃ l : List Int, InQ w (.slice a len cap) l := by
  obtain ⟨fuel, hf⟩ := h
  obtain ⟨l, a', cap', hcs, h1, h2, _, h3⟩ := row_of_trod (R := fun _ vs (x : Int) => vs = [.int .i64 x]) Tryd.underlying54 cellsI (by decide) (fun fuel vs d ps h => by obtain ⟨i, e, _⟩ := DataW.trod_int Tryd.underlying3 h; exact ⟨i, e⟩) hf
  simp [Value.cells] at hcs
  obtain ⟨rfl, rfl, rfl⟩ := hcs
  refine ⟨l, a, cap, rfl, h1, ?_⟩
  rcases h3 with h3 | ⟨b, off, rfl, hb, hk⟩
  · exact Or.inl h3
  · refine Or.inr ⟨b, off, rfl, hb, fun i hi => ?_⟩
    obtain ⟨_, vs, rfl, _, hv, _⟩ := hk i hi
    simpa using hv 0 _ rfl
end

end Go.Proofs.YtdncnljcihblbaaDoor
