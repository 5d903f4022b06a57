/-
  Ops that came in, opened: a list that is nil has no capacity.
-/
import Derived.Test.YtelndpbkheoeaaaDoorOpenQ
import Derived.Test.YtelndpbkheoeaaaDoorRzA
namespace Go.Proofs.YtelndpbkheoeaaaDoor
open Go.ChangeShapes Go.WideShapes Go.ChangeAt Go.RowKit

section
variable {H : Type} {enc : TypeId × Value → H} {w : World} {base : Nat} {spare : Nat → Bool} {held : Bool}

theorem nil_of_trod {fuel : Nat} {a : Option Addr} {len cap : Nat} {x : DataW H × List MemPlace} (h : DataW.trod enc Tryd.prog w base spare held fuel 22 [.slice a len cap] = some x) : a = none → cap = 0 := by
  rcases DataW.trod_slice Tryd.underlying22 h with ⟨hcs, _⟩ | ⟨a', len', cap', elems, rest, n, _, hcs, _⟩
  · simp at hcs
    exact fun _ => hcs.2.2
  · simp at hcs
    obtain ⟨rfl, _⟩ := hcs
    intro h
    cases h

theorem opsZ_of_Trod {a : Option Addr} {len cap : Nat} {d : DataW H} {ps : List MemPlace} (h : DataW.Trod enc Tryd.prog w base spare held 22 (.slice a len cap) d ps) :
    ∃ l : List Opn, ∃ a' cap', (Value.slice a len cap) = .slice a' l.length cap' ∧ l.length ≤ cap' ∧ l.length ≤ maxLen ∧ OpsZ w a' cap' l := by
  obtain ⟨l, a', cap', e, h1, h2, h3⟩ := opsQ_of_Trod h
  refine ⟨l, a', cap', e, h1, h2, h3, ?_⟩
  obtain ⟨fuel, hf⟩ := h
  have := nil_of_trod (x := (d, ps)) (by simpa [Value.cells] using hf)
  simp at e
  obtain ⟨rfl, _, rfl⟩ := e
  exact this
end

end Go.Proofs.YtelndpbkheoeaaaDoor
