/-
  A list of numbers that came in, opened.
-/
import Derived.Test.YtndogemgjjgbgabDoorOpenK
import Derived.Deep.Slices
namespace Go.Proofs.YtndogemgjjgbgabDoor
open Go.ChangeShapes Go.WideShapes Go.ChangeAt Go.RowKit

/-- A list made of what there is at each number. -/
theorem list_of {α : Type} {p : Nat → α → Prop} (n : Nat) (h : ∀ i, i < n → ∃ x, p i x) : ∃ l : List α, l.length = n ∧ ∀ i, (hi : i < l.length) → p i l[i] := by
  induction n with
  | zero => exact ⟨[], rfl, fun i hi => absurd hi (Nat.not_lt_zero _)⟩
  | succ n ih =>
    obtain ⟨l, hl, hp⟩ := ih fun i hi => h i (by omega)
    obtain ⟨x, hx⟩ := h n (by omega)
    refine ⟨l ++ [x], by simp [hl], fun i hi => ?_⟩
    by_cases e : i < l.length
    · rw [List.getElem_append_left e]; exact hp i e
    · have : i = n := by simp at hi; omega
      subst this
      rw [List.getElem_append_right (by omega)]
      simp [hl]; exact hx

section
variable {H : Type} {enc : TypeId × Value → H} {w : World} {base : Nat} {spare : Nat → Bool} {held : Bool}
theorem ints_of_Trod {a : Option Addr} {len cap : Nat} {d : DataW H} {ps : List MemPlace} (h : DataW.Trod enc Tryd.prog w base spare held 30 (.slice a len cap) d ps) :
    ∃ st : List Int, HasInts w (.slice a len cap) st ∧ st.length = len := by
  obtain ⟨fuel, hf⟩ := h
  have h : DataW.trod enc Tryd.prog w base spare held fuel 30 [.slice a len cap] = some (d, ps) := by simpa [Value.cells] using hf
  rcases DataW.trod_slice Tryd.underlying30 h with ⟨hcs, _⟩ | ⟨a', len', cap', elems, rest, n, _, hcs, _, hb, hl, hm, hlen, hel, _, _⟩
  · simp at hcs
    obtain ⟨rfl, rfl, rfl⟩ := hcs
    exact ⟨[], ⟨none, 0, rfl, by decide, by decide, fun _ => rfl, .inl rfl⟩, rfl⟩
  · simp at hcs
    obtain ⟨rfl, rfl, rfl⟩ := hcs
    rw [cells3] at hel
    have hc : ∀ i, i < len → ∃ x : Int, w.cell? (a'.add i) = some (.int .i64 x) := fun i hi => by
      have he := hel i hi
      rw [List.getElem?_eq_getElem (by omega)] at he
      obtain ⟨cs, h1, h2⟩ := Option.bind_eq_some_iff.1 he
      obtain ⟨x, rfl, _⟩ := DataW.trod_int Tryd.underlying3 h2
      obtain ⟨_, _, h3⟩ := World.cells?_some h1
      have := h3 0 (by decide)
      refine ⟨x, ?_⟩
      rw [Nat.mul_one] at this
      simpa [Addr.add] using this
    obtain ⟨st, hst, hp⟩ := list_of len hc
    refine ⟨st, ⟨some a', cap, by rw [hst], by omega, hm, fun e => (by cases e), ?_⟩, hst⟩
    by_cases h0 : st = []
    · exact .inl h0
    · have hpos : 0 < st.length := List.length_pos_iff.2 h0
      obtain ⟨b, off, spot⟩ := a'
      have hspot : spot = none := by
        have := hp 0 hpos
        simpa [Addr.add] using World.cell?_spot this
      subst hspot
      refine .inr ⟨b, off, rfl, fun j hj => ?_⟩
      have := hp j hj
      rwa [Addr.add_lit] at this
end
end Go.Proofs.YtndogemgjjgbgabDoor
