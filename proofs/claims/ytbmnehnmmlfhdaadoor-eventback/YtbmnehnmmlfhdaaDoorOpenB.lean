/-
  Events that came in, opened: each its seven numbers.
-/
import Derived.Test.YtbmnehnmmlfhdaaDoorOpenEv
import Derived.Test.YtbmnehnmmlfhdaaDoorOpenOps
namespace Go.Proofs.YtbmnehnmmlfhdaaDoor
open Go.ChangeShapes Go.WideShapes Go.ChangeAt Go.RowKit

section
variable {H : Type} {enc : TypeId × Value → H} {w : World} {base : Nat} {spare : Nat → Bool} {held : Bool}

theorem evs_of_trodB {fuel : Nat} {a : Option Addr} {len cap : Nat} {x : DataW H × List MemPlace} (h : DataW.trod enc Tryd.prog w base spare held fuel 22 [.slice a len cap] = some x) :
    len ≤ maxLen ∧ (len = 0 ∨ (∃ b off, ∃ l : List Ev, a = some ⟨b, off, none⟩ ∧ l.length = len ∧ b < w.heap.size ∧ EvsAt w b off l)) := by
  rcases DataW.trod_slice Tryd.underlying22 h with ⟨hcs, _⟩ | ⟨a', len', cap', elems, rest, n, _, hcs, _, hb, hl, hm, hlen, hel, _, _⟩
  · simp at hcs
    obtain ⟨_, rfl, _⟩ := hcs
    exact ⟨Nat.zero_le _, .inl rfl⟩
  · simp at hcs
    obtain ⟨rfl, rfl, rfl⟩ := hcs
    refine ⟨Nat.le_trans hl hm, ?_⟩
    by_cases h0 : len = 0
    · exact .inl h0
    · refine .inr ?_
      rw [cells23] at hel
      have hc : ∀ i, i < len → ∃ e : Ev, ∀ j, j < 7 → w.cell? ((a'.add (i * 7)).add j) = e.cells[j]? := fun i hi => by
        have he := hel i hi
        rw [List.getElem?_eq_getElem (by omega)] at he
        obtain ⟨cs, h1, h2⟩ := Option.bind_eq_some_iff.1 he
        obtain ⟨o, rfl⟩ := ev_of_trod h2
        obtain ⟨_, _, h3⟩ := World.cells?_some h1
        exact ⟨o, fun j hj => h3 j hj⟩
      obtain ⟨b, off, spot⟩ := a'
      have hspot : spot = none := by
        obtain ⟨o, ho⟩ := hc 0 (by omega)
        have := ho 0 (by decide)
        simpa [Addr.add] using World.cell?_spot this
      subst hspot
      obtain ⟨l, hll, hlp⟩ := list_of len hc
      refine ⟨b, off, l, rfl, hll, ?_, fun i hi => ?_⟩
      · have := hlp 0 (by omega) 0 (by decide)
        exact World.block_lt_of_cell? w _ this
      · have g : ∀ j, j < 7 → w.cell? ⟨b, off + i * 7 + j, none⟩ = l[i].cells[j]? := fun j hj => by
          have := hlp i hi j hj
          rwa [add_eq, add_eq] at this
        exact ⟨g 0 (by decide), g 1 (by decide), g 2 (by decide), g 3 (by decide), g 4 (by decide), g 5 (by decide), g 6 (by decide)⟩

theorem evs_of_TrodB {a : Option Addr} {len cap : Nat} {d : DataW H} {ps : List MemPlace} (h : DataW.Trod enc Tryd.prog w base spare held 22 (.slice a len cap) d ps) :
    len ≤ maxLen ∧ (len = 0 ∨ (∃ b off, ∃ l : List Ev, a = some ⟨b, off, none⟩ ∧ l.length = len ∧ b < w.heap.size ∧ EvsAt w b off l)) := by
  obtain ⟨fuel, hf⟩ := h
  exact evs_of_trodB (x := (d, ps)) (by simpa [Value.cells] using hf)
end
end Go.Proofs.YtbmnehnmmlfhdaaDoor
