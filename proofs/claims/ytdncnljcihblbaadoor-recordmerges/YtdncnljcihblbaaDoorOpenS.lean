/-
  Stripes that came in, opened.
-/
import Derived.Test.YtdncnljcihblbaaDoorOpenI
import Derived.Test.YtdncnljcihblbaaDoorMgW
namespace Go.Proofs.YtdncnljcihblbaaDoor
open Go.ChangeShapes Go.WideShapes Go.ChangeAt Go.RowKit

section
variable {H : Type} {enc : TypeId × Value → H} {w : World} {base : Nat} {spare : Nat → Bool} {held : Bool}
theorem ints_of_trod {fuel : Nat} {c0 : Value} {x : DataW H × List MemPlace} (h : DataW.trod enc Tryd.prog w base spare held fuel 54 [c0] = some x) : ∃ l : List Int, InQ w c0 l := by
  obtain ⟨d, ps⟩ := x
  obtain ⟨l, a', cap', hcs, h1, h2, _, h3⟩ := row_of_trod (R := fun _ vs (x : Int) => vs = [.int .i64 x]) Tryd.underlying54 cellsI (by decide) (fun fuel vs d ps h => by obtain ⟨i, e, _⟩ := DataW.trod_int Tryd.underlying3 h; exact ⟨i, e⟩) h
  simp at hcs
  subst hcs
  refine ⟨l, a', cap', rfl, h1, ?_⟩
  rcases h3 with h3 | ⟨b, off, rfl, hb, hk⟩
  · exact Or.inl h3
  · refine Or.inr ⟨b, off, rfl, hb, fun i hi => ?_⟩
    obtain ⟨_, vs, rfl, _, hv, _⟩ := hk i hi
    simpa using hv 0 _ rfl
theorem evs_of_trod {fuel : Nat} {c0 : Value} {x : DataW H × List MemPlace} (h : DataW.trod enc Tryd.prog w base spare held fuel 27 [c0] = some x) : ∃ l : List Ev, EvQ w c0 l := by
  obtain ⟨d, ps⟩ := x
  obtain ⟨l, a', cap', hcs, h1, h2, _, h3⟩ := row_of_trod (R := fun _ vs (e : Ev) => vs = e.cells) Tryd.underlying27 cellsE (by decide) (fun fuel vs d ps h => ev_of_trod h) h
  simp at hcs
  subst hcs
  refine ⟨l, a', cap', rfl, h1, ?_⟩
  rcases h3 with h3 | ⟨b, off, rfl, hb, hk⟩
  · exact Or.inl h3
  · refine Or.inr ⟨b, off, rfl, hb, fun i hi => ?_⟩
    obtain ⟨_, vs, rfl, _, hv, _⟩ := hk i hi
    exact ⟨hv 0 _ rfl, hv 1 _ rfl, hv 2 _ rfl, hv 3 _ rfl, hv 4 _ rfl, hv 5 _ rfl, hv 6 _ rfl⟩
theorem cellsS : Tryd.prog.cellsOf 56 = 2 := by kernel_rfl
theorem cellsSI : Tryd.prog.cellsOf 54 = 1 := by kernel_rfl
theorem cellsSE : Tryd.prog.cellsOf 27 = 1 := by kernel_rfl
theorem list2 {l : List Value} (h : l.length = 2) : ∃ c0 c1, l = [c0, c1] := by
  match l, h with
  | [c0, c1], _ => exact ⟨c0, c1, rfl⟩
theorem stripe_of_trod {fuel : Nat} {cs : List Value} {x : DataW H × List MemPlace} (h : DataW.trod enc Tryd.prog w base spare held fuel 56 cs = some x) : ∃ s : Spe, ∃ v1 v2, cs = [v1, v2] ∧ InQ w v1 s.tk ∧ EvQ w v2 s.ev := by
  obtain ⟨xs, n, _, _, hl, hlen, hf⟩ := DataW.trod_struct Tryd.underlying56 h
  rw [cellsS] at hl
  have hsome : ∀ i, i < 2 → xs[i]?.isSome = true := fun i hi => by
    rw [List.getElem?_eq_getElem (by rw [hlen]; exact hi)]; rfl
  have f0 : DataW.trod enc Tryd.prog w base spare held n 54 ((cs.drop 0).take (Tryd.prog.cellsOf 54)) = xs[0]? := hf 0 _ rfl
  have f1 : DataW.trod enc Tryd.prog w base spare held n 27 ((cs.drop 1).take (Tryd.prog.cellsOf 27)) = xs[1]? := hf 1 _ rfl
  rw [cellsSI] at f0
  rw [cellsSE] at f1
  obtain ⟨c0, c1, rfl⟩ := list2 hl
  obtain ⟨y0, e0⟩ := Option.isSome_iff_exists.1 (hsome 0 (by decide))
  obtain ⟨y1, e1⟩ := Option.isSome_iff_exists.1 (hsome 1 (by decide))
  rw [e0] at f0
  rw [e1] at f1
  obtain ⟨tk, h0⟩ := ints_of_trod (c0 := c0) f0
  obtain ⟨ev, h1⟩ := evs_of_trod (c0 := c1) f1
  exact ⟨⟨tk, ev⟩, c0, c1, rfl, h0, h1⟩
theorem stripes_of_Trod {a : Option Addr} {len cap : Nat} {d : DataW H} {ps : List MemPlace} (h : DataW.Trod enc Tryd.prog w base spare held 52 (.slice a len cap) d ps) : ∃ l : List Spe, SpQ w (.slice a len cap) l := by
  obtain ⟨fuel, hf⟩ := h
  obtain ⟨l, a', cap', hcs, h1, h2, _, h3⟩ := row_of_trod (R := fun _ vs (s : Spe) => ∃ v1 v2, vs = [v1, v2] ∧ InQ w v1 s.tk ∧ EvQ w v2 s.ev) Tryd.underlying52 cellsS (by decide) (fun fuel vs d ps h => stripe_of_trod h) hf
  simp [Value.cells] at hcs
  obtain ⟨rfl, rfl, rfl⟩ := hcs
  refine ⟨l, a, cap, rfl, h1, ?_⟩
  rcases h3 with h3 | ⟨b, off, rfl, hb, hk⟩
  · exact Or.inl h3
  · refine Or.inr ⟨b, off, rfl, hb, fun i hi => ?_⟩
    obtain ⟨_, vs, ⟨v1, v2, rfl, q1, q2⟩, _, hv, _⟩ := hk i hi
    exact ⟨v1, v2, hv 0 _ rfl, hv 1 _ rfl, q1, q2⟩
end

end Go.Proofs.YtdncnljcihblbaaDoor
