/-
  An event that came in, opened: its seven numbers; and what the listed variable holds.
-/
import Derived.Test.YtbmnehnmmlfhdaaDoorRows
import Derived.Test.YtbmnehnmmlfhdaaDoorEvs
import Derived.ProofKit
import Derived.LaidMore
import Derived.LaidSub
import Derived.Stop.Joined
namespace Go.Proofs.YtbmnehnmmlfhdaaDoor
open Go.ChangeShapes Go.WideShapes Go.ChangeAt Go.RowKit

theorem own : ownKnob Tryd.prog.godebug = none := by kernel_rfl
theorem laidOut : laidOutB Tryd.prog = true := by kernel_rfl
theorem cells3 : Tryd.prog.cellsOf 3 = 1 := by kernel_rfl
theorem cells23 : Tryd.prog.cellsOf 31 = 7 := by kernel_rfl

section
variable {H : Type} {enc : TypeId × Value → H} {w : World} {base : Nat} {spare : Nat → Bool} {held : Bool}

theorem one_int {fuel n : Nat} {cs : List Value} {x : Option (DataW H × List MemPlace)} (h : DataW.trod enc Tryd.prog w base spare held fuel 3 ((cs.drop n).take 1) = x) (hx : x.isSome = true) : ∃ i, cs[n]? = some (.int .i64 i) := by
  obtain ⟨y, rfl⟩ := Option.isSome_iff_exists.1 hx
  obtain ⟨i, e, _⟩ := DataW.trod_int Tryd.underlying3 h
  refine ⟨i, ?_⟩
  have h0 : ((cs.drop n).take 1)[0]? = some (.int .i64 i) := by rw [e]; rfl
  simpa using h0

theorem list7 {α : Type} {cs : List α} (h : cs.length = 7) : ∃ c0 c1 c2 c3 c4 c5 c6, cs = [c0, c1, c2, c3, c4, c5, c6] := by
  match cs, h with
  | [c0, c1, c2, c3, c4, c5, c6], _ => exact ⟨c0, c1, c2, c3, c4, c5, c6, rfl⟩

theorem ev_of_trod {fuel : Nat} {cs : List Value} {x : DataW H × List MemPlace} (h : DataW.trod enc Tryd.prog w base spare held fuel 31 cs = some x) : ∃ e : Ev, cs = e.cells := by
  obtain ⟨xs, n, _, _, hl, hlen, hf⟩ := DataW.trod_struct Tryd.underlying31 h
  rw [cells23] at hl
  have hsome : ∀ i, i < 7 → xs[i]?.isSome = true := fun i hi => by
    rw [List.getElem?_eq_getElem (by rw [hlen]; exact hi)]; rfl
  have f0 : DataW.trod enc Tryd.prog w base spare held n 3 ((cs.drop 0).take (Tryd.prog.cellsOf 3)) = xs[0]? := hf 0 _ rfl
  have f1 : DataW.trod enc Tryd.prog w base spare held n 3 ((cs.drop 1).take (Tryd.prog.cellsOf 3)) = xs[1]? := hf 1 _ rfl
  have f2 : DataW.trod enc Tryd.prog w base spare held n 3 ((cs.drop 2).take (Tryd.prog.cellsOf 3)) = xs[2]? := hf 2 _ rfl
  have f3 : DataW.trod enc Tryd.prog w base spare held n 3 ((cs.drop 3).take (Tryd.prog.cellsOf 3)) = xs[3]? := hf 3 _ rfl
  have f4 : DataW.trod enc Tryd.prog w base spare held n 3 ((cs.drop 4).take (Tryd.prog.cellsOf 3)) = xs[4]? := hf 4 _ rfl
  have f5 : DataW.trod enc Tryd.prog w base spare held n 3 ((cs.drop 5).take (Tryd.prog.cellsOf 3)) = xs[5]? := hf 5 _ rfl
  have f6 : DataW.trod enc Tryd.prog w base spare held n 3 ((cs.drop 6).take (Tryd.prog.cellsOf 3)) = xs[6]? := hf 6 _ rfl
  rw [cells3] at f0 f1 f2 f3 f4 f5 f6
  obtain ⟨i0, e0⟩ := one_int f0 (hsome 0 (by decide))
  obtain ⟨i1, e1⟩ := one_int f1 (hsome 1 (by decide))
  obtain ⟨i2, e2⟩ := one_int f2 (hsome 2 (by decide))
  obtain ⟨i3, e3⟩ := one_int f3 (hsome 3 (by decide))
  obtain ⟨i4, e4⟩ := one_int f4 (hsome 4 (by decide))
  obtain ⟨i5, e5⟩ := one_int f5 (hsome 5 (by decide))
  obtain ⟨i6, e6⟩ := one_int f6 (hsome 6 (by decide))
  obtain ⟨c0, c1, c2, c3, c4, c5, c6, rfl⟩ := list7 hl
  simp at e0 e1 e2 e3 e4 e5 e6
  exact ⟨⟨i0, i1, i2, i3, i4, i5, i6⟩, by simp [Ev.cells, e0, e1, e2, e3, e4, e5, e6]⟩
end

end Go.Proofs.YtbmnehnmmlfhdaaDoor
