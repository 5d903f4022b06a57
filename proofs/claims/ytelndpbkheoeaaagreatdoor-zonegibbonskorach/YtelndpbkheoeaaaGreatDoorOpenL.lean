/-
  What the listed variables hold; ops that came in, opened.
-/
import Derived.Test.YtelndpbkheoeaaaGreatDoorOpenO
import Derived.Test.YtelndpbkheoeaaaGreatDoorBitsWZ
namespace Go.Proofs.YtelndpbkheoeaaaGreatDoor
open Go.ChangeShapes Go.WideShapes Go.ChangeAt Go.RowKit

theorem gErr : Tryz.prog.globalNamed "errors.errorType" = some 0 := by kernel_rfl
theorem tRt : (Tryz.prog.cutTypes.find? (·.1 == "internal/reflectlite.rtype")).map (·.2) = some 87 := by kernel_rfl
theorem oneRow : ((List.range 201).filter fun t => Tryz.prog.rowNamed t [101, 114, 114, 111, 114]) = [24] := by kernel_rfl
theorem sizeT : Tryz.prog.types.size = 201 := by kernel_rfl

theorem handle_of {l : List (String × DataW Unit)} {W : World} (h : laidMetH Tryz.prog l W) (hm : ("errors.errorType", Rows.laid_errors_errorType) ∈ l) : W.cell? ⟨0, 0, none⟩ = some (.iface 87 (.agg #[.pointer (some ⟨5, 24, none⟩)])) := by
  obtain ⟨name, u, ty, e1, e2, e3, e4, e5⟩ := (laidMetH_iff.1 h).2 _ (List.mem_filter.2 ⟨hm, rfl⟩)
  have en : name = [101, 114, 114, 111, 114] := (Option.some.inj e1).symm
  subst en
  obtain rfl := Option.some.inj (tRt.symm.trans e2)
  have hm : ty ∈ (List.range 201).filter fun t => Tryz.prog.rowNamed t [101, 114, 114, 111, 114] := List.mem_filter.2 ⟨List.mem_range.2 (by rw [← sizeT]; exact e3), e4⟩
  rw [oneRow] at hm
  obtain rfl := List.mem_singleton.1 hm
  have hh : typeHandle Tryz.prog 24 = .pointer (some ⟨5, 24, none⟩) := by kernel_rfl
  rw [hh] at e5
  simpa using World.var?_cell gErr e5 0

section
variable {H : Type} {enc : TypeId × Value → H} {w : World} {base : Nat} {spare : Nat → Bool} {held : Bool}
theorem opsIn_of_Trod {a : Option Addr} {len cap : Nat} {d : DataW H} {ps : List MemPlace} (h : DataW.Trod enc Tryz.prog w base spare held 22 (.slice a len cap) d ps) :
    ∃ l : List Opn, OpsIn w (.slice a len cap) l := by
  obtain ⟨fuel, hf⟩ := h
  obtain ⟨hm, h | ⟨hp, hc, b, off, l, rfl, hl, hb, ho⟩⟩ := ops_of_trod (x := (d, ps)) (by simpa [Value.cells] using hf)
  · subst h
    exact ⟨[], a, cap, rfl, Nat.zero_le _, by decide, .inl rfl⟩
  · exact ⟨l, _, cap, by rw [hl], by rw [hl]; exact hc, by rw [hl]; exact hm, .inr ⟨b, off, rfl, hb, ho⟩⟩
end
end Go.Proofs.YtelndpbkheoeaaaGreatDoor
