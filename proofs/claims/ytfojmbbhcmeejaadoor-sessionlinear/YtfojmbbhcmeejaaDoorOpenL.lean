/-
  What the listed variables hold; ops that came in, opened.
-/
import Derived.Test.YtfojmbbhcmeejaaDoorOpenO
import Derived.Test.YtfojmbbhcmeejaaDoorCheckW
namespace Go.Proofs.YtfojmbbhcmeejaaDoor
open Go.ChangeShapes Go.WideShapes Go.ChangeAt Go.RowKit

theorem gErr : Tryd.prog.globalNamed "errors.errorType" = some 1 := by kernel_rfl
theorem tRt : (Tryd.prog.cutTypes.find? (·.1 == "internal/reflectlite.rtype")).map (·.2) = some 159 := by kernel_rfl
theorem oneRow : ((List.range 225).filter fun t => Tryd.prog.rowNamed t [101, 114, 114, 111, 114]) = [27] := by kernel_rfl
theorem sizeT : Tryd.prog.types.size = 225 := by kernel_rfl

theorem handle_of {l : List (String × DataW Unit)} {W : World} (h : laidMetH Tryd.prog l W) (hm : ("errors.errorType", Rows.laid_errors_errorType) ∈ l) : W.cell? ⟨1, 0, none⟩ = some (.iface 159 (.agg #[.pointer (some ⟨5, 27, none⟩)])) := by
  obtain ⟨name, u, ty, e1, e2, e3, e4, e5⟩ := (laidMetH_iff.1 h).2 _ (List.mem_filter.2 ⟨hm, rfl⟩)
  have en : name = [101, 114, 114, 111, 114] := (Option.some.inj e1).symm
  subst en
  obtain rfl := Option.some.inj (tRt.symm.trans e2)
  have hm : ty ∈ (List.range 225).filter fun t => Tryd.prog.rowNamed t [101, 114, 114, 111, 114] := List.mem_filter.2 ⟨List.mem_range.2 (by rw [← sizeT]; exact e3), e4⟩
  rw [oneRow] at hm
  obtain rfl := List.mem_singleton.1 hm
  have hh : typeHandle Tryd.prog 27 = .pointer (some ⟨5, 27, none⟩) := by kernel_rfl
  rw [hh] at e5
  simpa using World.var?_cell gErr e5 0

section
variable {H : Type} {enc : TypeId × Value → H} {w : World} {base : Nat} {spare : Nat → Bool} {held : Bool}
theorem opsIn_of_Trod {a : Option Addr} {len cap : Nat} {d : DataW H} {ps : List MemPlace} (h : DataW.Trod enc Tryd.prog w base spare held 22 (.slice a len cap) d ps) :
    ∃ l : List Opn, OpsIn w (.slice a len cap) l := by
  obtain ⟨fuel, hf⟩ := h
  obtain ⟨hm, h | ⟨hp, hc, b, off, l, rfl, hl, hb, ho⟩⟩ := ops_of_trod (x := (d, ps)) (by simpa [Value.cells] using hf)
  · subst h
    exact ⟨[], a, cap, rfl, Nat.zero_le _, by decide, .inl rfl⟩
  · exact ⟨l, _, cap, by rw [hl], by rw [hl]; exact hc, by rw [hl]; exact hm, .inr ⟨b, off, rfl, hb, ho⟩⟩
end
end Go.Proofs.YtfojmbbhcmeejaaDoor
