/-
  The document's SerialCheck, walked.
-/
import Derived.Test.YthmiocbihhbdpaaCsPZ
import Derived.Deep.DeepCutAuto
import Derived.Deep.CutBlock
namespace Go.Proofs.Ythmiocbihhbdpaa
open Go.RowKit

theorem results_one {fn : Func} {p : Tmp} {ty : TypeId} (h : fn.results = #[.cell p ty]) (tmps : Array Value) (w : World) (g : Nat) (v : Value)
    (hp : tmps.getD p undef = .pointer (some ⟨g, 0, none⟩)) (hl : (loadVar ty ⟨g, 0, none⟩).run Try.prog w = .ok v w) : (results fn tmps).run Try.prog w = .ok v w := by
  have hp' : tmps[p]?.getD undef = .pointer (some ⟨g, 0, none⟩) := by simpa using hp
  simp [results, h, hp', asAddr, hl]

/-- What is seen of the steps ahead. -/
def StpN (w : World) (g : Nat) (x : Stp) : Prop := w.cell? ⟨g, 0, none⟩ = some (.int .i64 x.p) ∧ w.cell? ⟨g, 1, none⟩ = some (.int .i64 x.k) ∧ w.cell? ⟨g, 2, none⟩ = some (.int .i64 x.m)
theorem StpN.below {B : Nat} {w w' : World} {g : Nat} {x : Stp} (h : StpN w g x) (hb : Below B w w') (hg : g < B) : StpN w' g x :=
  ⟨(hb.cell (p := ⟨g, 0, none⟩) hg).trans h.1, (hb.cell (p := ⟨g, 1, none⟩) hg).trans h.2.1, (hb.cell (p := ⟨g, 2, none⟩) hg).trans h.2.2⟩

end Go.Proofs.Ythmiocbihhbdpaa
