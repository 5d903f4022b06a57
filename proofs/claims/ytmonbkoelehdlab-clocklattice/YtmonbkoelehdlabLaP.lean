/-
  Two cuts that may be seen: the one with the lesser, and the one with the greater numbers. (Plain.)
-/
import Derived.Test.YtmonbkoelehdlabSpW
namespace Go.Proofs.Ytmonbkoelehdlab
open Go.RowKit

def lowV (v u : Nat → Int) (q : Nat) : Int := if u q < v q then u q else v q
theorem cutF_congr {c d : Nat → Int} (h : ∀ p, p < 8 → c p = d p) : cutF c = cutF d := by
  funext q
  by_cases e : 0 ≤ q ∧ q ≤ 7
  · obtain ⟨p, h1, rfl, h2⟩ := cutF_in c e
    rw [h2, cutF_at d h1, h p h1]
  · rw [cutF_out c e, cutF_out d e]
theorem cutF_low (c d : Nat → Int) : cutF (lowV c d) = fun q => min (cutF c q) (cutF d q) := by
  funext q
  by_cases e : 0 ≤ q ∧ q ≤ 7
  · obtain ⟨p, h1, rfl, h2⟩ := cutF_in (lowV c d) e
    rw [h2, cutF_at c h1, cutF_at d h1]
    unfold lowV
    split <;> omega
  · rw [cutF_out _ e, cutF_out _ e, cutF_out _ e]; rfl
theorem cutF_high (c d : Nat → Int) : cutF (joinV c d) = fun q => max (cutF c q) (cutF d q) := by
  funext q
  by_cases e : 0 ≤ q ∧ q ≤ 7
  · obtain ⟨p, h1, rfl, h2⟩ := cutF_in (joinV c d) e
    rw [h2, cutF_at c h1, cutF_at d h1]
    unfold joinV
    split <;> omega
  · rw [cutF_out _ e, cutF_out _ e, cutF_out _ e]; rfl
theorem ok_low {l : List Stp} {c d : Nat → Int} (h1 : CutOk l c) (h2 : CutOk l d) : CutOk l (lowV c d) := fun p hp => by
  unfold lowV
  split
  · exact h2 p hp
  · exact h1 p hp
theorem ok_high {l : List Stp} {c d : Nat → Int} (h1 : CutOk l c) (h2 : CutOk l d) : CutOk l (joinV c d) := fun p hp => by
  unfold joinV
  split
  · exact h2 p hp
  · exact h1 p hp
/-- The four of them. -/
def fourV (b b2 : Nat → Int) : Nat → Nat → Int
  | 0 => b
  | 1 => b2
  | 2 => lowV b b2
  | _ => joinV b b2
theorem four_ok {l : List Stp} (hp : ∀ i, i < l.length → 0 ≤ (stZ l i).p ∧ (stZ l i).p ≤ 7) {c d b b2 : Nat → Int} (h1 : ∀ p, p < 8 → b p = belN l c p) (h2 : ∀ p, p < 8 → b2 p = belN l d p) (i : Nat) : CutOk l (fourV b b2 i) ∧ stdB l (fourV b b2 i) = true := by
  have o1 : CutOk l b := fun p h => by rw [h1 p h]; exact bel_ok c p h
  have o2 : CutOk l b2 := fun p h => by rw [h2 p h]; exact bel_ok d p h
  have s1 : SteadyC l (cutF b) := by rw [cutF_congr h1]; exact bel_steady hp c
  have s2 : SteadyC l (cutF b2) := by rw [cutF_congr h2]; exact bel_steady hp d
  have key : ∀ {x : Nat → Int}, CutOk l x → SteadyC l (cutF x) → CutOk l x ∧ stdB l x = true := fun ho hs => ⟨ho, stdB_iff.2 ((steady_cut hp ho).1 hs)⟩
  match i with
  | 0 => exact key o1 s1
  | 1 => exact key o2 s2
  | 2 => exact key (ok_low o1 o2) (by show SteadyC l (cutF (lowV b b2)); rw [cutF_low]; exact steady_low s1 s2)
  | _ + 3 => exact key (ok_high o1 o2) (by show SteadyC l (cutF (joinV b b2)); rw [cutF_high]; exact steady_high s1 s2)
def fourO (b b2 : Nat → Int) (t : Nat) : Obj := .cells #[.int .i64 (b 0), .int .i64 (b 1), .int .i64 (b 2), .int .i64 (b 3), .int .i64 (b 4), .int .i64 (b 5), .int .i64 (b 6), .int .i64 (b 7), .int .i64 (b2 0), .int .i64 (b2 1), .int .i64 (b2 2), .int .i64 (b2 3), .int .i64 (b2 4), .int .i64 (b2 5), .int .i64 (b2 6), .int .i64 (b2 7), .int .i64 (lowV b b2 0), .int .i64 (lowV b b2 1), .int .i64 (lowV b b2 2), .int .i64 (lowV b b2 3), .int .i64 (lowV b b2 4), .int .i64 (lowV b b2 5), .int .i64 (lowV b b2 6), .int .i64 (lowV b b2 7), .int .i64 (joinV b b2 0), .int .i64 (joinV b b2 1), .int .i64 (joinV b b2 2), .int .i64 (joinV b b2 3), .int .i64 (joinV b b2 4), .int .i64 (joinV b b2 5), .int .i64 (joinV b b2 6), .int .i64 (joinV b b2 7)] t
theorem four_new (w : World) (b b2 : Nat → Int) (t : Nat) : ∀ i, i < 4 → VecIn (w.alloc (fourO b b2 t)) w.heap.size (i * 8) (fourV b b2 i) := fun i hi q hq => by
  unfold fourO
  rw [cell_of_row _ w.heap.size (i * 8 + q) _ t _ (heap_alloc_new w _)]
  rcases (by omega : i = 0 ∨ i = 1 ∨ i = 2 ∨ i = 3) with rfl | rfl | rfl | rfl
  · exact all8 (P := fun q => (#[Value.int .i64 (b 0), .int .i64 (b 1), .int .i64 (b 2), .int .i64 (b 3), .int .i64 (b 4), .int .i64 (b 5), .int .i64 (b 6), .int .i64 (b 7), .int .i64 (b2 0), .int .i64 (b2 1), .int .i64 (b2 2), .int .i64 (b2 3), .int .i64 (b2 4), .int .i64 (b2 5), .int .i64 (b2 6), .int .i64 (b2 7), .int .i64 (lowV b b2 0), .int .i64 (lowV b b2 1), .int .i64 (lowV b b2 2), .int .i64 (lowV b b2 3), .int .i64 (lowV b b2 4), .int .i64 (lowV b b2 5), .int .i64 (lowV b b2 6), .int .i64 (lowV b b2 7), .int .i64 (joinV b b2 0), .int .i64 (joinV b b2 1), .int .i64 (joinV b b2 2), .int .i64 (joinV b b2 3), .int .i64 (joinV b b2 4), .int .i64 (joinV b b2 5), .int .i64 (joinV b b2 6), .int .i64 (joinV b b2 7)])[0 * 8 + q]? = some (.int .i64 (b q))) rfl rfl rfl rfl rfl rfl rfl rfl q hq
  · exact all8 (P := fun q => (#[Value.int .i64 (b 0), .int .i64 (b 1), .int .i64 (b 2), .int .i64 (b 3), .int .i64 (b 4), .int .i64 (b 5), .int .i64 (b 6), .int .i64 (b 7), .int .i64 (b2 0), .int .i64 (b2 1), .int .i64 (b2 2), .int .i64 (b2 3), .int .i64 (b2 4), .int .i64 (b2 5), .int .i64 (b2 6), .int .i64 (b2 7), .int .i64 (lowV b b2 0), .int .i64 (lowV b b2 1), .int .i64 (lowV b b2 2), .int .i64 (lowV b b2 3), .int .i64 (lowV b b2 4), .int .i64 (lowV b b2 5), .int .i64 (lowV b b2 6), .int .i64 (lowV b b2 7), .int .i64 (joinV b b2 0), .int .i64 (joinV b b2 1), .int .i64 (joinV b b2 2), .int .i64 (joinV b b2 3), .int .i64 (joinV b b2 4), .int .i64 (joinV b b2 5), .int .i64 (joinV b b2 6), .int .i64 (joinV b b2 7)])[1 * 8 + q]? = some (.int .i64 (b2 q))) rfl rfl rfl rfl rfl rfl rfl rfl q hq
  · exact all8 (P := fun q => (#[Value.int .i64 (b 0), .int .i64 (b 1), .int .i64 (b 2), .int .i64 (b 3), .int .i64 (b 4), .int .i64 (b 5), .int .i64 (b 6), .int .i64 (b 7), .int .i64 (b2 0), .int .i64 (b2 1), .int .i64 (b2 2), .int .i64 (b2 3), .int .i64 (b2 4), .int .i64 (b2 5), .int .i64 (b2 6), .int .i64 (b2 7), .int .i64 (lowV b b2 0), .int .i64 (lowV b b2 1), .int .i64 (lowV b b2 2), .int .i64 (lowV b b2 3), .int .i64 (lowV b b2 4), .int .i64 (lowV b b2 5), .int .i64 (lowV b b2 6), .int .i64 (lowV b b2 7), .int .i64 (joinV b b2 0), .int .i64 (joinV b b2 1), .int .i64 (joinV b b2 2), .int .i64 (joinV b b2 3), .int .i64 (joinV b b2 4), .int .i64 (joinV b b2 5), .int .i64 (joinV b b2 6), .int .i64 (joinV b b2 7)])[2 * 8 + q]? = some (.int .i64 (lowV b b2 q))) rfl rfl rfl rfl rfl rfl rfl rfl q hq
  · exact all8 (P := fun q => (#[Value.int .i64 (b 0), .int .i64 (b 1), .int .i64 (b 2), .int .i64 (b 3), .int .i64 (b 4), .int .i64 (b 5), .int .i64 (b 6), .int .i64 (b 7), .int .i64 (b2 0), .int .i64 (b2 1), .int .i64 (b2 2), .int .i64 (b2 3), .int .i64 (b2 4), .int .i64 (b2 5), .int .i64 (b2 6), .int .i64 (b2 7), .int .i64 (lowV b b2 0), .int .i64 (lowV b b2 1), .int .i64 (lowV b b2 2), .int .i64 (lowV b b2 3), .int .i64 (lowV b b2 4), .int .i64 (lowV b b2 5), .int .i64 (lowV b b2 6), .int .i64 (lowV b b2 7), .int .i64 (joinV b b2 0), .int .i64 (joinV b b2 1), .int .i64 (joinV b b2 2), .int .i64 (joinV b b2 3), .int .i64 (joinV b b2 4), .int .i64 (joinV b b2 5), .int .i64 (joinV b b2 6), .int .i64 (joinV b b2 7)])[3 * 8 + q]? = some (.int .i64 (joinV b b2 q))) rfl rfl rfl rfl rfl rfl rfl rfl q hq
end Go.Proofs.Ytmonbkoelehdlab
