/-
  The document's Run: walked.
-/
import Derived.Test.YtkbjaneekblgmaaGreatDoorRunB
import Derived.Deep.RegionHeld3
namespace Go.Proofs.YtkbjaneekblgmaaGreatDoor
open Go.RowKit

/-- The states of the keys in an array: each in a block behind it. -/
structure ArrAt (w : World) (A : Nat) (S : Int → List Int) : Prop where
  cell : ∀ q : Nat, q < 8 → ∃ v, w.cell? ⟨A, q, none⟩ = some v ∧ RowAt w (A + 1) v (S q)
  fz : ∀ q, w.frozen? ⟨A, q, none⟩ = false
  lt : A < w.heap.size

theorem ArrAt.kept {w w' : World} {A : Nat} {S : Int → List Int} (h : ArrAt w A S) (hg : w.grownBy w' none) : ArrAt w' A S :=
  ⟨fun q hq => by obtain ⟨v, hv, hr⟩ := h.cell q hq; exact ⟨v, hg.cell hv (by simp), hr.new hg⟩, fun q => (World.frozen?_of_block (a := ⟨A, q, none⟩) (hg.block A h.lt (by simp))).trans (h.fz q), Nat.lt_of_lt_of_le h.lt hg.size⟩
theorem ArrAt.below {w w' : World} {A : Nat} {S : Int → List Int} (h : ArrAt w A S) (hb : Below w.heap.size w w') : ArrAt w' A S :=
  h.kept ⟨hb.os, hb.tape, hb.output, hb.size, fun k hk _ => hb.block k hk⟩
theorem ArrAt.congr {w : World} {A : Nat} {S S' : Int → List Int} (h : ArrAt w A S) (he : ∀ q : Nat, q < 8 → S' q = S q) : ArrAt w A S' :=
  ⟨fun q hq => by rw [he q hq]; exact h.cell q hq, h.fz, h.lt⟩
theorem ArrAt.set {w : World} {A : Nat} {S : Int → List Int} (h : ArrAt w A S) {q : Nat} (hq : q < 8) {v : Value} {st : List Int} (hr : RowAt w (A + 1) v st) : ArrAt (w.setCell ⟨A, q, none⟩ v) A (setK S q st) := by
  have hg := grown_setCell w ⟨A, q, none⟩ v
  have hrow : ∀ {u : Value} {l : List Int}, RowAt w (A + 1) u l → RowAt (w.setCell ⟨A, q, none⟩ v) (A + 1) u l := fun hu => hu.kept hg (.inr fun e => by have := (hu.lt A e).1; omega)
  refine ⟨fun p hp => ?_, fun p => (World.frozen?_setCell ..).trans (h.fz p), Nat.lt_of_lt_of_le h.lt hg.size⟩
  by_cases e : p = q
  · subst e
    obtain ⟨u, hu, _⟩ := h.cell p hp
    exact ⟨v, World.cell?_setCell_same _ _ _ hu, by rw [setK_same]; exact hrow hr⟩
  · obtain ⟨u, hu, hur⟩ := h.cell p hp
    exact ⟨u, (World.cell?_setCell_other _ _ _ _ (by intro h; simp at h <;> exact e h.symm)).trans hu, by rw [setK_other _ _ _ _ (by omega)]; exact hrow hur⟩

theorem arr_made (w : World) : ArrAt (w.alloc (.cells #[.slice none 0 0, .slice none 0 0, .slice none 0 0, .slice none 0 0, .slice none 0 0, .slice none 0 0, .slice none 0 0, .slice none 0 0] 46)) w.heap.size (fun _ => []) := by
  refine ⟨fun q hq => ⟨.slice none 0 0, ?_, rowAt_nil _ _⟩, fun q => ?_, by simp⟩
  · rw [cell_of_row _ _ _ _ _ _ (heap_alloc_new w _)]
    match q, hq with
    | 0, _ | 1, _ | 2, _ | 3, _ | 4, _ | 5, _ | 6, _ | 7, _ => rfl
  · exact frozen_of_row _ _ _ _ _ (heap_alloc_new w _)

end Go.Proofs.YtkbjaneekblgmaaGreatDoor
