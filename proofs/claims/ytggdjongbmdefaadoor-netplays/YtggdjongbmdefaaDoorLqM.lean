/-
  Who can talk to whom, in memory: rows of bools.
-/
import Derived.Test.YtggdjongbmdefaaDoorKbM
namespace Go.Proofs.YtggdjongbmdefaaDoor
open Go.RowKit

/-- Links in memory; X: which blocks they lie in. -/
def LnkS (w : World) (X : Nat → Prop) (lv : Value) (M : List (List Bool)) : Prop :=
  ∃ a cap, lv = .slice a M.length cap ∧ (M = [] ∨ ∃ g off, a = some ⟨g, off, none⟩ ∧ X g ∧ ∀ i (hi : i < M.length), ∃ ra rc, w.cell? ⟨g, off + i, none⟩ = some (.slice ra M[i].length rc) ∧
    (M[i] = [] ∨ ∃ rg ro, ra = some ⟨rg, ro, none⟩ ∧ X rg ∧ ∀ j (hj : j < M[i].length), w.cell? ⟨rg, ro + j, none⟩ = some (.bool M[i][j])))
theorem LnkS.keep {w w' : World} {X : Nat → Prop} {lv : Value} {M : List (List Bool)} (h : LnkS w X lv M) (hk : ∀ b, b < w.heap.size → X b → w'.heap[b]? = w.heap[b]?) : LnkS w' X lv M := by
  obtain ⟨a, cap, e, h⟩ := h
  refine ⟨a, cap, e, h.imp id fun ⟨g, off, e, hx, h⟩ => ⟨g, off, e, hx, fun i hi => ?_⟩⟩
  obtain ⟨ra, rc, h1, h2⟩ := h i hi
  refine ⟨ra, rc, (World.cell?_of_block (a := ⟨g, off + i, none⟩) (hk g (World.block_lt_of_cell? w _ h1) hx)).trans h1, h2.imp id fun ⟨rg, ro, e, hx', h⟩ => ⟨rg, ro, e, hx', fun j hj => ?_⟩⟩
  exact (World.cell?_of_block (a := ⟨rg, ro + j, none⟩) (hk rg (World.block_lt_of_cell? w _ (h j hj)) hx')).trans (h j hj)
theorem LnkS.mono {w : World} {X Y : Nat → Prop} {lv : Value} {M : List (List Bool)} (h : LnkS w X lv M) (hk : ∀ b, b < w.heap.size → X b → Y b) : LnkS w Y lv M := by
  obtain ⟨a, cap, e, h⟩ := h
  by_cases hM : M = []
  · exact ⟨a, cap, e, .inl hM⟩
  refine ⟨a, cap, e, h.imp id fun ⟨g, off, e, hx, h⟩ => ⟨g, off, e, ?_, fun i hi => ?_⟩⟩
  · obtain ⟨_, _, h1, _⟩ := h 0 (List.length_pos_iff.2 hM)
    exact hk g (World.block_lt_of_cell? w _ h1) hx
  · obtain ⟨ra, rc, h1, h2⟩ := h i hi
    by_cases hR : M[i] = []
    · exact ⟨ra, rc, h1, .inl hR⟩
    refine ⟨ra, rc, h1, h2.imp id fun ⟨rg, ro, e, hx', h⟩ => ⟨rg, ro, e, ?_, h⟩⟩
    exact hk rg (World.block_lt_of_cell? w _ (h 0 (List.length_pos_iff.2 hR))) hx'
theorem LnkS.below {w w' : World} {X : Nat → Prop} {lv : Value} {M : List (List Bool)} {B : Nat} (h : LnkS w X lv M) (hb : Below B w w') (hB : w.heap.size ≤ B) : LnkS w' X lv M :=
  h.keep fun b hl _ => hb.block b (Nat.lt_of_lt_of_le hl hB)
/-- A row that is there. -/
theorem LnkS.row {w : World} {X : Nat → Prop} {lv : Value} {M : List (List Bool)} (h : LnkS w X lv M) {i : Nat} (hi : i < M.length) : ∃ g off cap, lv = .slice (some ⟨g, off, none⟩) M.length cap ∧ X g ∧ ∃ ra rc, w.cell? ⟨g, off + i, none⟩ = some (.slice ra M[i].length rc) ∧
    (M[i] = [] ∨ ∃ rg ro, ra = some ⟨rg, ro, none⟩ ∧ X rg ∧ ∀ j (hj : j < M[i].length), w.cell? ⟨rg, ro + j, none⟩ = some (.bool M[i][j])) := by
  obtain ⟨a, cap, e, h⟩ := h
  rcases h with rfl | ⟨g, off, rfl, hx, h⟩
  · simp at hi
  · exact ⟨g, off, cap, e, hx, h i hi⟩
/-- The table of a rule. -/
def tabL (n : Nat) (r : Nat → Nat → Bool) : List (List Bool) := (List.range n).map fun a => (List.range n).map fun b => r a b
theorem tabL_len (n : Nat) (r : Nat → Nat → Bool) : (tabL n r).length = n := by simp [tabL]
theorem tabL_row {n : Nat} {r : Nat → Nat → Bool} {i : Nat} (h : i < (tabL n r).length) : (tabL n r)[i] = (List.range n).map fun b => r i b := by simp [tabL]
theorem tabL_row_len {n : Nat} {r : Nat → Nat → Bool} {i : Nat} (h : i < (tabL n r).length) : (tabL n r)[i].length = n := by simp [tabL]
theorem tabL_at {n : Nat} {r : Nat → Nat → Bool} {i j : Nat} (h : i < (tabL n r).length) (h' : j < (tabL n r)[i].length) : (tabL n r)[i][j] = r i j := by simp [tabL]
/-- A table in memory, place by place. -/
theorem LnkS.tab {w : World} {X : Nat → Prop} {lv : Value} {n : Nat} {r : Nat → Nat → Bool} (h : LnkS w X lv (tabL n r)) {i : Nat} (hi : i < n) : ∃ g off cap, lv = .slice (some ⟨g, off, none⟩) n cap ∧ ∃ rg ro rc, w.cell? ⟨g, off + i, none⟩ = some (.slice (some ⟨rg, ro, none⟩) n rc) ∧ ∀ j, j < n → w.cell? ⟨rg, ro + j, none⟩ = some (.bool (r i j)) := by
  have hi' : i < (tabL n r).length := by rw [tabL_len]; exact hi
  obtain ⟨g, off, cap, e, _, ra, rc, h1, h2⟩ := h.row hi'
  rw [tabL_len] at e
  have hl := tabL_row_len hi'
  rcases h2 with h2 | ⟨rg, ro, rfl, _, h3⟩
  · rw [h2] at hl; simp at hl; omega
  · rw [hl] at h1
    refine ⟨g, off, cap, e, rg, ro, rc, h1, fun j hj => ?_⟩
    have := h3 j (by rw [hl]; exact hj)
    rwa [tabL_at hi' (by rw [hl]; exact hj)] at this
/-- Blocks that links lie in, by their tags. -/
def LTg (w : World) (b : Nat) : Prop := tagD w.heap[b]? = 33 ∨ tagD w.heap[b]? = 5
def LnkT (w : World) (lv : Value) (M : List (List Bool)) : Prop := LnkS w (LTg w) lv M
theorem LnkT.keep {w w' : World} {lv : Value} {M : List (List Bool)} (h : LnkT w lv M) (hk : ∀ b, LTg w b → w'.heap[b]? = w.heap[b]?) : LnkT w' lv M :=
  (LnkS.keep h fun b _ hb => hk b hb).mono fun b _ hb => by unfold LTg; rw [hk b hb]; exact hb
theorem LTg.lt {w : World} {b : Nat} (h : LTg w b) : b < w.heap.size := by
  rcases Nat.lt_or_ge b w.heap.size with h' | h'
  · exact h'
  · unfold LTg at h
    rw [Array.getElem?_eq_none h'] at h
    rcases h with h | h <;> cases h
theorem LnkT.below {w w' : World} {lv : Value} {M : List (List Bool)} (h : LnkT w lv M) (hb : Below w.heap.size w w') : LnkT w' lv M := h.keep fun b hl => hb.block b hl.lt
end Go.Proofs.YtggdjongbmdefaaDoor
