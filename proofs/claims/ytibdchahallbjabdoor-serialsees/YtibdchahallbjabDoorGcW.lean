/-
  The program's Groups, and the statement GraphCloses, walked.
-/
import Derived.Test.YtibdchahallbjabDoorClW
import Derived.Test.YtibdchahallbjabDoorGbWZ
import Derived.Test.YtibdchahallbjabDoorSmBZ
namespace Go.Proofs.YtibdchahallbjabDoor
open Go.RowKit

def gvL (R : List (List Bool)) : List Int := if ckG R = 0 then grpL R R.length else []
theorem gvL_len (R : List (List Bool)) : (gvL R).length ≤ 60 := by
  unfold gvL
  split
  · rename_i ok; rw [grpL_len]; have := (ckG_ok ok).1; omega
  · simp
theorem NumsAt.hasI {w : World} {g n : Nat} {f : Nat → Nat} (h : NumsAt w g n f) : HasI w (.slice (some ⟨g, 0, none⟩) n n) ((List.range n).map fun i => ((f i : Nat) : Int)) :=
  ⟨_, n, by simp, by simp, fun i hi => ⟨g, 0, rfl, by simp at hi; rw [Nat.zero_add, h.num i hi]; simp⟩⟩

theorem ReadM.below {w w' : World} {v : Value} {n : Nat} {A : Nat → Nat → Bool} (h : ReadM w v n A) (hb : Below w.heap.size w w') : ReadM w' v n A := by
  obtain ⟨a, cap, rfl, hc, hr⟩ := h
  refine ⟨a, cap, rfl, hc, fun i hi => ?_⟩
  obtain ⟨g, off, r, e, h1, h2⟩ := hr i hi
  exact ⟨g, off, r, e, (hb.cell (p := ⟨g, off + i, none⟩) (World.block_lt_of_cell? w _ h1)).trans h1, fun k hk => (hb.cell (p := ⟨r, k, none⟩) (World.block_lt_of_cell? w _ (h2 k hk))).trans (h2 k hk)⟩
theorem ReadM.same {w : World} {v : Value} {n : Nat} {A A' : Nat → Nat → Bool} (h : ReadM w v n A) (e : ∀ i k, i < n → k < n → A i k = A' i k) : ReadM w v n A' := by
  obtain ⟨a, cap, rfl, hc, hr⟩ := h
  refine ⟨a, cap, rfl, hc, fun i hi => ?_⟩
  obtain ⟨g, off, r, e0, h1, h2⟩ := hr i hi
  exact ⟨g, off, r, e0, h1, fun k hk => by rw [← e i k hi hk]; exact h2 k hk⟩
theorem MatAt.far {w : World} {base B n m : Nat} {rb : Nat → Nat} {M : Nat → Nat → Bool} (h : MatAt w base B n m rb M) {p : Addr} (hB : p.block ≠ B) (hr : ∀ i, i < m → p.block ≠ rb i) (u : Value) : MatAt (w.setCell p u) base B n m rb M := by
  obtain ⟨cur, hc⟩ := h.blk
  have hcell : ∀ j, (w.setCell p u).cell? ⟨B, j, none⟩ = w.cell? ⟨B, j, none⟩ := fun j => World.cell?_of_block (a := ⟨B, j, none⟩) (Below.heap_setCell w p u B (Ne.symm hB))
  exact ⟨⟨cur, (Below.heap_setCell w p u B (Ne.symm hB)).trans hc⟩, h.lo, fun j hj => by rw [hcell]; exact h.room j hj, h.few, fun j hj => by rw [hcell]; exact h.head j hj, fun j hj => (h.row j hj).other (p := p) (Ne.symm (hr j hj)) u, h.from_, h.inj⟩

end Go.Proofs.YtibdchahallbjabDoor
