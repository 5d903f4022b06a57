/-
  Rows of bools in memory: a matrix that is one's own.
-/
import Derived.Test.YtaopigjhdkdklaaDoorBsG
import Derived.Laws.MakeOwn
namespace Go.Proofs.YtaopigjhdkdklaaDoor
open Go.RowKit

theorem offNe {g a b : Nat} (h : a ≠ b) : (⟨g, a, none⟩ : Addr) ≠ ⟨g, b, none⟩ := fun e => h (by injection e)

/-- A row of bools in a block of its own. -/
structure BitsAt (w : World) (g n : Nat) (f : Nat → Bool) : Prop where
  blk : ∃ cur, w.heap[g]? = some (.cells cur 4 (0, 0))
  bit : ∀ k, k < n → w.cell? ⟨g, k, none⟩ = some (.bool (f k))
theorem BitsAt.lt {w : World} {g n : Nat} {f : Nat → Bool} (h : BitsAt w g n f) : g < w.heap.size := by
  obtain ⟨cur, hc⟩ := h.blk
  exact lt_of_heap hc
theorem BitsAt.fz {w : World} {g n : Nat} {f : Nat → Bool} (h : BitsAt w g n f) (i : Nat) : w.frozen? ⟨g, i, none⟩ = false := by
  obtain ⟨cur, hc⟩ := h.blk
  exact frozen_of_row w g i cur 4 hc
theorem BitsAt.block {w w' : World} {g n : Nat} {f : Nat → Bool} (h : BitsAt w g n f) (hb : w'.heap[g]? = w.heap[g]?) : BitsAt w' g n f := by
  obtain ⟨cur, hc⟩ := h.blk
  exact ⟨⟨cur, hb.trans hc⟩, fun k hk => (World.cell?_of_block (a := ⟨g, k, none⟩) hb).trans (h.bit k hk)⟩
theorem BitsAt.put {w : World} {g n : Nat} {f : Nat → Bool} (h : BitsAt w g n f) {m : Nat} (hm : m < n) (x : Bool) : BitsAt (w.setCell ⟨g, m, none⟩ (.bool x)) g n (fun k => if k = m then x else f k) := by
  obtain ⟨cur, hc⟩ := h.blk
  obtain ⟨cur', hc', _⟩ := heap_setCell hc m (.bool x)
  refine ⟨⟨cur', hc'⟩, fun k hk => ?_⟩
  by_cases e : k = m
  · subst e
    rw [if_pos rfl]
    exact World.cell?_setCell_same _ _ _ (h.bit k hk)
  · rw [if_neg e, World.cell?_setCell_other _ _ _ _ (offNe (Ne.symm e))]
    exact h.bit k hk

theorem info4 : (Tryd.prog.info? 4).map (fun i => (i.zero, i.size, i.bytes)) = some (some (.bool false), 1, 1) := by kernel_rfl
theorem made_bits (w : World) (n : Nat) (hn : n ≤ 60) : (Instr.makeSlice 46 (.int .i64 (n : Int)) (.int .i64 (n : Int))).run Tryd.prog w = .ok (.slice (some ⟨w.heap.size, 0, none⟩) n n) (w.alloc (.cells (madeCells #[.bool false] n) 4)) := by
  obtain ⟨i, hi, hz, hs, hb⟩ := info_parts' info4
  have := run_make (P := Tryd.prog) w 46 4 i (.bool false) Tryd.underlying46 hi hz .i64 .i64 (n : Int) (n : Int) (by omega) (Int.le_refl _) (by rw [hb]; omega) (by omega)
  have e : (Value.bool false).cells = #[.bool false] := rfl
  rw [e] at this
  simpa [hs] using this


section
variable {w : World} {base B n m : Nat} {rb : Nat → Nat} {M : Nat → Nat → Bool}
end

/-! ### the stages of a pass -/

end Go.Proofs.YtaopigjhdkdklaaDoor
