/-
  A row of numbers in a block of its own; what comes straight ahead, read beside it.
-/
import Derived.Test.YtmonbkoelehdlaaDoorSoW
namespace Go.Proofs.YtmonbkoelehdlaaDoor
open Go.RowKit

/-- A row of numbers in a block of its own. -/
structure IntB (w : World) (g n : Nat) (f : Nat → Int) : Prop where
  blk : ∃ cur t, w.heap[g]? = some (.cells cur t (0, 0))
  at_ : ∀ k, k < n → w.cell? ⟨g, k, none⟩ = some (.int .i64 (f k))
theorem IntB.lt {w : World} {g n : Nat} {f : Nat → Int} (h : IntB w g n f) : g < w.heap.size := by
  obtain ⟨cur, t, hc⟩ := h.blk
  exact lt_of_heap hc
theorem IntB.fz {w : World} {g n : Nat} {f : Nat → Int} (h : IntB w g n f) (i : Nat) : w.frozen? ⟨g, i, none⟩ = false := by
  obtain ⟨cur, t, hc⟩ := h.blk
  exact frozen_of_row w g i cur t hc
theorem IntB.block {w w' : World} {g n : Nat} {f : Nat → Int} (h : IntB w g n f) (hb : w'.heap[g]? = w.heap[g]?) : IntB w' g n f := by
  obtain ⟨cur, t, hc⟩ := h.blk
  exact ⟨⟨cur, t, hb.trans hc⟩, fun k hk => (World.cell?_of_block (a := ⟨g, k, none⟩) hb).trans (h.at_ k hk)⟩
theorem IntB.below {B : Nat} {w w' : World} {g n : Nat} {f : Nat → Int} (h : IntB w g n f) (hb : Below B w w') (hg : g < B) : IntB w' g n f := h.block (hb.block g hg)
theorem IntB.same {w : World} {g n : Nat} {f f' : Nat → Int} (h : IntB w g n f) (e : ∀ k, k < n → f k = f' k) : IntB w g n f' := ⟨h.blk, fun k hk => by rw [← e k hk]; exact h.at_ k hk⟩
theorem IntB.put {w : World} {g n : Nat} {f : Nat → Int} (h : IntB w g n f) {m : Nat} (hm : m < n) (x : Int) : IntB (w.setCell ⟨g, m, none⟩ (.int .i64 x)) g n (fun k => if k = m then x else f k) := by
  obtain ⟨cur, t, hc⟩ := h.blk
  obtain ⟨cur', hc', _⟩ := heap_setCell hc m (.int .i64 x)
  refine ⟨⟨cur', t, hc'⟩, fun k hk => ?_⟩
  by_cases e : k = m
  · subst e
    simp only [if_true]
    exact World.cell?_setCell_same _ _ _ (h.at_ k hk)
  · simp only [if_neg e]
    rw [World.cell?_setCell_other _ _ _ _ (offN (Ne.symm e))]
    exact h.at_ k hk
theorem made29 (w : World) (n : Nat) (hn : n ≤ 60) : (Instr.makeSlice 29 (.int .i64 (n : Int)) (.int .i64 (n : Int))).run Tryd.prog w = .ok (.slice (some ⟨w.heap.size, 0, none⟩) n n) (w.alloc (.cells (madeCells #[.int .i64 0] n) 3)) := by
  obtain ⟨i, hi, hz, hs, hb⟩ := info_parts' info3
  have := run_make (P := Tryd.prog) w 29 3 i (.int .i64 0) Tryd.underlying29 hi hz .i64 .i64 (n : Int) (n : Int) (by omega) (Int.le_refl _) (by rw [hb]; omega) (by omega)
  have e : (Value.int .i64 0).cells = #[.int .i64 0] := rfl
  rw [e] at this
  simpa [hs] using this
theorem intB_made (w : World) (n : Nat) : IntB (w.alloc (.cells (madeCells #[.int .i64 0] n) 3)) w.heap.size n (fun _ => 0) :=
  ⟨⟨_, _, heap_alloc_new w _⟩, fun k hk => cell_made w _ n 3 k hk⟩

/-- What comes straight ahead, read. -/
def SoRead (l : List Stp) (w : World) (T : Nat) : Prop := ∀ k, k < l.length → ∃ a cap, w.cell? ⟨T, k, none⟩ = some (.slice a (predC l k).length cap) ∧ (predC l k).length ≤ cap ∧ ∀ j (hj : j < (predC l k).length), ∃ g, a = some ⟨g, 0, none⟩ ∧ w.cell? ⟨g, j, none⟩ = some (.int .i64 ((predC l k)[j] : Int))
theorem srcL_all (l : List Stp) {q : Nat} (h : q < l.length) (r : List Nat) : srcL l l.length r q = predC l q := by unfold srcL; rw [if_pos h]
theorem SoTab.read {l : List Stp} {w wr : World} {vs : Nat → Value} (h : SoTab l w wr l.length [] vs) : SoRead l wr w.heap.size := fun k hk => by
  have hrow := h.rows k hk
  rw [srcL_all l hk] at hrow
  obtain ⟨a, cap, hv, hc, hr⟩ := int_read hrow
  exact ⟨a, cap, by rw [h.tab.cell hk, hv], hc, hr⟩
theorem SoTab.set {l : List Stp} {w wr : World} {vs : Nat → Value} (h : SoTab l w wr l.length [] vs) {p : Addr} (hp : p.block < w.heap.size) (x : Value) : SoTab l w (wr.setCell p x) l.length [] vs := by
  have hb : ∀ b, p.block ≠ b → (wr.setCell p x).heap[b]? = wr.heap[b]? := fun b hb => Below.heap_setCell wr p x b (Ne.symm hb)
  refine ⟨h.tab.block (hb _ (by omega)), h.lo, fun q hq => ownsRow_same (h.rows q hq) (fun b hbk => hb b ?_), h.sep, h.off⟩
  have := (ownsRow_block (h.rows q hq) b hbk).1
  omega
theorem predC_few (l : List Stp) (k : Nat) : (predC l k).length ≤ 2 := by
  unfold predC
  rw [List.length_append]
  cases prevC l k <;> cases srcC l k <;> simp
end Go.Proofs.YtmonbkoelehdlaaDoor
