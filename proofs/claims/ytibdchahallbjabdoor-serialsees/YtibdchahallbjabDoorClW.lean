/-
  The program's Closed, leader and Groups, walked.
-/
import Derived.Test.YtibdchahallbjabDoorDsWZ
import Derived.Test.YtibdchahallbjabDoorPoW
import Derived.Test.YtibdchahallbjabDoorSmBZ
namespace Go.Proofs.YtibdchahallbjabDoor
open Go.RowKit

/-- Blocks of a world from lo on are as they were. -/
structure Kp (W wr : World) (lo : Nat) : Prop where
  size : W.heap.size ≤ wr.heap.size
  blk : ∀ b, lo ≤ b → b < W.heap.size → wr.heap[b]? = W.heap[b]?
theorem Kp.refl (W : World) (lo : Nat) : Kp W W lo := ⟨Nat.le_refl _, fun _ _ _ => rfl⟩
theorem Kp.alloc {W wr : World} {lo : Nat} (h : Kp W wr lo) (o : Obj) : Kp W (wr.alloc o) lo := ⟨by have := h.size; simp; omega, fun b h1 h2 => (Below.heap_alloc _ _ b (Nat.lt_of_lt_of_le h2 h.size)).trans (h.blk b h1 h2)⟩
theorem Kp.set {W wr : World} {lo : Nat} (h : Kp W wr lo) {p : Addr} (hp : p.block < lo ∨ W.heap.size ≤ p.block) (u : Value) : Kp W (wr.setCell p u) lo := ⟨by have := h.size; simp; omega, fun b h1 h2 => (Below.heap_setCell wr p u b (by omega)).trans (h.blk b h1 h2)⟩
theorem Kp.nums {W wr : World} {lo g n : Nat} {f : Nat → Nat} (h : Kp W wr lo) (hn : NumsAt W g n f) (hg : lo ≤ g) : NumsAt wr g n f := hn.block (h.blk g hg hn.lt)
theorem Kp.cell {W wr : World} {lo : Nat} (h : Kp W wr lo) {g i : Nat} {x : Value} (hg : lo ≤ g) (hc : W.cell? ⟨g, i, none⟩ = some x) : wr.cell? ⟨g, i, none⟩ = some x :=
  (World.cell?_of_block (a := ⟨g, i, none⟩) (h.blk g hg (World.block_lt_of_cell? W _ hc))).trans hc

theorem made_graph (w : World) (n : Nat) (hn : n ≤ 60) : (Instr.makeSlice 55 (.int .i64 (n : Int)) (.int .i64 (n : Int))).run Tryd.prog w = .ok (.slice (some ⟨w.heap.size, 0, none⟩) n n) (w.alloc (.cells (madeCells #[.slice none 0 0] n) 59)) := by
  obtain ⟨i, hi, hz, hs, hb⟩ := info_parts' info46
  have := run_make (P := Tryd.prog) w 55 59 i (.slice none 0 0) Tryd.underlying55 hi hz .i64 .i64 (n : Int) (n : Int) (by omega) (Int.le_refl _) (by rw [hb]; omega) (by omega)
  have e : (Value.slice none 0 0).cells = #[.slice none 0 0] := rfl
  rw [e] at this
  simpa [hs] using this

def midB (A : Nat → Nat → Bool) (m k : Nat) : Nat → Nat → Bool := fun a b => if a = m ∧ k ≤ b then false else A a b
theorem midB_put (A : Nat → Nat → Bool) (m k : Nat) (x : Bool) (h : A m k = x) (a b : Nat) : (if a = m ∧ b = k then x else midB A m k a b) = midB A m (k + 1) a b := by
  unfold midB
  by_cases e : a = m ∧ b = k
  · obtain ⟨rfl, rfl⟩ := e
    rw [if_pos ⟨rfl, rfl⟩, if_neg (by omega), h]
  · rw [if_neg e]
    by_cases e' : a = m ∧ k + 1 ≤ b
    · rw [if_pos (by omega), if_pos e']
    · rw [if_neg (by omega), if_neg e']
theorem midB_end (A : Nat → Nat → Bool) (m n a b : Nat) (hb : b < n) : midB A m n a b = A a b := by
  unfold midB
  rw [if_neg (by omega)]

/-- What Closed tells. -/
def PcTold (R : List (List Bool)) (w : World) (e : Ending) (w' : World) : Prop :=
  ∃ v, e = .returned (.tuple #[v, toldV (ckG R)]) ∧ (ckG R = 0 → ∃ B rb, v = .slice (some ⟨B, 0, none⟩) R.length R.length ∧ MatAt w' w.heap.size B R.length R.length rb (war (gB R) R.length)) ∧ (ckG R ≠ 0 → v = .slice none 0 0) ∧ Below w.heap.size w w'

theorem grpG_lead {g : Nat → Nat → Bool} {n i o : Nat} (hi : i < n) (ho : o < i) (h1 : war g n i o = true) (h2 : war g n o i = true) (hl : ∀ k, k < o → ¬ (war g n i k = true ∧ war g n k i = true)) : grpG g n i = o := by
  unfold grpG
  rw [firstN_at (k := o) (by omega) (fun j hj => ?_) (by simp [h1, h2])]
  · rfl
  · have := hl j hj
    simp at this ⊢
    exact ⟨by omega, this⟩
theorem grpG_self {g : Nat → Nat → Bool} {n i : Nat} (hi : i < n) (hl : ∀ k, k < i → ¬ (war g n i k = true ∧ war g n k i = true)) : grpG g n i = i := by
  unfold grpG
  rw [firstN_at (k := i) hi (fun j hj => ?_) (by simp)]
  · rfl
  · have := hl j hj
    simp at this ⊢
    exact ⟨by omega, this⟩

end Go.Proofs.YtibdchahallbjabDoor
