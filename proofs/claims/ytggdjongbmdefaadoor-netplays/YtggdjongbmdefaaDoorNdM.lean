/-
  The document's net in memory: who can talk, and mails on their way.
-/
import Derived.Test.YtggdjongbmdefaaDoorBsG
import Derived.Test.YtggdjongbmdefaaDoorRgL
import Derived.Laws.AppendOwn
namespace Go.Proofs.YtggdjongbmdefaaDoor
open Go.RowKit

/-- A mail of the document's. -/
structure Md where
  fr : Int
  to : Int
  wh : Int
def mdC (m : Md) : List Value := [.int .i64 m.fr, .int .i64 m.to, .int .i64 m.wh]
def mdCs (L : List Md) : List Value := L.flatMap mdC
theorem mdCs_app (L M : List Md) : mdCs (L ++ M) = mdCs L ++ mdCs M := by simp [mdCs]
theorem mdCs_one (m : Md) : mdCs [m] = mdC m := by simp [mdCs]
theorem mdCs_len (L : List Md) : (mdCs L).length = L.length * 3 := by
  induction L with
  | nil => rfl
  | cons m L ih => rw [show m :: L = [m] ++ L from rfl, mdCs_app, List.length_append, ih, mdCs_one]; simp [mdC]; omega
theorem mdC_one {m : Md} {u : Value} (h : u ∈ mdC m) : u.oneCell' = true := by
  simp [mdC] at h
  rcases h with rfl | rfl | rfl <;> rfl
theorem info49 : (Tryd.prog.info? 49).map (fun i => (i.zero, i.size, i.bytes)) = some (some (Value.agg #[.int .i64 0, .int .i64 0, .int .i64 0]), 3, 24) := by kernel_rfl

theorem blk3 {w : World} {b : Nat} {v u x : Value} {t : TypeId} (h : w.heap[b]? = some (.cells #[v, u, x] t)) : w.cell? ⟨b, 0, none⟩ = some v ∧ w.cell? ⟨b, 1, none⟩ = some u ∧ w.cell? ⟨b, 2, none⟩ = some x :=
  ⟨by rw [cell_of_row _ _ _ _ t _ h]; rfl, by rw [cell_of_row _ _ _ _ t _ h]; rfl, by rw [cell_of_row _ _ _ _ t _ h]; rfl⟩
/-- What turns in new blocks alone. -/
theorem grown_past {w w1 w2 : World} {row : Option Nat} (h : w.grownBy w1 none) (h' : w1.grownBy w2 row) (hr : ∀ b, row = some b → w.heap.size ≤ b) : w.grownBy w2 none :=
  ⟨h'.os.trans h.os, h'.tape.trans h.tape, h'.output.trans h.output, Nat.le_trans h.size h'.size, fun k hk _ => (h'.block k (Nat.lt_of_lt_of_le hk h.size) (fun e => by have := hr k e.symm; omega)).trans (h.block k hk (by simp))⟩
theorem mdCs_take {L : List Md} {k j : Nat} {u : Value} (h : (mdCs (L.take k))[j]? = some u) : (mdCs L)[j]? = some u := by
  rw [← List.take_append_drop k L, mdCs_app, List.getElem?_append_left (List.getElem?_eq_some_iff.1 h).1]
  exact h
theorem mdCs_drop {L : List Md} {k j : Nat} (hk : k ≤ L.length) {u : Value} (h : (mdCs (L.drop k))[j]? = some u) : (mdCs L)[k * 3 + j]? = some u := by
  have hl : (mdCs (L.take k)).length = k * 3 := by rw [mdCs_len, List.length_take, Nat.min_eq_left hk]
  rw [← List.take_append_drop k L, mdCs_app, List.getElem?_append_right (by omega), hl, show k * 3 + j - k * 3 = j by omega]
  exact h
theorem mdCs_ones {L : List Md} {u : Value} (h : u ∈ mdCs L) : u.oneCell' = true := by
  obtain ⟨m, _, hm⟩ := List.mem_flatMap.1 h
  exact mdC_one hm
theorem blkA {w : World} {o : Obj} {b : Nat} {x : Obj} (h : w.heap[b]? = some x) : (w.alloc o).heap[b]? = some x := by
  rw [Below.heap_alloc w o b (Array.getElem?_eq_some_iff.1 h).1]; exact h
theorem grown_setCell (w : World) (a : Addr) (u : Value) : w.grownBy (w.setCell a u) (some a.block) :=
  ⟨rfl, rfl, rfl, by simp [World.setCell], fun k _ hne => by
    have : a.block ≠ k := fun e => hne (by rw [e])
    simp [World.setCell, Array.getElem?_modify, this]⟩
/-- The net lies in block B from cell o on. -/
structure NetD (w : World) (base B o : Nat) (cut : Bool) (lv v : Value) (L : List Md) : Prop where
  c0 : w.cell? ⟨B, o, none⟩ = some (.bool cut)
  c1 : w.cell? ⟨B, o + 1, none⟩ = some lv
  c2 : w.cell? ⟨B, o + 2, none⟩ = some v
  f2 : w.frozen? ⟨B, o + 2, none⟩ = false
  row : w.ownsRow base 49 3 v L.length (mdCs L)
  lo : base ≤ w.heap.size
  ne : v.ownBlock ≠ some B
theorem NetD.slice {w : World} {base B o : Nat} {cut : Bool} {lv v : Value} {L : List Md} (h : NetD w base B o cut lv v L) : ∃ a cap, v = .slice a L.length cap := by
  rcases h.row.2 with ⟨e, e'⟩ | ⟨g, cap, cur, e, _⟩
  · exact ⟨none, 0, by rw [e, e']⟩
  · exact ⟨_, _, e⟩
theorem NetD.new {w w' : World} {base B o : Nat} {cut : Bool} {lv v : Value} {L : List Md} (h : NetD w base B o cut lv v L) (hg : w.grownBy w' none) : NetD w' base B o cut lv v L := by
  have hb := hg.block B (World.block_lt_of_cell? w _ h.c2) (by simp)
  exact ⟨(World.cell?_of_block (a := ⟨B, o, none⟩) hb).trans h.c0, (World.cell?_of_block (a := ⟨B, o + 1, none⟩) hb).trans h.c1, (World.cell?_of_block (a := ⟨B, o + 2, none⟩) hb).trans h.c2, (World.frozen?_of_block (a := ⟨B, o + 2, none⟩) hb).trans h.f2, h.row.kept hg (Classical.em _), Nat.le_trans h.lo hg.size, h.ne⟩
theorem ownsRow_base {w : World} {base base' : Nat} {e : TypeId} {size n : Nat} {v : Value} {xs : List Value} (h : w.ownsRow base e size v n xs) (hb : base' ≤ base) : w.ownsRow base' e size v n xs := by
  refine ⟨h.1, h.2.imp id fun ⟨g, cap, cur, e, h1, h2⟩ => ⟨g, cap, cur, e, by omega, h2⟩⟩
/-- Two cells of two blocks: whichever is first. -/
theorem setCell_comm (w : World) {p q : Addr} (h : p.block ≠ q.block) (u v : Value) : (w.setCell p u).setCell q v = (w.setCell q v).setCell p u := by
  unfold World.setCell
  congr 1
  apply Array.ext (by simp)
  intro i h1 h2
  simp only [Array.getElem_modify]
  by_cases e1 : p.block = i <;> by_cases e2 : q.block = i
  · exact absurd (e1.trans e2.symm) h
  · simp [e1, e2]
  · simp [e1, e2]
  · simp [e1, e2]
end Go.Proofs.YtggdjongbmdefaaDoor
