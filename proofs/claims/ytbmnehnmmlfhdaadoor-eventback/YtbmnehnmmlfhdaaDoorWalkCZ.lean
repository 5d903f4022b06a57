/-
  What the small functions on ops do: contracts over the translated program.
  What the closures of opFault, and the search of the library that calls them, do.
-/
import Derived.Test.YtbmnehnmmlfhdaaDoorWalkAZ
import Derived.Test.YtbmnehnmmlfhdaaDoorPlainAZ
namespace Go.Proofs.YtbmnehnmmlfhdaaDoor
open Go.RowKit

theorem belJ {w W w1 : World} (h : Below w.heap.size w W) (hb : Below W.heap.size W w1) : Below w.heap.size w w1 := h.trans (hb.mono h.size)
theorem belA {w W : World} (h : Below w.heap.size w W) (o : Obj) : Below w.heap.size w (W.alloc o) := h.alloc h.size o

def Opn.agg (x : Opn) : Value := .agg #[.int .i64 x.p, .int .i64 x.k, .int .i64 x.d, .int .i64 x.a, .int .i64 x.b, .int .i64 x.r, .int .i64 x.c, .int .i64 x.e]
def Opn.obj (x : Opn) : Obj := .cells #[.int .i64 x.p, .int .i64 x.k, .int .i64 x.d, .int .i64 x.a, .int .i64 x.b, .int .i64 x.r, .int .i64 x.c, .int .i64 x.e] 51

end Go.Proofs.YtbmnehnmmlfhdaaDoor

namespace Go.Proofs.YtbmnehnmmlfhdaaDoor
open Go.RowKit

/-- The eight cells of an op, from a place on. -/
def OpAt (w : World) (b off : Nat) (x : Opn) : Prop :=
  w.cell? ⟨b, off, none⟩ = some (.int .i64 x.p) ∧ w.cell? ⟨b, off + 1, none⟩ = some (.int .i64 x.k) ∧ w.cell? ⟨b, off + 2, none⟩ = some (.int .i64 x.d) ∧ w.cell? ⟨b, off + 3, none⟩ = some (.int .i64 x.a) ∧ w.cell? ⟨b, off + 4, none⟩ = some (.int .i64 x.b) ∧ w.cell? ⟨b, off + 5, none⟩ = some (.int .i64 x.r) ∧ w.cell? ⟨b, off + 6, none⟩ = some (.int .i64 x.c) ∧ w.cell? ⟨b, off + 7, none⟩ = some (.int .i64 x.e)

/-- A row of ops, from a place on. -/
def OpsAt (w : World) (b off : Nat) (l : List Opn) : Prop := ∀ i, (h : i < l.length) → OpAt w b (off + i * 8) l[i]

theorem OpAt.below {w w' : World} {B b off : Nat} {x : Opn} (h : OpAt w b off x) (hb : b < B) (hn : Below B w w') : OpAt w' b off x := by
  obtain ⟨h0, h1, h2, h3, h4, h5, h6, h7⟩ := h
  exact ⟨(hn.cell (p := ⟨b, off, none⟩) hb).trans h0, (hn.cell (p := ⟨b, off + 1, none⟩) hb).trans h1, (hn.cell (p := ⟨b, off + 2, none⟩) hb).trans h2, (hn.cell (p := ⟨b, off + 3, none⟩) hb).trans h3, (hn.cell (p := ⟨b, off + 4, none⟩) hb).trans h4, (hn.cell (p := ⟨b, off + 5, none⟩) hb).trans h5, (hn.cell (p := ⟨b, off + 6, none⟩) hb).trans h6, (hn.cell (p := ⟨b, off + 7, none⟩) hb).trans h7⟩

theorem OpsAt.below {w w' : World} {B b off : Nat} {l : List Opn} (h : OpsAt w b off l) (hb : b < B) (hn : Below B w w') : OpsAt w' b off l := fun i hi => (h i hi).below hb hn

theorem OpAt.lt {w : World} {b off : Nat} {x : Opn} (h : OpAt w b off x) : b < w.heap.size := World.block_lt_of_cell? w ⟨b, off, none⟩ h.1

theorem OpsAt.take {w : World} {b off : Nat} {l : List Opn} (h : OpsAt w b off l) (n : Nat) : OpsAt w b off (l.take n) := fun i hi => by
  have hl : i < l.length := by simp at hi; omega
  have e : (l.take n)[i] = l[i] := List.getElem_take
  rw [e]
  exact h i hl

theorem any_take_succ (l : List Opn) (f : Opn → Bool) (k : Nat) (h : k < l.length) (h0 : (l.take k).any f = false) (h1 : f l[k] = false) : (l.take (k + 1)).any f = false := by
  rw [List.take_succ_eq_append_getElem h, List.any_append, h0]; simp [h1]
theorem any_of (l : List Opn) (f : Opn → Bool) (k : Nat) (h : k < l.length) (h1 : f l[k] = true) : l.any f = true :=
  List.any_eq_true.2 ⟨l[k], List.getElem_mem h, h1⟩

end Go.Proofs.YtbmnehnmmlfhdaaDoor
