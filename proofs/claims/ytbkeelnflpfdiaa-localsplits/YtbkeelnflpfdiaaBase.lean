/-
  Ops in memory; what Split tells, in plain Lean: of each key the numbers of its ops.
-/
import Derived.Test.YtbkeelnflpfdiaaProg
import Derived.WalkKit
import Derived.WalkSpells
import Derived.WalkLawsBesides
import Derived.Deep.RegionWith
import Derived.LoopTactic
import Derived.Deep.Draws
import Derived.Laws.AppendOwn
import Derived.Laws.Rows
import Derived.Maps.AppendAt
import Derived.OwnWalk
import Derived.Below
namespace Go.Proofs.Ytbkeelnflpfdiaa
open Go.RowKit

theorem hideIt {p : Prop} (h : p) : Hid p := h
theorem belJ {w W w1 : World} (h : Below w.heap.size w W) (hb : Below W.heap.size W w1) : Below w.heap.size w w1 := h.trans (hb.mono h.size)
theorem belA {w W : World} (h : Below w.heap.size w W) (o : Obj) : Below w.heap.size w (W.alloc o) := h.alloc h.size o
theorem lt_of_heap {w : World} {g : Nat} {o : Obj} (h : w.heap[g]? = some o) : g < w.heap.size := by
  rcases Nat.lt_or_ge g w.heap.size with hlt | hge
  · exact hlt
  · rw [Array.getElem?_eq_none hge] at h; cases h

structure Opn where
  p : Int
  k : Int
  d : Int
  a : Int
  b : Int
  r : Int
  c : Int
  e : Int
def op0 : Opn := ⟨0, 0, 0, 0, 0, 0, 0, 0⟩
def opN (ops : List Opn) (n : Nat) : Opn := ops.getD n op0
theorem opN_at {ops : List Opn} {n : Nat} (h : n < ops.length) : opN ops n = ops[n] := by simp [opN, h]
def Opn.list (x : Opn) : List Value := [.int .i64 x.p, .int .i64 x.k, .int .i64 x.d, .int .i64 x.a, .int .i64 x.b, .int .i64 x.r, .int .i64 x.c, .int .i64 x.e]
def opCells (l : List Opn) : List Value := l.flatMap Opn.list
theorem opCells_snoc (l : List Opn) (x : Opn) : opCells (l ++ [x]) = opCells l ++ x.list := by simp [opCells]
theorem opCells_len (L : List Opn) : (opCells L).length = L.length * 8 := by
  induction L with
  | nil => rfl
  | cons x r ih => simp [opCells, Opn.list] at ih ⊢; omega
theorem opCells_get (L : List Opn) (i c : Nat) (hi : i < L.length) (hc : c < 8) : (opCells L)[i * 8 + c]? = L[i].list[c]? := by
  induction L generalizing i with
  | nil => simp at hi
  | cons x r ih =>
    have e : opCells (x :: r) = x.list ++ opCells r := by simp [opCells]
    rw [e]
    cases i with
    | zero => rw [List.getElem?_append_left (by simp [Opn.list]; omega)]; simp
    | succ i =>
      rw [List.getElem?_append_right (by simp [Opn.list]; omega)]
      have := ih i (by simp at hi; omega)
      rw [show (i + 1) * 8 + c - x.list.length = i * 8 + c by simp [Opn.list]; omega]
      simpa using this

/-- The eight cells of an op, from a place on. -/
def OpAt (w : World) (b off : Nat) (x : Opn) : Prop :=
  w.cell? ⟨b, off, none⟩ = some (.int .i64 x.p) ∧ w.cell? ⟨b, off + 1, none⟩ = some (.int .i64 x.k) ∧ w.cell? ⟨b, off + 2, none⟩ = some (.int .i64 x.d) ∧ w.cell? ⟨b, off + 3, none⟩ = some (.int .i64 x.a) ∧ w.cell? ⟨b, off + 4, none⟩ = some (.int .i64 x.b) ∧ w.cell? ⟨b, off + 5, none⟩ = some (.int .i64 x.r) ∧ w.cell? ⟨b, off + 6, none⟩ = some (.int .i64 x.c) ∧ w.cell? ⟨b, off + 7, none⟩ = some (.int .i64 x.e)
def OpsAt (w : World) (b off : Nat) (l : List Opn) : Prop := ∀ i, (h : i < l.length) → OpAt w b (off + i * 8) l[i]
theorem OpAt.below {w w' : World} {B b off : Nat} {x : Opn} (h : OpAt w b off x) (hb : b < B) (hn : Below B w w') : OpAt w' b off x := by
  obtain ⟨h0, h1, h2, h3, h4, h5, h6, h7⟩ := h
  exact ⟨(hn.cell (p := ⟨b, off, none⟩) hb).trans h0, (hn.cell (p := ⟨b, off + 1, none⟩) hb).trans h1, (hn.cell (p := ⟨b, off + 2, none⟩) hb).trans h2, (hn.cell (p := ⟨b, off + 3, none⟩) hb).trans h3, (hn.cell (p := ⟨b, off + 4, none⟩) hb).trans h4, (hn.cell (p := ⟨b, off + 5, none⟩) hb).trans h5, (hn.cell (p := ⟨b, off + 6, none⟩) hb).trans h6, (hn.cell (p := ⟨b, off + 7, none⟩) hb).trans h7⟩
theorem OpsAt.below {w w' : World} {B b off : Nat} {l : List Opn} (h : OpsAt w b off l) (hb : b < B) (hn : Below B w w') : OpsAt w' b off l := fun i hi => (h i hi).below hb hn
/-- Ops that lie in memory. -/
def OpsIn (w : World) (v : Value) (l : List Opn) : Prop :=
  ∃ a cap, v = .slice a l.length cap ∧ l.length ≤ cap ∧ l.length ≤ maxLen ∧ (l = [] ∨ ∃ b off, a = some ⟨b, off, none⟩ ∧ b < w.heap.size ∧ OpsAt w b off l)
theorem OpsIn.below {w w' : World} {v : Value} {l : List Opn} (h : OpsIn w v l) (hb : Below w.heap.size w w') : OpsIn w' v l := by
  obtain ⟨a, cap, rfl, hc, hm, h⟩ := h
  refine ⟨a, cap, rfl, hc, hm, ?_⟩
  rcases h with h | ⟨b, off, rfl, hlt, h⟩
  · exact .inl h
  · exact .inr ⟨b, off, rfl, Nat.lt_of_lt_of_le hlt hb.size, h.below hlt hb⟩

/-- The numbers of a key's ops, among the first k. -/
def nums (ops : List Opn) (q : Int) (k : Nat) : List Nat := (List.range k).filter fun n => decide ((opN ops n).k = q)
theorem nums_hit {ops : List Opn} {q : Int} {k : Nat} (h : (opN ops k).k = q) : nums ops q (k + 1) = nums ops q k ++ [k] := by simp [nums, List.range_succ, h]
theorem nums_miss {ops : List Opn} {q : Int} {k : Nat} (h : (opN ops k).k ≠ q) : nums ops q (k + 1) = nums ops q k := by simp [nums, List.range_succ, h]
theorem nums_le (ops : List Opn) (q : Int) (k : Nat) : (nums ops q k).length ≤ k := by
  have := List.length_filter_le (fun n => decide ((opN ops n).k = q)) (List.range k)
  simpa [nums] using this
def partL (ops : List Opn) (q : Int) (k : Nat) : List Opn := (nums ops q k).map (opN ops)
def ordV (ord : List Nat) : List Value := ord.map fun n : Nat => .int .i64 (n : Int)
theorem part_hit {ops : List Opn} {q : Int} {k : Nat} (h : (opN ops k).k = q) : partL ops q (k + 1) = partL ops q k ++ [opN ops k] := by simp [partL, nums_hit h]
theorem part_miss {ops : List Opn} {q : Int} {k : Nat} (h : (opN ops k).k ≠ q) : partL ops q (k + 1) = partL ops q k := by simp [partL, nums_miss h]
theorem part_length (ops : List Opn) (q : Int) (k : Nat) : (partL ops q k).length = (nums ops q k).length := by simp [partL]

/-- A key's ops and their numbers in memory. -/
structure PartAt (w : World) (base : Nat) (v n : Value) (ops : List Opn) (q : Int) (k : Nat) : Prop where
  part : w.ownsRow base 34 8 v (nums ops q k).length (opCells (partL ops q k))
  num : w.ownsRow base 3 1 n (nums ops q k).length (ordV (nums ops q k))

theorem ownsRow_same {w w' : World} {base : Nat} {e : TypeId} {size : Nat} {v : Value} {n : Nat} {xs : List Value} (h : w.ownsRow base e size v n xs) (hs : ∀ b, v.ownBlock = some b → w'.heap[b]? = w.heap[b]?) : w'.ownsRow base e size v n xs := by
  obtain ⟨hl, h | ⟨g, cap, cur, rfl, hb, hh, h1⟩⟩ := h
  · exact ⟨hl, .inl h⟩
  · exact ⟨hl, .inr ⟨g, cap, cur, rfl, hb, (hs g rfl).trans hh, h1⟩⟩
theorem ownsRow_block {w : World} {base : Nat} {e : TypeId} {size : Nat} {v : Value} {n : Nat} {xs : List Value} (h : w.ownsRow base e size v n xs) : ∀ b, v.ownBlock = some b → base ≤ b ∧ b < w.heap.size ∧ ∃ cur, w.heap[b]? = some (.cells cur e (0, 0)) := by
  intro b hb
  have hl := h.lt b hb
  obtain ⟨_, ⟨rfl, _⟩ | ⟨g, cap, cur, rfl, _, hh, _⟩⟩ := h
  · cases hb
  · obtain rfl : g = b := by simpa [Value.ownBlock] using hb
    exact ⟨hl.1, hl.2, cur, hh⟩
theorem ownsRow_slice {w : World} {base : Nat} {e : TypeId} {size : Nat} {v : Value} {n : Nat} {xs : List Value} (h : w.ownsRow base e size v n xs) : ∃ a c, v = .slice a n c ∧ n ≤ c := by
  obtain ⟨_, ⟨rfl, rfl⟩ | ⟨g, cap, cur, rfl, _, _, h1, _⟩⟩ := h
  · exact ⟨none, 0, rfl, Nat.le_refl _⟩
  · exact ⟨_, cap, rfl, h1⟩
end Go.Proofs.Ytbkeelnflpfdiaa
