/-
  Chapter 15.2 in plain Lean: which tags there can be; lists of numbers in memory.
-/
import Derived.Test.YthphoiadhddggaaDoorThZ
namespace Go.Proofs.YthphoiadhddggaaDoor
open Go.RowKit

/-- Places are below 7, numbers from 1 to n. -/
def Grid (n : Nat) (f : Th) : Prop := ∀ a b m, f a b = some m → 0 ≤ a ∧ a < 7 ∧ 1 ≤ b ∧ b ≤ n
def gridL (n : Nat) : List (Int × Int) := (List.range 7).flatMap fun (a : Nat) => (List.range n).map fun (b : Nat) => ((a : Int), (b : Int) + 1)
theorem gridL_len (n : Nat) : (gridL n).length = 7 * n := by
  unfold gridL
  simp [List.range_succ]
  omega
theorem Grid.supp {n : Nat} {f : Th} (h : Grid n f) (a b : Int) (hs : (f a b).isSome = true) : (a, b) ∈ gridL n := by
  obtain ⟨m, hm⟩ := Option.isSome_iff_exists.1 hs
  obtain ⟨h1, h2, h3, h4⟩ := h a b m hm
  unfold gridL
  rw [List.mem_flatMap]
  refine ⟨a.toNat, List.mem_range.2 (by omega), ?_⟩
  rw [List.mem_map]
  exact ⟨(b - 1).toNat, List.mem_range.2 (by omega), Prod.ext (by simp; omega) (by simp; omega)⟩
theorem Grid.few {n : Nat} {f : Th} (h : Grid n f) {N : Nat} (hn : 7 * n ≤ N) : Few N f := ⟨gridL n, by rw [gridL_len]; exact hn, h.supp⟩
theorem grid_none : Grid 0 (fun _ _ => none) := fun _ _ _ h => by cases h
theorem Grid.mono {n n' : Nat} {f : Th} (h : Grid n f) (hn : n ≤ n') : Grid n' f := fun a b m hm => by
  obtain ⟨h1, h2, h3, h4⟩ := h a b m hm
  exact ⟨h1, h2, h3, by omega⟩
theorem Grid.max {n : Nat} {f : Th} (h : Grid n f) {p m : Int} (hm : MaxT f p m) : m ≤ n := by
  rcases hm.at_ with e | ⟨x, hx⟩
  · omega
  · exact (h p m x hx).2.2.2
theorem Grid.put {n : Nat} {f : Th} (h : Grid n f) {p m : Int} (h0 : 0 ≤ p ∧ p < 7) (hm : MaxT f p m) (x : Mk) : Grid (n + 1) (putK2 f p (m + 1) x) := fun a b y hy => by
  have h1 := h.max hm
  have h2 := hm.lo
  by_cases e : a = p ∧ b = m + 1
  · obtain ⟨rfl, rfl⟩ := e
    exact ⟨h0.1, h0.2, by omega, by omega⟩
  · rw [putK2_other _ _ _ _ _ _ e] at hy
    obtain ⟨h3, h4, h5, h6⟩ := h a b y hy
    exact ⟨h3, h4, h5, by omega⟩
theorem drop_of {f : Th} {x a b : Int} {m : Mk} (h : dropT f x a b = some m) : ∃ m', f a b = some m' := by
  have : (dropT f x a b).isSome = true := by rw [h]; rfl
  rw [dropT_some] at this
  exact Option.isSome_iff_exists.1 this
theorem Grid.drop {n : Nat} {f : Th} (h : Grid n f) (x : Int) : Grid n (dropT f x) := fun a b m hm => by
  obtain ⟨m', hm'⟩ := drop_of hm
  exact h a b m' hm'
theorem Grid.bnd {n : Nat} {f : Th} (h : Grid n f) (hn : n ≤ 1000000) (p : Int) : ∀ k x, f p k = some x → k ≤ 1000000 := fun k x hx => by
  have := (h p k x hx).2.2.2
  omega

/-- A list of numbers in memory. -/
def IntsQ (w : World) (a : Option Addr) (l : List Int) : Prop := l = [] ∨ ∃ g off, a = some ⟨g, off, none⟩ ∧ g < w.heap.size ∧ ∀ k (h : k < l.length), w.cell? ⟨g, off + k, none⟩ = some (.int .i64 l[k])
theorem IntsQ.below {w w' : World} {a : Option Addr} {l : List Int} (h : IntsQ w a l) (hw : Below w.heap.size w w') : IntsQ w' a l := by
  rcases h with h | ⟨g, off, h1, h2, h3⟩
  · exact .inl h
  · exact .inr ⟨g, off, h1, Nat.lt_of_lt_of_le h2 hw.size, fun k hk => (hw.cell (p := ⟨g, off + k, none⟩) h2).trans (h3 k hk)⟩
theorem IntsQ.at {w : World} {a : Option Addr} {l : List Int} (h : IntsQ w a l) {i : Nat} (hi : i < l.length) : ∃ g off, a = some ⟨g, off, none⟩ ∧ g < w.heap.size ∧ w.cell? ⟨g, off + i, none⟩ = some (.int .i64 l[i]) := by
  rcases h with e | ⟨g, off, e, hg, h⟩
  · rw [e] at hi; simp at hi
  · exact ⟨g, off, e, hg, h i hi⟩
end Go.Proofs.YthphoiadhddggaaDoor
