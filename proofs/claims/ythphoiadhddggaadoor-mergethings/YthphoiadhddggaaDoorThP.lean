/-
  Chapter 15.2 in plain Lean: what Drop, Put and Join make of what is known.
-/
import Derived.Test.YthphoiadhddggaaDoorThW
namespace Go.Proofs.YthphoiadhddggaaDoor

/-- All tags of a thing are gone. -/
def dropT (f : Th) (x : Int) : Th := fun a b => (f a b).map fun m => if m.x = x then ⟨x, true⟩ else m
/-- What is known of a tag: is it gone? -/
def goneT (m : Option Mk) : Bool := match m with | some m => m.g | none => false
/-- What the one or the other knows; of a tag that both know, the other's thing. -/
def joinT (f g : Th) : Th := fun a b => match g a b with | some m => some ⟨m.x, m.g || goneT (f a b)⟩ | none => f a b
theorem dropT_some (f : Th) (x a b : Int) : (dropT f x a b).isSome = (f a b).isSome := by simp [dropT]
theorem few_drop {N : Nat} {f : Th} (h : Few N f) (x : Int) : Few N (dropT f x) := h.mono (Nat.le_refl _) fun a b h => by rw [dropT_some] at h; exact h
theorem joinT_some (f g : Th) (a b : Int) : (joinT f g a b).isSome = ((f a b).isSome || (g a b).isSome) := by
  unfold joinT
  cases g a b <;> simp
theorem few_join {N M : Nat} {f g : Th} (h : Few N f) (h' : Few M g) : Few (N + M) (joinT f g) := by
  obtain ⟨L, h1, h2⟩ := h
  obtain ⟨L', h3, h4⟩ := h'
  refine ⟨L ++ L', by simp; omega, fun a b h => ?_⟩
  rw [joinT_some, Bool.or_eq_true] at h
  rcases h with h | h
  · exact List.mem_append_left _ (h2 a b h)
  · exact List.mem_append_right _ (h4 a b h)
end Go.Proofs.YthphoiadhddggaaDoor
