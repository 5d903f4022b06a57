/-
  What was seen, in memory: events and stamps by their places.
-/
import Derived.Test.YtncnojgemmcplaaSwT
import Derived.Deep.RegionHeld3
import Derived.BigQuiet
namespace Go.Proofs.Ytncnojgemmcplaa
open Go.RowKit

def SpAt (w : World) (g o : Nat) (s : Smp) : Prop := w.cell? ⟨g, o, none⟩ = some (.int .i64 s.t) ∧ w.cell? ⟨g, o + 1, none⟩ = some (.int .i64 s.c)
def evI (l : List Evp) (i : Nat) : Evp := (l[i]?).getD ⟨0, 0, 0, 0, 0, 0, 0⟩
def spI (l : List Smp) (i : Nat) : Smp := (l[i]?).getD ⟨0, 0⟩
theorem evI_at {l : List Evp} {i : Nat} (h : i < l.length) : l[i]? = some (evI l i) := by unfold evI; rw [List.getElem?_eq_getElem h]; rfl
theorem spI_at {l : List Smp} {i : Nat} (h : i < l.length) : l[i]? = some (spI l i) := by unfold spI; rw [List.getElem?_eq_getElem h]; rfl
theorem evCs_at {l : List Evp} {i j : Nat} (hi : i < l.length) (hj : j < 7) : (evCs l)[i * 7 + j]? = (evC (evI l i))[j]? := by
  have := flat_at (c := evC) (m := 7) (fun _ => rfl) l i j hi hj
  unfold evCs
  rw [this]
  congr 2
  unfold evI
  rw [List.getElem?_eq_getElem hi]
  rfl
theorem spCs_at {l : List Smp} {i j : Nat} (hi : i < l.length) (hj : j < 2) : (spCs l)[i * 2 + j]? = (spC (spI l i))[j]? := by
  have := flat_at (c := spC) (m := 2) (fun _ => rfl) l i j hi hj
  unfold spCs
  rw [this]
  congr 2
  unfold spI
  rw [List.getElem?_eq_getElem hi]
  rfl
theorem ev_at {W Z : World} {base : Nat} {ae : Option Addr} {l : List Evp} {n ce : Nat} (h : W.ownsRow base 37 7 (.slice ae n ce) l.length (evCs l)) (hZ : Below W.heap.size W Z) {i : Nat} (hi : i < l.length) : ∃ ge, ae = some ⟨ge, 0, none⟩ ∧ EvpAt Z ge (i * 7) (evI l i) := by
  rcases own_cells h with ⟨_, e⟩ | ⟨g, cap, e, _, hg, hc⟩
  · omega
  · cases e
    have hk : ∀ j, j < 7 → Z.cell? ⟨g, i * 7 + j, none⟩ = (evC (evI l i))[j]? := fun j hj => by
      rw [hZ.cell (p := ⟨g, i * 7 + j, none⟩) hg, hc _ (by omega), evCs_at hi hj]
    exact ⟨g, rfl, hk 0 (by decide), hk 1 (by decide), hk 2 (by decide), hk 3 (by decide), hk 4 (by decide), hk 5 (by decide), hk 6 (by decide)⟩
theorem sp_at {W Z : World} {base : Nat} {ae : Option Addr} {l : List Smp} {n ce : Nat} (h : W.ownsRow base 39 2 (.slice ae n ce) l.length (spCs l)) (hZ : Below W.heap.size W Z) {i : Nat} (hi : i < l.length) : ∃ ge, ae = some ⟨ge, 0, none⟩ ∧ SpAt Z ge (i * 2) (spI l i) := by
  rcases own_cells h with ⟨_, e⟩ | ⟨g, cap, e, _, hg, hc⟩
  · omega
  · cases e
    have hk : ∀ j, j < 2 → Z.cell? ⟨g, i * 2 + j, none⟩ = (spC (spI l i))[j]? := fun j hj => by
      rw [hZ.cell (p := ⟨g, i * 2 + j, none⟩) hg, hc _ (by omega), spCs_at hi hj]
    exact ⟨g, rfl, hk 0 (by decide), hk 1 (by decide)⟩
end Go.Proofs.Ytncnojgemmcplaa
