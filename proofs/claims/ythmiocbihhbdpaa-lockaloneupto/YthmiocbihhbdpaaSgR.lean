/-
  Which transactions must come ahead of which, as rows of bools; such a graph that was made, in memory.
-/
import Derived.Test.YthmiocbihhbdpaaPrW
import Derived.Test.YthmiocbihhbdpaaNrWZ
namespace Go.Proofs.Ythmiocbihhbdpaa
open Go.RowKit

def matL (A : Nat → Nat → Bool) : List (List Bool) := (List.range 8).map fun i => (List.range 8).map fun k => A i k
theorem matL_len (A : Nat → Nat → Bool) : (matL A).length = 8 := by simp [matL]
theorem matL_row (A : Nat → Nat → Bool) {i : Nat} (h : i < (matL A).length) : (matL A)[i] = (List.range 8).map fun k => A i k := by simp [matL]
theorem matL_rows (A : Nat → Nat → Bool) : ∀ r ∈ matL A, r.length = 8 := fun r hr => by
  unfold matL at hr
  obtain ⟨i, _, rfl⟩ := List.mem_map.1 hr
  simp
theorem matL_ok (A : Nat → Nat → Bool) : ckG (matL A) = 0 := by
  unfold ckG
  rw [matL_len, if_neg (by decide), if_pos]
  rw [List.all_eq_true]
  intro r hr
  rw [matL_rows A r hr]; rfl
theorem matL_gB (A : Nat → Nat → Bool) {i k : Nat} (hi : i < 8) (hk : k < 8) : gB (matL A) i k = A i k := by
  unfold gB matL
  simp [List.getD, hi, hk]
theorem matL_congr {A A' : Nat → Nat → Bool} (h : ∀ i k, i < 8 → k < 8 → A i k = A' i k) : matL A = matL A' := by
  unfold matL
  refine List.map_congr_left fun i hi => List.map_congr_left fun k hk => h i k (by simpa using hi) (by simpa using hk)
theorem grQ_read {w : World} {v : Value} {A : Nat → Nat → Bool} (h : ReadM w v 8 A) : ∃ a cap, v = .slice a 8 cap ∧ GrQ w a (matL A) := by
  obtain ⟨a, cap, rfl, hc, hr⟩ := h
  refine ⟨a, cap, rfl, ?_⟩
  obtain ⟨g, off, r, rfl, h0, _⟩ := hr 0 (by decide)
  refine .inr ⟨g, off, rfl, World.block_lt_of_cell? w _ h0, fun i hi => ?_⟩
  obtain ⟨g', off', r', e, h1, h2⟩ := hr i (by rw [matL_len] at hi; exact hi)
  injection e with e
  injection e with e1 e2
  subst e1 e2
  refine ⟨_, h1, some ⟨r', 0, none⟩, 8, ?_, ?_, .inr ⟨r', 0, rfl, ?_, fun j hj => ?_⟩⟩
  · rw [matL_row]; simp
  · rw [matL_row]; simp
  · exact World.block_lt_of_cell? w _ (h2 0 (by decide))
  · have hj8 : j < 8 := by rw [matL_row] at hj; simpa using hj
    rw [Nat.zero_add, h2 j hj8]
    simp [matL_row]
/-- Of steps: who must come ahead of whom. -/
noncomputable def gsB (l : List Stp) (t u : Nat) : Bool := @decide (SgK (doneL l) (doneL l).length 0 t u) (Classical.propDecidable _)
theorem gsB_iff {l : List Stp} {t u : Nat} : gsB l t u = true ↔ SgK (doneL l) (doneL l).length 0 t u := by
  unfold gsB
  exact @decide_eq_true_iff _ (Classical.propDecidable _)
noncomputable def sgR (l : List Stp) : List (List Bool) := matL (gsB l)
theorem sgR_of {l : List Stp} {A : Nat → Nat → Bool} (h : ∀ t u, t < 8 → u < 8 → (A t u = true ↔ SgK (doneL l) (doneL l).length 0 t u)) : matL A = sgR l :=
  matL_congr fun i k hi hk => by
    rw [Bool.eq_iff_iff, h i k hi hk, gsB_iff]
theorem sgR_len (l : List Stp) : (sgR l).length = 8 := matL_len _
theorem sgR_ok (l : List Stp) : ckG (sgR l) = 0 := matL_ok _
theorem sgR_rows (l : List Stp) : ∀ r ∈ sgR l, r.length ≤ maxLen := fun r hr => by rw [matL_rows _ r hr]; decide
theorem sgR_gB (l : List Stp) {i k : Nat} (hi : i < 8) (hk : k < 8) : gB (sgR l) i k = true ↔ SgK (doneL l) (doneL l).length 0 i k := by
  unfold sgR
  rw [matL_gB _ hi hk, gsB_iff]
/-- The order of all, or none. -/
noncomputable def sgO (l : List Stp) : Option (List Nat) := ordG (gB (sgR l)) 8 8
/-- The order of those that commit. -/
def comL (l : List Stp) (L : List Nat) : List Nat := L.filter fun t => commB l (t : Int)
/-- What Clashes tells. -/
def ChTold (l : List Stp) (w : World) (e : Ending) (w' : World) : Prop :=
  ∃ v1 v2 er n pl, e = .returned (.tuple #[v1, v2, er]) ∧ CkS l n pl ∧ Below w.heap.size w w' ∧
    ((n ≠ 0 ∧ v1 = .slice none 0 0 ∧ v2 = .slice none 0 0 ∧ ErrAt w' er n pl) ∨
     (n = 0 ∧ ∃ L, sgO l = some L ∧ RowAt w' w.heap.size v1 (natI (comL l L)) ∧ v2 = .slice none 0 0 ∧ er = .nilIface) ∨
     (n = 0 ∧ sgO l = none ∧ v1 = .slice none 0 0 ∧ RowAt w' w.heap.size v2 (natI (cyL (sgR l))) ∧ er = toldV 11))
theorem sgO_order {l : List Stp} {L : List Nat} (h : sgO l = some L) : oG (sgR l) = 0 ∧ oL (sgR l) = L := by
  unfold sgO at h
  unfold oG oL
  rw [if_pos (sgR_ok l), if_pos (sgR_ok l), sgR_len, h]
  exact ⟨rfl, rfl⟩
theorem sgO_none {l : List Stp} (h : sgO l = none) : oG (sgR l) = 11 ∧ oL (sgR l) = [] := by
  unfold sgO at h
  unfold oG oL
  rw [if_pos (sgR_ok l), if_pos (sgR_ok l), sgR_len, h]
  exact ⟨rfl, rfl⟩
theorem sgO_lt {l : List Stp} {L : List Nat} (h : sgO l = some L) : L.length = 8 ∧ ∀ x ∈ L, x < 8 := ⟨(ordG_ok h).1, (ordG_ok h).2.lt⟩
theorem filter_snoc {p : Nat → Bool} {L : List Nat} {k : Nat} (h : k < L.length) : (L.take (k + 1)).filter p = (L.take k).filter p ++ if p L[k] = true then [L[k]] else [] := by
  rw [List.take_succ_eq_append_getElem h, List.filter_append]
  cases e : p L[k] <;> simp [e]
end Go.Proofs.Ythmiocbihhbdpaa
