/-
  WHAT IS IN THE ORDER OF TIME IS IN EACH PROCESS' OWN: of ops that nothing is told against, one that is earlier of its process is Before.
-/
import Derived.Test.YtndogemgjjgbgabDoorSameW
import Derived.Test.YtndogemgjjgbgabDoorTimelyWZ
import Derived.Test.YtndogemgjjgbgabDoorPlainNZ
namespace Go.Proofs.YtndogemgjjgbgabDoor
open Go.RowKit

theorem rise_one {l : List Opn} (h : Told l 0) {j : Nat} (hj : j + 1 < l.length) : (opN l j).c < (opN l (j + 1)).c := by
  have h1 := (fault_zero ((told_zero h).2 (j + 1) hj)).2.2.1
  rw [opN_at hj, opN_at (by omega : j < l.length)]
  have e : (l.take (j + 1)).getLast? = some l[j] := by
    rw [List.getLast?_take]
    simp [List.getElem?_eq_getElem (by omega : j < l.length)]
  unfold orderB lastOk at h1
  rw [e] at h1
  simp only [Bool.and_eq_true, decide_eq_true_eq] at h1
  exact h1.1.2
theorem rise_all {l : List Opn} (h : Told l 0) {i : Nat} : ∀ d, i + d + 1 < l.length → (opN l i).c < (opN l (i + d + 1)).c
  | 0, hd => rise_one h hd
  | d + 1, hd => Int.lt_trans (rise_all h d (by omega)) (rise_one h (j := i + d + 1) hd)

theorem same_before {l : List Opn} (h : Told l 0) {a b : Nat} (ha : a < l.length) (hb : b < l.length) (hs : sameB (opN l a) (opN l b) = true) : beforeB (opN l a) (opN l b) = true := by
  simp only [sameB, Bool.and_eq_true, decide_eq_true_eq] at hs
  obtain ⟨hp, hc⟩ := hs
  have hab : a < b := by
    rcases Nat.lt_trichotomy a b with g | g | g
    · exact g
    · subst g; exact absurd hc (Int.lt_irrefl _)
    · obtain ⟨d, rfl⟩ : ∃ d, a = b + d + 1 := ⟨a - b - 1, by omega⟩
      have := rise_all h (i := b) d ha
      exact absurd (Int.lt_trans hc this) (Int.lt_irrefl _)
  have hm : l[a] ∈ l.take b := by
    rw [List.mem_take_iff_getElem]
    exact ⟨a, by omega, rfl⟩
  have h2 : clashB l[a] l[b] = false := by
    have := (fault_zero ((told_zero h).2 b hb)).2.2.2.2
    rw [List.any_eq_false] at this
    simpa using this _ hm
  rw [opN_at ha, opN_at hb] at hp ⊢
  have hp' : (l[a].p == l[b].p) = true := by simpa using hp
  unfold clashB at h2
  rw [hp'] at h2
  simpa using h2

/-- What shows the order of time shows each process' own. -/
theorem seq_core {o : Int} {ops : List Opn} {ord : List Nat} (ht : Told ops 0) (h8 : ops.length ≤ 8) (hs : ShowsM o ops (iL ord)) : (searchM ⟨o, ops, sameB, 1000000, nameB⟩).code = 1 := by
  have h3 := search_known (c := ⟨o, ops, sameB, 1000000, nameB⟩) h8 rfl
  have h2 : (searchM ⟨o, ops, sameB, 1000000, nameB⟩).code ≠ 2 := fun hc =>
    search_dead (own_of_names rfl (told_keysN ht)) hc (shows_comp (c := ⟨o, ops, sameB, 1000000, nameB⟩) hs (fun a b ha hb _ h => same_before ht ha hb h))
  rcases visit_code (c := ⟨o, ops, sameB, 1000000, nameB⟩) (ops.length + 1) (fun _ => startL o) [] [] with h | h | h
  · exact h
  · exact absurd h h2
  · exact absurd h h3

end Go.Proofs.YtndogemgjjgbgabDoor
