/-
  What is told ahead of a search, in plain words.
-/
import Derived.Test.YtfojmbbhcmeejaaDoorTimelyWZ
import Derived.Test.YtfojmbbhcmeejaaDoorDoWZ
namespace Go.Proofs.YtfojmbbhcmeejaaDoor
open Go.RowKit

/-- What is told ahead of a search. -/
def LcTold (o bud : Int) (l : List Opn) (n : Int) : Prop :=
  (objB o = false ∧ n = 1) ∨ (objB o = true ∧ (bud < 0 ∨ 1000000 < bud) ∧ n = 2) ∨ (objB o = true ∧ 0 ≤ bud ∧ bud ≤ 1000000 ∧ CkTold o l n)
theorem lcTold_one {o bud : Int} {l : List Opn} {n m : Int} (h1 : LcTold o bud l n) (h2 : LcTold o bud l m) : n = m := by
  rcases h1 with ⟨a, rfl⟩ | ⟨a, b, rfl⟩ | ⟨a, b, b', h⟩
  · rcases h2 with ⟨_, rfl⟩ | ⟨a', _⟩ | ⟨a', _⟩
    · rfl
    · rw [a] at a'; cases a'
    · rw [a] at a'; cases a'
  · rcases h2 with ⟨a', _⟩ | ⟨_, _, rfl⟩ | ⟨_, c, c', _⟩
    · rw [a] at a'; cases a'
    · rfl
    · omega
  · rcases h2 with ⟨a', _⟩ | ⟨_, c, _⟩ | ⟨_, _, _, k⟩
    · rw [a] at a'; cases a'
    · omega
    · exact ckTold_one h k


theorem told_nums {l : List Opn} (h : Told l 0) : ∀ n, n < l.length → I64 (opN l n).a ∧ I64 (opN l n).b := fun n hn => by
  rw [opN_at hn]
  have := (fault_zero ((told_zero h).2 n hn)).1
  simp [rangeB, inB, numB] at this
  unfold I64
  omega
theorem ckTold_told {o : Int} {l : List Opn} (h : CkTold o l 0) : Told l 0 := by
  rcases h with ⟨h, _⟩ | ⟨h, _⟩ | ⟨h, _⟩
  · exact absurd rfl h
  · exact h
  · exact h

end Go.Proofs.YtfojmbbhcmeejaaDoor
