/-
  Chapter 17 in plain Lean: registers by quorums that meet: each move keeps what is kept.
  Chapter 17 in plain Lean: registers by quorums that meet: what is heard keeps what is kept.
-/
import Derived.Test.YtncnojgemmcplaaGreatDoorAbP
namespace Go.Proofs.YtncnojgemmcplaaGreatDoor

section
variable {S S' : Sto}
end


theorem mem_sendL {l : List Ml} {m x : Ml} (h : x ∈ sendL l m) : x ∈ l ∨ x = m := by
  unfold sendL at h
  split at h
  · rcases List.mem_append.1 h with h | h
    · exact .inl h
    · exact .inr (List.mem_singleton.1 h)
  · exact .inl h
theorem mem_sendAll {l : List Ml} {n : Nat} {c : Int} {x : Cl} {m : Ml} (h : m ∈ sendAll l n c x) : m ∈ l ∨ ∃ j : Nat, j < n ∧ m = ⟨n + c, j, ⟨c, x.key, x.rd, x.tells, x.kept⟩⟩ := by
  unfold sendAll at h
  have key : ∀ (js : List Nat) (l : List Ml), m ∈ js.foldl (fun l (j : Nat) => sendL l ⟨n + c, j, ⟨c, x.key, x.rd, x.tells, x.kept⟩⟩) l → m ∈ l ∨ ∃ j ∈ js, m = ⟨n + c, j, ⟨c, x.key, x.rd, x.tells, x.kept⟩⟩ := by
    intro js
    induction js with
    | nil => intro l h; exact .inl h
    | cons j js ih =>
      intro l h
      rcases ih _ h with h | ⟨i, hi, e⟩
      · rcases mem_sendL h with h | h
        · exact .inl h
        · exact .inr ⟨j, List.mem_cons_self, h⟩
      · exact .inr ⟨i, List.mem_cons_of_mem _ hi, e⟩
  rcases key _ _ h with h | ⟨j, hj, e⟩
  · exact .inl h
  · exact .inr ⟨j, List.mem_range.1 hj, e⟩





end Go.Proofs.YtncnojgemmcplaaGreatDoor

namespace Go.Proofs.YtncnojgemmcplaaGreatDoor


open Classical in









/-- A new store. -/
def cl0 : Cl := ⟨false, false, false, false, 0, 0, 0, ⟨⟨0, 0⟩, 0⟩, []⟩
def sto0 (n k ask tell : Nat) (back : Bool) : Sto := ⟨n, k, ask, tell, back, fun _ _ => true, [], fun _ _ => hd0, fun _ => cl0, []⟩
end Go.Proofs.YtncnojgemmcplaaGreatDoor
