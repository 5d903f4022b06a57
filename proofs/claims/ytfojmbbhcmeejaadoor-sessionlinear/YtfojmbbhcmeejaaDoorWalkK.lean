/-
  Which calls an object knows, and its state at first: the program's and the document's, walked.
-/
import Derived.Test.YtfojmbbhcmeejaaDoorProg
import Derived.Test.YtfojmbbhcmeejaaDoorRowS
import Derived.WalkKit
import Derived.WalkSpells
import Derived.WalkLawsBesides
import Derived.Deep.RegionWith
import Derived.LoopTactic
import Derived.Deep.Draws
namespace Go.Proofs.YtfojmbbhcmeejaaDoor
open Go.RowKit

theorem hideIt {p : Prop} (h : p) : Hid p := h

/-- The table of the program: a row an object. -/
def KnownAt (w : World) : Prop := ∀ o k : Nat, o < 7 → k < 13 → w.cell? ⟨0, o * 13 + k, none⟩ = some (.bool (knowsB o k))

theorem KnownAt.below {w w' : World} {n : Nat} (h : KnownAt w) (hn : 0 < n) (hb : Below n w w') : KnownAt w' := fun o k ho hk =>
  (hb.cell (p := ⟨0, o * 13 + k, none⟩) hn).trans (h o k ho hk)

theorem knowsB_out {o k : Int} (h : o < 0 ∨ 7 ≤ o ∨ k < 0 ∨ 12 < k) : knowsB o k = false := by
  unfold knowsB
  rcases h with h | h | h | h
  · have : o ≠ 1 ∧ o ≠ 2 ∧ o ≠ 3 ∧ o ≠ 4 ∧ o ≠ 5 ∧ o ≠ 6 := by omega
    simp [this]
  · have : o ≠ 1 ∧ o ≠ 2 ∧ o ≠ 3 ∧ o ≠ 4 ∧ o ≠ 5 ∧ o ≠ 6 := by omega
    simp [this]
  · have : k ≠ 1 ∧ k ≠ 2 ∧ k ≠ 3 ∧ k ≠ 4 ∧ k ≠ 5 ∧ k ≠ 6 ∧ k ≠ 7 ∧ k ≠ 8 ∧ k ≠ 9 ∧ k ≠ 10 ∧ k ≠ 11 ∧ k ≠ 12 := by omega
    simp [this]
  · have : k ≠ 1 ∧ k ≠ 2 ∧ k ≠ 3 ∧ k ≠ 4 ∧ k ≠ 5 ∧ k ≠ 6 ∧ k ≠ 7 ∧ k ≠ 8 ∧ k ≠ 9 ∧ k ≠ 10 ∧ k ≠ 11 ∧ k ≠ 12 := by omega
    simp [this]

set_option maxHeartbeats 400000 in
theorem knows_in (o k : Nat) (w : World) (ho : o < 7) (hk : k < 13) (hc : w.cell? ⟨0, o * 13 + k, none⟩ = some (.bool (knowsB o k))) :
    Calls Tryd.prog 65 #[.int .i64 o, .int .i64 k] w fun e w' => e = .returned (.bool (knowsB o k)) ∧ w' = w := by
  have h1 : decide ((o : Int) < 0) = false := by simp
  have h2 : decide (7 ≤ (o : Int)) = false := by simp; omega
  have h3 : decide ((k : Int) < 0) = false := by simp
  have h4 : decide (12 < (k : Int)) = false := by simp; omega
  have i1 : (0 : Int) ≤ (o : Int) := by omega
  have i2 : (o : Int) < 7 := by omega
  have i3 : (0 : Int) ≤ (k : Int) := by omega
  have i4 : (k : Int) < 13 := by omega
  go_enter Tryd.func65, Tryd.ntmps65
  go_wp2
  go_ret
  exact ⟨rfl, rfl⟩

set_option maxHeartbeats 400000 in
theorem knows_out (o k : Int) (w : World) (h : o < 0 ∨ 7 ≤ o ∨ k < 0 ∨ 12 < k) :
    Calls Tryd.prog 65 #[.int .i64 o, .int .i64 k] w fun e w' => e = .returned (.bool false) ∧ w' = w := by
  by_cases h1 : o < 0
  · go_enter Tryd.func65, Tryd.ntmps65
    go_wp2
    go_ret
    exact ⟨rfl, rfl⟩
  · by_cases h2 : 7 ≤ o
    · go_enter Tryd.func65, Tryd.ntmps65
      go_wp2
      go_ret
      exact ⟨rfl, rfl⟩
    · by_cases h3 : k < 0
      · clear h
        go_enter Tryd.func65, Tryd.ntmps65
        go_wp2
        go_ret
        exact ⟨rfl, rfl⟩
      · have h4 : 12 < k := by omega
        clear h
        go_enter Tryd.func65, Tryd.ntmps65
        go_wp2
        go_ret
        exact ⟨rfl, rfl⟩

theorem knows_any (o k : Int) (w : World) (hK : KnownAt w) :
    Calls Tryd.prog 65 #[.int .i64 o, .int .i64 k] w fun e w' => e = .returned (.bool (knowsB o k)) ∧ w' = w := by
  by_cases h : o < 0 ∨ 7 ≤ o ∨ k < 0 ∨ 12 < k
  · rw [knowsB_out h]; exact knows_out o k w h
  · obtain ⟨o', rfl⟩ : ∃ n : Nat, o = n := ⟨o.toNat, by omega⟩
    obtain ⟨k', rfl⟩ : ∃ n : Nat, k = n := ⟨k.toNat, by omega⟩
    exact knows_in o' k' w (by omega) (by omega) (hK o' k' (by omega) (by omega))

set_option maxHeartbeats 400000 in
theorem one_any (o : Int) (w : World) : Calls Tryd.prog 82 #[.int .i64 o] w fun e w' => e = .returned (.bool (oneB o)) ∧ w' = w := by
  go_enter Tryd.func82, Tryd.ntmps82
  go_wp2
  all_goals (go_ret; exact ⟨by simp_all [oneB], rfl⟩)

theorem rowAt_zero (w : World) : RowAt (w.alloc (.cells #[.int .i64 0] 3)) w.heap.size (.slice (some ⟨w.heap.size, 0, none⟩) 1 1) [0] :=
  .inr ⟨w.heap.size, 0, 1, #[.int .i64 0], rfl, Nat.le_refl _, heap_alloc_new w _, Nat.le_refl _, Nat.le_refl _, by decide, fun j hj => by
    obtain rfl : j = 0 := by simp at hj; omega
    simp⟩

/-- What the program's Start makes, and the document's. -/
def startV (w : World) (o : Int) : Value := if oneB o then .slice (some ⟨w.heap.size, 0, none⟩) 1 1 else .slice none 0 0
def startW (w : World) (o : Int) : World := if oneB o then w.alloc (.cells #[.int .i64 0] 3) else w

set_option maxHeartbeats 400000 in
theorem start_any (o : Int) (w : World) : Calls Tryd.prog 68 #[.int .i64 o] w fun e w' => e = .returned (startV w o) ∧ w' = startW w o := by
  unfold startV startW
  cases h : oneB o
  · go_enter Tryd.func68, Tryd.ntmps68
    go_wp2_with (go_at_call 82; refine (one_any _ _).mono ?_; rintro e w' ⟨rfl, rfl⟩; rw [h])
    go_ret
    exact ⟨rfl, rfl⟩
  · go_enter Tryd.func68, Tryd.ntmps68
    go_wp2_with (go_at_call 82; refine (one_any _ _).mono ?_; rintro e w' ⟨rfl, rfl⟩; rw [h])
    go_ret
    exact ⟨rfl, rfl⟩

theorem startAt (w : World) (o : Int) : RowAt (startW w o) w.heap.size (startV w o) (startL o) := by
  unfold startV startW startL
  cases oneB o
  · exact rowAt_nil _ _
  · exact rowAt_zero w
theorem startGrown (w : World) (o : Int) : w.grownBy (startW w o) none := by
  unfold startW
  cases oneB o
  · exact grown_refl _ _
  · exact World.grownBy_alloc _ _ _

/-- A list of numbers in memory, to be read. -/
def HasInts (w : World) (v : Value) (st : List Int) : Prop :=
  ∃ a cap, v = .slice a st.length cap ∧ st.length ≤ cap ∧ cap ≤ maxLen ∧ (a = none → cap = 0) ∧ (st = [] ∨ ∃ b off, a = some ⟨b, off, none⟩ ∧ ∀ j, (hj : j < st.length) → w.cell? ⟨b, off + j, none⟩ = some (.int .i64 st[j]))
theorem RowAt.has {w : World} {base : Nat} {v : Value} {st : List Int} (h : RowAt w base v st) : HasInts w v st := by
  rcases h with ⟨rfl, rfl⟩ | ⟨g, off, cap, cur, rfl, _, _, h1, _, h2, h3⟩
  · exact ⟨none, 0, rfl, by decide, by decide, fun _ => rfl, .inl rfl⟩
  · exact ⟨_, cap, rfl, h1, h2, fun e => (by cases e), .inr ⟨g, off, rfl, h3⟩⟩

theorem HasInts.kept {w w' : World} {v : Value} {st : List Int} (h : HasInts w v st) (hg : w.grownBy w' none) : HasInts w' v st := by
  obtain ⟨a, cap, rfl, hm, hm', hn, h⟩ := h
  refine ⟨a, cap, rfl, hm, hm', hn, ?_⟩
  rcases h with h | ⟨b, off, rfl, h⟩
  · exact .inl h
  · exact .inr ⟨b, off, rfl, fun j hj => hg.cell (h j hj) (by simp)⟩
theorem HasInts.below {w w' : World} {v : Value} {st : List Int} (h : HasInts w v st) (hb : Below w.heap.size w w') : HasInts w' v st := by
  obtain ⟨a, cap, rfl, hm, hm', hn, h⟩ := h
  refine ⟨a, cap, rfl, hm, hm', hn, ?_⟩
  rcases h with h | ⟨b, off, rfl, h⟩
  · exact .inl h
  · exact .inr ⟨b, off, rfl, fun j hj => (hb.cell (World.block_lt_of_cell? w _ (h j hj))).trans (h j hj)⟩
theorem below_grown {w w' : World} (hg : w.grownBy w' none) : Below w.heap.size w w' := by
  exact (Below.refl _ _).grown hg (Nat.le_refl _) (fun _ h => by cases h)

end Go.Proofs.YtfojmbbhcmeejaaDoor
