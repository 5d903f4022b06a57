/-
  What the small functions on an event do: contracts over the translated program.
  What the functions that judge one event do: contracts over the translated program.
  Events as plain data, and rows of them in memory.
-/
import Derived.Test.YtncnojgemmcplaaGreatDoorProg
import Derived.Test.YtncnojgemmcplaaGreatDoorPlainAZ
import Derived.WalkKit
import Derived.WalkSpells
import Derived.WalkLawsBesides
namespace Go.Proofs.YtncnojgemmcplaaGreatDoor
open Go.RowKit

set_option maxHeartbeats 400000 in
theorem isNumber_any (n : Int) (w : World) :
    Calls Tryz.prog 123 #[.int .i64 n] w fun e w' => e = .returned (.bool (numB n)) ∧ w' = w := by
  by_cases h1 : -1000000 ≤ n
  · by_cases h2 : n ≤ 1000000
    · have e : numB n = true := by simp [numB, h1, h2]
      rw [e]; clear e
      go_enter Tryz.func123, Tryz.ntmps123
      go_wp2
      go_ret
      exact ⟨rfl, rfl⟩
    · have e : numB n = false := by simp [numB, h2]
      rw [e]; clear e
      go_enter Tryz.func123, Tryz.ntmps123
      go_wp2
      go_ret
      exact ⟨rfl, rfl⟩
  · have e : numB n = false := by simp [numB, h1]
    rw [e]; clear e
    go_enter Tryz.func123, Tryz.ntmps123
    go_wp2
    go_ret
    exact ⟨rfl, rfl⟩

set_option maxHeartbeats 400000 in
theorem isKind_any (n : Int) (w : World) :
    Calls Tryz.prog 107 #[.int .i64 n] w fun e w' => e = .returned (.bool (kindB n)) ∧ w' = w := by
  by_cases h1 : 1 ≤ n
  · by_cases h2 : n ≤ 12
    · have e : kindB n = true := by simp [kindB, h1, h2]
      rw [e]; clear e
      go_enter Tryz.func107, Tryz.ntmps107
      go_wp2
      go_ret
      exact ⟨rfl, rfl⟩
    · have e : kindB n = false := by simp [kindB, h2]
      rw [e]; clear e
      go_enter Tryz.func107, Tryz.ntmps107
      go_wp2
      go_ret
      exact ⟨rfl, rfl⟩
  · have e : kindB n = false := by simp [kindB, h1]
    rw [e]; clear e
    go_enter Tryz.func107, Tryz.ntmps107
    go_wp2
    go_ret
    exact ⟨rfl, rfl⟩

set_option maxHeartbeats 1000000 in
theorem inBounds_any (p k a b r : Int) (w : World) :
    Calls Tryz.prog 106 #[.int .i64 p, .int .i64 k, .int .i64 a, .int .i64 b, .int .i64 r] w fun e w' => e = .returned (.bool (inB p k a b r)) ∧ w' = w := by
  by_cases h1 : 0 ≤ p
  · by_cases h2 : p < 8
    · by_cases h3 : 0 ≤ k
      · by_cases h4 : k < 8
        · have e : inB p k a b r = (numB a && numB b && numB r) := by simp [inB, eightB, h1, h2, h3, h4]
          rw [e]; clear e
          go_enter Tryz.func106, Tryz.ntmps106
          go_wp2_with (go_at_call 123; refine (isNumber_any _ _).mono ?_; rintro e w' ⟨rfl, rfl⟩)
          all_goals (go_ret; exact ⟨by simp_all, rfl⟩)
        · have e : inB p k a b r = false := by simp [inB, eightB, h4]
          rw [e]; clear e
          go_enter Tryz.func106, Tryz.ntmps106
          go_wp2
          go_ret
          exact ⟨rfl, rfl⟩
      · have e : inB p k a b r = false := by simp [inB, eightB, h3]
        rw [e]; clear e
        go_enter Tryz.func106, Tryz.ntmps106
        go_wp2
        go_ret
        exact ⟨rfl, rfl⟩
    · have e : inB p k a b r = false := by simp [inB, eightB, h2]
      rw [e]; clear e
      go_enter Tryz.func106, Tryz.ntmps106
      go_wp2
      go_ret
      exact ⟨rfl, rfl⟩
  · have e : inB p k a b r = false := by simp [inB, eightB, h1]
    rw [e]; clear e
    go_enter Tryz.func106, Tryz.ntmps106
    go_wp2
    go_ret
    exact ⟨rfl, rfl⟩

end Go.Proofs.YtncnojgemmcplaaGreatDoor

namespace Go.Proofs.YtncnojgemmcplaaGreatDoor
open Go.RowKit

/-- What 'told' makes of a number: nil of 0, else that number as an error. -/
def toldV (n : Int) : Value := if n = 0 then .nilIface else .iface 38 (.int .i64 n)

end Go.Proofs.YtncnojgemmcplaaGreatDoor

namespace Go.Proofs.YtncnojgemmcplaaGreatDoor
open Go.RowKit

/-- An event, its seven numbers. -/
structure Ev where
  p : Int
  t : Int
  k : Int
  d : Int
  a : Int
  b : Int
  r : Int


/-- The seven cells of an event, from a place on. -/
def EvAt (w : World) (b off : Nat) (e : Ev) : Prop :=
  w.cell? ⟨b, off, none⟩ = some (.int .i64 e.p) ∧ w.cell? ⟨b, off + 1, none⟩ = some (.int .i64 e.t) ∧ w.cell? ⟨b, off + 2, none⟩ = some (.int .i64 e.k) ∧ w.cell? ⟨b, off + 3, none⟩ = some (.int .i64 e.d) ∧ w.cell? ⟨b, off + 4, none⟩ = some (.int .i64 e.a) ∧ w.cell? ⟨b, off + 5, none⟩ = some (.int .i64 e.b) ∧ w.cell? ⟨b, off + 6, none⟩ = some (.int .i64 e.r)

/-- A row of events, from a place on. -/
def EvsAt (w : World) (b off : Nat) (l : List Ev) : Prop := ∀ i, (h : i < l.length) → EvAt w b (off + i * 7) l[i]

theorem EvAt.below {w w' : World} {B b off : Nat} {e : Ev} (h : EvAt w b off e) (hb : b < B) (hn : Below B w w') : EvAt w' b off e := by
  obtain ⟨h0, h1, h2, h3, h4, h5, h6⟩ := h
  exact ⟨(hn.cell (p := ⟨b, off, none⟩) hb).trans h0, (hn.cell (p := ⟨b, off + 1, none⟩) hb).trans h1, (hn.cell (p := ⟨b, off + 2, none⟩) hb).trans h2, (hn.cell (p := ⟨b, off + 3, none⟩) hb).trans h3, (hn.cell (p := ⟨b, off + 4, none⟩) hb).trans h4, (hn.cell (p := ⟨b, off + 5, none⟩) hb).trans h5, (hn.cell (p := ⟨b, off + 6, none⟩) hb).trans h6⟩


end Go.Proofs.YtncnojgemmcplaaGreatDoor
