/-
  What the statements' own 'at' and 'bare' tell of nil and of an Errno.
-/
import Derived.Test.YtkedbcfejcakaaaDoorPlace
namespace Go.Proofs.YtkedbcfejcakaaaDoor
open Go.RowKit Go.Extern.Stop Go.Stop Go.Extern

theorem glob_alloc {w : World} {o : Obj} {x : Value} (hg : w.cell? ⟨1, 0, none⟩ = some x) : (w.alloc o).cell? ⟨1, 0, none⟩ = some x := by
  have hlt : 1 < w.heap.size := by
    rcases Nat.lt_or_ge 1 w.heap.size with h | h
    · exact h
    · simp [World.cell?, Array.getElem?_eq_none h] at hg
  rw [World.cell?_alloc_lt _ _ ⟨1, 0, none⟩ hlt]; exact hg

set_option maxHeartbeats 400000 in
theorem at_nil (w : World) : Calls Tryd.prog 13 #[.nilIface, .agg #[.int .i64 0, .int .i64 (-1)]] w fun e w' => e = .returned (.bool true) ∧ Below w.heap.size w w' := by
  go_enter Tryd.func13, Tryd.ntmps13
  go_wp2_with (go_at_call 27; refine (place_nil _).mono ?_; rintro e w' ⟨rfl, rfl⟩)
  go_ret
  exact ⟨rfl, (Below.refl _ _).alloc (Nat.le_refl _) _⟩

set_option maxHeartbeats 400000 in
theorem at_errno (n : Int) (w : World) (hg : w.cell? ⟨1, 0, none⟩ = some (.iface 164 (.agg #[.pointer (some ⟨8, 26, none⟩)]))) :
    Calls Tryd.prog 13 #[.iface 28 (.int .i64 n), .agg #[.int .i64 n, .int .i64 (-1)]] w fun e w' => e = .returned (.bool true) ∧ Below w.heap.size w w' := by
  have hg2 : (w.alloc (.cells #[.int .i64 n, .int .i64 (-1)] 37)).cell? ⟨1, 0, none⟩ = some (.iface 164 (.agg #[.pointer (some ⟨8, 26, none⟩)])) := glob_alloc hg
  go_enter Tryd.func13, Tryd.ntmps13
  go_wp2_with fail
  refine (place_errno n _ hg2).mono ?_
  rintro e w1 ⟨rfl, hb⟩
  have h0 : w1.cell? ⟨w.heap.size, 0, none⟩ = some (.int .i64 n) := by
    rw [hb.cell (p := ⟨w.heap.size, 0, none⟩) (by simp)]; simp
  have h1 : w1.cell? ⟨w.heap.size, 1, none⟩ = some (.int .i64 (-1)) := by
    rw [hb.cell (p := ⟨w.heap.size, 1, none⟩) (by simp)]; simp
  go_wp2
  go_ret
  exact ⟨rfl, ((Below.refl _ _).alloc (Nat.le_refl _) _).trans (hb.mono (by simp))⟩

theorem toldV_zero : toldV 0 = .nilIface := by simp [toldV]
theorem toldV_pos {n : Int} (h : n ≠ 0) : toldV n = .iface 28 (.int .i64 n) := by simp [toldV, h]

set_option maxHeartbeats 400000 in
theorem bare_told (n : Int) (w : World) (hg : w.cell? ⟨1, 0, none⟩ = some (.iface 164 (.agg #[.pointer (some ⟨8, 26, none⟩)]))) :
    Calls Tryd.prog 7 #[toldV n, .int .i64 n] w fun e w' => e = .returned (.bool true) ∧ Below w.heap.size w w' := by
  by_cases h : n = 0
  · subst h
    rw [toldV_zero]
    go_enter Tryd.func7, Tryd.ntmps7
    go_wp2_with fail
    refine (at_nil _).mono ?_
    rintro e w1 ⟨rfl, hb⟩
    go_wp2
    go_ret
    exact ⟨rfl, hb⟩
  · rw [toldV_pos h]
    go_enter Tryd.func7, Tryd.ntmps7
    go_wp2_with fail
    refine (at_errno n _ hg).mono ?_
    rintro e w1 ⟨rfl, hb⟩
    go_wp2
    go_ret
    exact ⟨rfl, hb⟩

end Go.Proofs.YtkedbcfejcakaaaDoor
