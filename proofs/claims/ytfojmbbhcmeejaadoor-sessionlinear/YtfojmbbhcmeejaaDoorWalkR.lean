/-
  A call of a register, of a counter, of a mutex: the number is one's own, and is written in place.
-/
import Derived.Test.YtfojmbbhcmeejaaDoorWalkK
import Derived.Test.YtfojmbbhcmeejaaDoorWalkCZ
import Derived.Deep.QuietTactic
import Derived.BigQuiet
namespace Go.Proofs.YtfojmbbhcmeejaaDoor
open Go.RowKit

def Opn.cells (x : Opn) : Array Value := #[.int .i64 x.p, .int .i64 x.k, .int .i64 x.d, .int .i64 x.a, .int .i64 x.b, .int .i64 x.r, .int .i64 x.c, .int .i64 x.e]

/-- A number that may be written into. -/
structure NumAt (w : World) (g off : Nat) (x : Int) : Prop where
  cell : w.cell? ⟨g, off, none⟩ = some (.int .i64 x)
  fz : w.frozen? ⟨g, off, none⟩ = false
  lt : g < w.heap.size

theorem NumAt.alloc {w : World} {g off : Nat} {x : Int} (h : NumAt w g off x) (o : Obj) : NumAt (w.alloc o) g off x :=
  ⟨(World.grownBy_alloc w o none).cell h.cell (by simp), by
    have e := (World.grownBy_alloc w o none).block g h.lt (by simp)
    exact (World.frozen?_of_block (a := ⟨g, off, none⟩) e).trans h.fz, Nat.lt_of_lt_of_le h.lt (World.grownBy_alloc w o none).size⟩

theorem RowAt.num {w : World} {base g off cap : Nat} {x : Int} (h : RowAt w base (.slice (some ⟨g, off, none⟩) 1 cap) [x]) : NumAt w g off x := by
  rcases h with ⟨h, _⟩ | ⟨g', off', cap', cur, e, hb, hg, h1, h2, h3, h4⟩
  · cases h
  · obtain ⟨⟨rfl, rfl⟩, _, rfl⟩ : (g = g' ∧ off = off') ∧ 1 = [x].length ∧ cap = cap' := by simpa using e
    exact ⟨by simpa using h4 0 (by simp), unfrozen_of_heap hg _, lt_of_heap hg⟩

theorem RowAt.write {w : World} {base g off cap : Nat} {x : Int} (h : RowAt w base (.slice (some ⟨g, off, none⟩) 1 cap) [x]) (y : Int) : RowAt (w.setCell ⟨g, off, none⟩ (.int .i64 y)) base (.slice (some ⟨g, off, none⟩) 1 cap) [y] := by
  have hn := h.num
  rcases h with ⟨h, _⟩ | ⟨g', off', cap', cur, e, hb, hg, h1, h2, h3, h4⟩
  · cases h
  · obtain ⟨⟨rfl, rfl⟩, _, rfl⟩ : (g = g' ∧ off = off') ∧ 1 = [x].length ∧ cap = cap' := by simpa using e
    refine rowAt_put hb (heap_setCell hg _ _) (by simpa using h1) h2 h3 (fun j hj => ?_) rfl
    obtain rfl : j = 0 := by simp at hj; omega
    simpa using World.cell?_setCell_same _ _ _ hn.cell

set_option maxHeartbeats 1000000 in
theorem callRegister_any (x : Int) (op : Opn) (g off : Nat) (w : World) (h : NumAt w g off x) :
    Calls Tryd.prog 108 #[.pointer (some ⟨g, off, none⟩), op.agg] w fun e w' => e = .returned (.int .i64 (regM x op.d op.a op.b).2) ∧
      ∃ w1, w.grownBy w1 none ∧ ((regM x op.d op.a op.b).1 = x ∧ w' = w1 ∨ w' = w1.setCell ⟨g, off, none⟩ (.int .i64 (regM x op.d op.a op.b).1)) := by
  obtain ⟨c1, f1, _⟩ := h.alloc op.obj
  have hgr := World.grownBy_alloc w op.obj none
  unfold Opn.obj at c1 f1 hgr
  unfold Opn.agg
  cases h2 : (op.d == 2)
  · have n2 : op.d ≠ 2 := by simpa using h2
    cases h3 : (op.d == 3)
    · have n3 : op.d ≠ 3 := by simpa using h3
      have e : regM x op.d op.a op.b = (x, x) := by simp [regM, n2, n3]
      rw [e]; clear e h n2 n3
      go_enter Tryd.func108, Tryd.ntmps108
      go_wp2
      go_ret
      exact ⟨rfl, _, hgr, .inl ⟨trivial, rfl⟩⟩
    · have n3 : op.d = 3 := by simpa using h3
      cases h4 : (x != op.a)
      · have n4 : x = op.a := by simpa using h4
        have e : regM x op.d op.a op.b = (op.b, 1) := by simp [regM, n3, n4]
        rw [e]; clear e h n2 n3 n4
        go_enter Tryd.func108, Tryd.ntmps108
        go_wp2_with fail
        go_region
        go_wp2
        go_ret
        exact ⟨rfl, _, hgr.trans (grown_drew _ _), .inr rfl⟩
      · have n4 : x ≠ op.a := by simpa using h4
        have e : regM x op.d op.a op.b = (x, 0) := by simp [regM, n3, n4]
        rw [e]; clear e h n2 n3 n4
        go_enter Tryd.func108, Tryd.ntmps108
        go_wp2_with fail
        go_region
        go_wp2
        go_ret
        exact ⟨rfl, _, hgr.trans (grown_drew _ _), .inl ⟨trivial, rfl⟩⟩
  · have n2 : op.d = 2 := by simpa using h2
    have e : regM x op.d op.a op.b = (op.a, 0) := by simp [regM, n2]
    rw [e]; clear e h n2
    go_enter Tryd.func108, Tryd.ntmps108
    go_wp2
    go_ret
    exact ⟨rfl, _, hgr, .inr rfl⟩

set_option maxHeartbeats 1000000 in
theorem callCounter_any (x : Int) (op : Opn) (g off : Nat) (w : World) (h : NumAt w g off x) :
    Calls Tryd.prog 109 #[.pointer (some ⟨g, off, none⟩), op.agg] w fun e w' => e = .returned (.int .i64 (cntM x op.d op.a).2) ∧
      ∃ w1, w.grownBy w1 none ∧ ((cntM x op.d op.a).1 = x ∧ w' = w1 ∨ w' = w1.setCell ⟨g, off, none⟩ (.int .i64 (cntM x op.d op.a).1)) := by
  obtain ⟨c1, f1, _⟩ := h.alloc op.obj
  have hgr := World.grownBy_alloc w op.obj none
  unfold Opn.obj at c1 f1 hgr
  unfold Opn.agg
  cases h2 : (op.d == 4)
  · have n2 : op.d ≠ 4 := by simpa using h2
    have e : cntM x op.d op.a = (x, x) := by simp [cntM, n2]
    rw [e]; clear e h n2
    go_enter Tryd.func109, Tryd.ntmps109
    go_wp2
    go_ret
    exact ⟨rfl, _, hgr, .inl ⟨trivial, rfl⟩⟩
  · have n2 : op.d = 4 := by simpa using h2
    have e : cntM x op.d op.a = (wrap64 (x + op.a), wrap64 (x + op.a)) := by simp [cntM, n2]
    rw [e]; clear e h n2
    go_enter Tryd.func109, Tryd.ntmps109
    go_wp2_with fail
    go_region
    have c2 := World.cell?_setCell_same _ ⟨g, off, none⟩ (.int .i64 (wrap64 (x + op.a))) (show (w.alloc (.cells #[.int .i64 op.p, .int .i64 op.k, .int .i64 op.d, .int .i64 op.a, .int .i64 op.b, .int .i64 op.r, .int .i64 op.c, .int .i64 op.e] 48)).drew.cell? _ = _ from c1)
    go_wp2
    go_ret
    exact ⟨rfl, _, hgr.trans (grown_drew _ _), .inr rfl⟩

set_option maxHeartbeats 1000000 in
theorem callMutex_any (x : Int) (op : Opn) (g off : Nat) (w : World) (h : NumAt w g off x) :
    Calls Tryd.prog 113 #[.pointer (some ⟨g, off, none⟩), op.agg] w fun e w' => e = .returned (.bool (mutM x op.d).isSome) ∧
      ∃ w1, w.grownBy w1 none ∧ (mutM x op.d = none ∧ w' = w1 ∨ ∃ y, mutM x op.d = some y ∧ w' = w1.setCell ⟨g, off, none⟩ (.int .i64 y)) := by
  obtain ⟨c1, f1, _⟩ := h.alloc op.obj
  have hgr := World.grownBy_alloc w op.obj none
  unfold Opn.obj at c1 f1 hgr
  unfold Opn.agg
  cases h2 : (op.d == 12)
  · have n2 : op.d ≠ 12 := by simpa using h2
    cases h3 : (x != 0)
    · have n3 : x = 0 := by simpa using h3
      have e : mutM x op.d = some 1 := by simp [mutM, n2, n3]
      rw [e]; clear e h n2 n3
      go_enter Tryd.func113, Tryd.ntmps113
      go_wp2
      go_ret
      exact ⟨rfl, _, hgr, .inr ⟨1, rfl, rfl⟩⟩
    · have n3 : x ≠ 0 := by simpa using h3
      have e : mutM x op.d = none := by simp [mutM, n2, n3]
      rw [e]; clear e h n2 n3
      go_enter Tryd.func113, Tryd.ntmps113
      go_wp2
      go_ret
      exact ⟨rfl, _, hgr, .inl ⟨trivial, rfl⟩⟩
  · have n2 : op.d = 12 := by simpa using h2
    cases h3 : (x != 1)
    · have n3 : x = 1 := by simpa using h3
      have e : mutM x op.d = some 0 := by simp [mutM, n2, n3]
      rw [e]; clear e h n2 n3
      go_enter Tryd.func113, Tryd.ntmps113
      go_wp2
      go_ret
      exact ⟨rfl, _, hgr, .inr ⟨0, rfl, rfl⟩⟩
    · have n3 : x ≠ 1 := by simpa using h3
      have e : mutM x op.d = none := by simp [mutM, n2, n3]
      rw [e]; clear e h n2 n3
      go_enter Tryd.func113, Tryd.ntmps113
      go_wp2
      go_ret
      exact ⟨rfl, _, hgr, .inl ⟨trivial, rfl⟩⟩

end Go.Proofs.YtfojmbbhcmeejaaDoor
