/-
  The statement EventChecks walked: whatever the event, true.
-/
import Derived.Test.YtkedbcfejcakaaaDoorEvs
import Derived.Test.YtkedbcfejcakaaaDoorRefA
import Derived.Test.YtkedbcfejcakaaaDoorBare
import Derived.Deep.RegionWith
import Derived.Laws.OwnMore
namespace Go.Proofs.YtkedbcfejcakaaaDoor
open Go.RowKit

/-- events of one event: a row of one, the numbers of that event in it. -/
theorem events_one (p t k d a b r : Int) (blk : Nat) (w : World) (hb : blk < w.heap.size)
    (h0 : w.cell? ⟨blk, 0, none⟩ = some (.int .i64 p)) (h1 : w.cell? ⟨blk, 1, none⟩ = some (.int .i64 t)) (h2 : w.cell? ⟨blk, 2, none⟩ = some (.int .i64 k)) (h3 : w.cell? ⟨blk, 3, none⟩ = some (.int .i64 d))
    (h4 : w.cell? ⟨blk, 4, none⟩ = some (.int .i64 a)) (h5 : w.cell? ⟨blk, 5, none⟩ = some (.int .i64 b)) (h6 : w.cell? ⟨blk, 6, none⟩ = some (.int .i64 r)) :
    Calls Tryd.prog 10 #[.slice (some ⟨blk, 0, none⟩) 1 1] w fun e w' => ∃ g cap : Nat, e = .returned (.slice (some ⟨g, 0, none⟩) 1 cap) ∧ EvAt w' g 0 ⟨p, t, k, d, a, b, r⟩ ∧ Below w.heap.size w w' := by
  have h := events_any [⟨p, t, k, d, a, b, r⟩] blk 0 1 w (by simp) hb (by
    intro i hi
    match i, hi with
    | 0, _ => exact ⟨h0, h1, h2, h3, h4, h5, h6⟩)
  refine h.mono ?_
  rintro e w' ⟨v, rfl, ⟨hl, ho⟩, hn⟩
  rcases ho with ⟨_, h⟩ | ⟨g, cap, cur, rfl, hg, hh, h1c, hm, hsz, htk⟩
  · simp at h
  · refine ⟨g, cap, rfl, ?_, hn⟩
    have hx : w'.ownsRow w.heap.size 30 7 (.slice (some ⟨g, 0, none⟩) 1 cap) 1 (evCells [⟨p, t, k, d, a, b, r⟩]) := ⟨hl, .inr ⟨g, cap, cur, rfl, hg, hh, h1c, hm, hsz, htk⟩⟩
    exact ⟨hx.cellAt 0 (by decide), hx.cellAt 1 (by decide), hx.cellAt 2 (by decide), hx.cellAt 3 (by decide), hx.cellAt 4 (by decide), hx.cellAt 5 (by decide), hx.cellAt 6 (by decide)⟩

theorem glob_below {W w1 : World} {x : Value} (hb : Below W.heap.size W w1) (h : W.cell? ⟨1, 0, none⟩ = some x) : w1.cell? ⟨1, 0, none⟩ = some x :=
  (hb.cell (p := ⟨1, 0, none⟩) (World.block_lt_of_cell? W ⟨1, 0, none⟩ h)).trans h
theorem glob_drew {W : World} {x : Value} (h : W.cell? ⟨1, 0, none⟩ = some x) : W.drew.cell? ⟨1, 0, none⟩ = some x := h
theorem below_join {w W w1 : World} (h : Below w.heap.size w W) (hb : Below W.heap.size W w1) : Below w.heap.size w w1 := h.trans (hb.mono h.size)
theorem below_alloc {w W : World} (h : Below w.heap.size w W) (o : Obj) : Below w.heap.size w (W.alloc o) := h.alloc h.size o

set_option maxHeartbeats 1000000 in
theorem checks_any (p t k d a b r : Int) (w : World) (hg : w.cell? ⟨1, 0, none⟩ = some (.iface 164 (.agg #[.pointer (some ⟨8, 26, none⟩)]))) :
    Calls Tryd.prog 3 #[.agg #[.int .i64 p, .int .i64 t, .int .i64 k, .int .i64 d, .int .i64 a, .int .i64 b, .int .i64 r]] w fun e w' => e = .returned (.bool true) ∧ Below w.heap.size w w' := by
  go_enter Tryd.func3, Tryd.ntmps3
  go_wp2_with fail
  go_region_with (first
    | (go_at_call 8; refine (check_any p t k d a b r _).mono ?_; rintro e w' ⟨rfl, rfl⟩)
    | (go_at_call 10; refine (events_one p t k d a b r _ _ ?_ ?_ ?_ ?_ ?_ ?_ ?_ ?_).mono ?_; go_simp; go_simp; go_simp; go_simp; go_simp; go_simp; go_simp; go_simp; rintro e w1 ⟨g, cap, rfl, ⟨c0, c1, c2, c3, c4, c5, c6⟩, hb1⟩; have hg1 : w1.cell? ⟨1, 0, none⟩ = some (.iface 164 (.agg #[.pointer (some ⟨8, 26, none⟩)])) := (by refine glob_below hb1 ?_; repeat (first | exact hg | refine glob_drew ?_ | refine glob_alloc ?_)))
    | (go_at_call 9; refine (refCheck_any p t k d a b r _).mono ?_; rintro e w2 ⟨rfl, hb2⟩; have hg2 := glob_below hb2 hg1)
    | (go_at_call 7; refine (bare_told _ _ ?_).mono ?_; exact hg2; rintro e w3 ⟨rfl, hb3⟩))
  all_goals (go_wp2; go_ret)
  all_goals
    refine ⟨rfl, below_join (below_join (below_join ?_ hb1) hb2) hb3⟩
    repeat (first | exact Below.refl _ _ | refine Below.drew ?_ | refine below_alloc ?_ _)
end Go.Proofs.YtkedbcfejcakaaaDoor
