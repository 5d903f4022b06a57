/-
  The statement EventOps walked: whatever the events, true.
-/
import Derived.Test.YtkedbcfejcakaaaDoorRefC
import Derived.Test.YtkedbcfejcakaaaDoorPlaceB
import Derived.Test.YtkedbcfejcakaaaDoorBare
import Derived.Test.YtkedbcfejcakaaaDoorJudgesWalk
namespace Go.Proofs.YtkedbcfejcakaaaDoor
open Go.RowKit

set_option maxRecDepth 100000 in
set_option maxHeartbeats 1000000 in
theorem refOps_long (l : List Ev) (a : Option Addr) (cap : Nat) (w : World) (h : 120 < l.length) (h2 : l.length ≤ 1000) :
    Calls Tryd.prog 11 #[.slice a l.length cap] w fun e w' => e = .returned (.tuple #[.slice none 0 0, .agg #[.int .i64 4, .int .i64 (-1)]]) ∧ Below w.heap.size w w' := by
  have h120 : decide (120 < (l.length : Int)) = true := by simp; omega
  have HR := hideIt (res_new w)
  obtain ⟨r0, r1, r2, r3⟩ := res_new w
  clear h
  go_enter Tryd.func11, Tryd.ntmps11
  go_wp2
  refine bodyPost_ret (ret11 _ _ w.heap.size (.int .i64 4) (.int .i64 (-1)) rfl (by simp) (by simp)) rfl ?_
  exact ⟨rfl, belA (Below.refl _ _) _⟩

set_option maxRecDepth 100000 in
set_option maxHeartbeats 1000000 in
theorem refOps_none (a : Option Addr) (cap : Nat) (w : World) (hf0 : w.cell? ⟨0, 0, none⟩ = some (.int .i64 0)) (hf1 : w.cell? ⟨0, 1, none⟩ = some (.int .i64 (-1))) :
    Calls Tryd.prog 11 #[.slice a 0 cap] w fun e w' => RefTold [] (w.heap.size + 1) e w' ∧ Below w.heap.size w w' := by
  have HR := hideIt (res_new w)
  obtain ⟨r0, r1, r2, r3⟩ := res_new w
  have f0 := cell_alloc (o := .cells #[.int .i64 0, .int .i64 0] 37) hf0
  have f1 := cell_alloc (o := .cells #[.int .i64 0, .int .i64 0] 37) hf1
  go_enter Tryd.func11, Tryd.ntmps11
  go_wp2
  refine wp_loop_rounds 1 ?_
  rw [rounds_succ]
  go_wp2
  refine wp_loop_rounds 1 ?_
  rw [rounds_succ]
  go_wp2
  go_region
  all_goals
    go_wp2
    (try simp only [Exit.inBlock, Exit.then])
    refine bodyPost_ret (ret11 _ _ w.heap.size (.int .i64 0) (.int .i64 (-1)) rfl (by simp) (by simp)) rfl ?_
    exact ⟨.inr (.inr ⟨by decide, fun i _ h => absurd h (Nat.not_lt_zero _), _, rfl, World.ownsRow_nil _ _ _ _⟩), Below.drew (belA (Below.refl _ _) _)⟩

set_option maxHeartbeats 400000 in
theorem events_none (a : Option Addr) (cap : Nat) (w : World) : Calls Tryd.prog 10 #[.slice a 0 cap] w fun e w' => e = .returned (.slice none 0 0) ∧ w' = w := by
  go_enter Tryd.func10, Tryd.ntmps10
  go_wp2
  refine wp_loop_rounds 1 ?_
  rw [rounds_succ]
  go_wp2
  go_ret
  exact ⟨rfl, rfl⟩

/-- Ops in memory, to be read. -/
def HasO (w : World) (v : Value) (L : List Opn) : Prop := ∃ (a : Option Addr) (cap : Nat), v = .slice a L.length cap ∧ (0 < L.length → ∃ g, a = some ⟨g, 0, none⟩ ∧ OpsAt w g 0 L)

theorem hasO_own {w : World} {base n : Nat} {v : Value} {L : List Opn} (h : w.ownsRow base 47 8 v n (opCells L)) : HasO w v L := by
  have hl := h.1
  rw [opCells_len] at hl
  have e : n = L.length := by omega
  subst e
  rcases h.2 with ⟨rfl, h0⟩ | ⟨g, cap, cur, rfl, _, hg, h1, _, _, h4⟩
  · exact ⟨none, 0, by rw [h0], fun hp => by omega⟩
  · refine ⟨_, cap, rfl, fun _ => ⟨g, rfl, fun i hi => ?_⟩⟩
    have hc : ∀ c, c < 8 → w.cell? ⟨g, 0 + i * 8 + c, none⟩ = L[i].list[c]? := fun c hc => by
      rw [cell_of_row w g _ cur 47 (0, 0) hg, ← opCells_get L i c hi hc, ← h4, List.getElem?_take_of_lt (by omega)]
      simp
    exact ⟨hc 0 (by decide), hc 1 (by decide), hc 2 (by decide), hc 3 (by decide), hc 4 (by decide), hc 5 (by decide), hc 6 (by decide), hc 7 (by decide)⟩

theorem hasO_nil (w : World) : HasO w (.slice none 0 0) [] := ⟨none, 0, rfl, fun h => by simp at h⟩
theorem HasO.below {w w' : World} {v : Value} {L : List Opn} (h : HasO w v L) (hb : Below w.heap.size w w') : HasO w' v L := by
  obtain ⟨a, cap, rfl, h⟩ := h
  refine ⟨a, cap, rfl, fun hp => ?_⟩
  obtain ⟨g, e, ho⟩ := h hp
  exact ⟨g, e, fun i hi => (ho i hi).below (World.block_lt_of_cell? w _ (ho i hi).1) hb⟩

set_option maxRecDepth 100000 in
set_option maxHeartbeats 1000000 in
theorem sameOps_same (u v : Value) (L : List Opn) (w : World) (hlen : L.length ≤ 1000) (hu : HasO w u L) (hv : HasO w v L) :
    Calls Tryd.prog 14 #[u, v] w fun e w' => e = .returned (.bool true) ∧ Below w.heap.size w w' := by
  obtain ⟨a, cap, rfl, ha⟩ := hu
  obtain ⟨a', cap', rfl, ha'⟩ := hv
  have HC : Hid (∀ n, (hn : n < L.length) → ∃ g g', a = some ⟨g, 0, none⟩ ∧ a' = some ⟨g', 0, none⟩ ∧ ∀ wr, Below w.heap.size w wr → OpAt wr g (0 + n * 8) L[n] ∧ OpAt wr g' (0 + n * 8) L[n]) := fun n hn => by
    obtain ⟨g, e, ho⟩ := ha (by omega)
    obtain ⟨g', e', ho'⟩ := ha' (by omega)
    exact ⟨g, g', e, e', fun wr hW => ⟨(ho n hn).below (World.block_lt_of_cell? w _ (ho n hn).1) hW, (ho' n hn).below (World.block_lt_of_cell? w _ (ho' n hn).1) hW⟩⟩
  clear ha ha'
  go_enter Tryd.func14, Tryd.ntmps14
  go_wp2
  go_loopw [5] (fun i wr => ∃ k : Nat, k ≤ L.length ∧ i = .int .i64 k ∧ Below w.heap.size w wr) (fun i _ => L.length - (intOf i).toNat)
  case atStart => exact ⟨0, by omega, rfl, Below.refl _ _⟩
  case round =>
    obtain ⟨k, hk, rfl, hb⟩ := hrel
    have HB := hideIt hb
    clear hb
    by_cases hkl : k < L.length
    · obtain ⟨g, g', rfl, rfl, hc⟩ := HC.out k hkl
      obtain ⟨⟨c0, c1, c2, c3, c4, c5, c6, c7⟩, ⟨d0, d1, d2, d3, d4, d5, d6, d7⟩⟩ := hc _ HB.out
      simp only [Nat.zero_add] at c0 c1 c2 c3 c4 c5 c6 c7 d0 d1 d2 d3 d4 d5 d6 d7
      obtain ⟨x, hx⟩ : ∃ x, L[k] = x := ⟨_, rfl⟩
      rw [hx] at c0 c1 c2 c3 c4 c5 c6 c7 d0 d1 d2 d3 d4 d5 d6 d7
      clear hx
      have k1 : (0 : Int) ≤ (k : Int) := by omega
      have k2 : (k : Int) < (L.length : Int) := by omega
      have hwr : IntKind.i64.wrap ((k : Int) + 1) = (k : Int) + 1 := by rw [IntKind.wrap_i64]; omega
      go_wp2_with fail
      go_region
      all_goals
        go_wp2
        go_roundw
        case rel => exact ⟨k + 1, by omega, by go_num, Below.drew HB.out⟩
        case measure => simp [intOf]; omega
    · obtain rfl : k = L.length := by omega
      go_wp2
      go_ret
      exact ⟨rfl, HB.out⟩

end Go.Proofs.YtkedbcfejcakaaaDoor
