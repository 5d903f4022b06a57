/-
  The statement's own sameOps and sameInts: two lists that are alike.
-/
import Derived.Test.YtbkeelnflpfdiaaBase
namespace Go.Proofs.Ytbkeelnflpfdiaa
open Go.RowKit

/-- Ops, and numbers, in memory, to be read. -/
def HasO (w : World) (v : Value) (L : List Opn) : Prop := ∃ (a : Option Addr) (cap : Nat), v = .slice a L.length cap ∧ (0 < L.length → ∃ g, a = some ⟨g, 0, none⟩ ∧ OpsAt w g 0 L)
def HasN (w : World) (v : Value) (L : List Nat) : Prop := ∃ (a : Option Addr) (cap : Nat), v = .slice a L.length cap ∧ (0 < L.length → ∃ g, a = some ⟨g, 0, none⟩ ∧ ∀ j, (hj : j < L.length) → w.cell? ⟨g, j, none⟩ = some (.int .i64 (L[j] : Int)))
theorem hasO_own {w : World} {base n : Nat} {v : Value} {L : List Opn} (h : w.ownsRow base 34 8 v n (opCells L)) : HasO w v L := by
  have hl := h.1
  rw [opCells_len] at hl
  have e : n = L.length := by omega
  subst e
  rcases h.2 with ⟨rfl, h0⟩ | ⟨g, cap, cur, rfl, _, hg, h1, _, _, h4⟩
  · exact ⟨none, 0, by rw [h0], fun hp => by omega⟩
  · refine ⟨_, cap, rfl, fun _ => ⟨g, rfl, fun i hi => ?_⟩⟩
    have hc : ∀ c, c < 8 → w.cell? ⟨g, 0 + i * 8 + c, none⟩ = L[i].list[c]? := fun c hc => by
      rw [cell_of_row w g _ cur 34 (0, 0) hg, ← opCells_get L i c hi hc, ← h4, List.getElem?_take_of_lt (by omega)]
      simp
    exact ⟨hc 0 (by decide), hc 1 (by decide), hc 2 (by decide), hc 3 (by decide), hc 4 (by decide), hc 5 (by decide), hc 6 (by decide), hc 7 (by decide)⟩
theorem hasN_own {w : World} {base n : Nat} {v : Value} {L : List Nat} (h : w.ownsRow base 3 1 v n (ordV L)) : HasN w v L := by
  have hl := h.1
  have e : n = L.length := by simp [ordV] at hl; omega
  subst e
  rcases h.2 with ⟨rfl, h0⟩ | ⟨g, cap, cur, rfl, _, hg, h1, _, _, h4⟩
  · exact ⟨none, 0, by rw [h0], fun hp => by omega⟩
  · refine ⟨_, cap, rfl, fun _ => ⟨g, rfl, fun j hj => ?_⟩⟩
    have := congrArg (·[j]?) h4
    simp only [Nat.mul_one] at this
    rw [List.getElem?_take_of_lt hj] at this
    rw [cell_of_row w g _ cur 3 (0, 0) hg]
    simpa [ordV, hj] using this

set_option maxRecDepth 100000 in
set_option maxHeartbeats 1000000 in
theorem sameOps_same (u v : Value) (L : List Opn) (w : World) (hlen : L.length ≤ 1000) (hu : HasO w u L) (hv : HasO w v L) :
    Calls Try.prog 6 #[u, v] w fun e w' => e = .returned (.bool true) ∧ Below w.heap.size w w' := by
  obtain ⟨a, cap, rfl, ha⟩ := hu
  obtain ⟨a', cap', rfl, ha'⟩ := hv
  have HC : Hid (∀ n, (hn : n < L.length) → ∃ g g', a = some ⟨g, 0, none⟩ ∧ a' = some ⟨g', 0, none⟩ ∧ ∀ wr, Below w.heap.size w wr → OpAt wr g (0 + n * 8) L[n] ∧ OpAt wr g' (0 + n * 8) L[n]) := fun n hn => by
    obtain ⟨g, e, ho⟩ := ha (by omega)
    obtain ⟨g', e', ho'⟩ := ha' (by omega)
    exact ⟨g, g', e, e', fun wr hW => ⟨(ho n hn).below (World.block_lt_of_cell? w _ (ho n hn).1) hW, (ho' n hn).below (World.block_lt_of_cell? w _ (ho' n hn).1) hW⟩⟩
  clear ha ha'
  go_enter Try.func6, Try.ntmps6
  go_wp2
  go_loopw [5] (fun i wr => ∃ k : Nat, k ≤ L.length ∧ i = .int .i64 k ∧ Below w.heap.size w wr) (fun i _ => L.length - (intOf i).toNat)
  case atStart => exact ⟨0, by omega, rfl, Below.refl _ _⟩
  case round =>
    obtain ⟨k, hk, rfl, hb⟩ := hrel
    have HB := hideIt hb
    clear hb
    by_cases hkl : k < L.length
    · obtain ⟨g, g', rfl, rfl, hc⟩ := HC.out k hkl
      obtain ⟨⟨c0, c1, c2, c3, c4, c5, c6, c7⟩, ⟨d0, d1, d2, d3, d4, d5, d6, d7⟩⟩ := hc _ HB.out
      simp only [Nat.zero_add] at c0 c1 c2 c3 c4 c5 c6 c7 d0 d1 d2 d3 d4 d5 d6 d7
      obtain ⟨x, hx⟩ : ∃ x, L[k] = x := ⟨_, rfl⟩
      rw [hx] at c0 c1 c2 c3 c4 c5 c6 c7 d0 d1 d2 d3 d4 d5 d6 d7
      clear hx
      have k1 : (0 : Int) ≤ (k : Int) := by omega
      have k2 : (k : Int) < (L.length : Int) := by omega
      have hwr : IntKind.i64.wrap ((k : Int) + 1) = (k : Int) + 1 := by rw [IntKind.wrap_i64]; omega
      go_wp2_with fail
      go_region
      all_goals
        go_wp2
        go_roundw
        case rel => exact ⟨k + 1, by omega, by go_num, Below.drew HB.out⟩
        case measure => simp [intOf]; omega
    · obtain rfl : k = L.length := by omega
      go_wp2
      go_ret
      exact ⟨rfl, HB.out⟩

set_option maxRecDepth 100000 in
set_option maxHeartbeats 1000000 in
theorem sameInts_same (u v : Value) (L : List Nat) (w : World) (hlen : L.length ≤ 1000) (hu : HasN w u L) (hv : HasN w v L) :
    Calls Try.prog 7 #[u, v] w fun e w' => e = .returned (.bool true) ∧ Below w.heap.size w w' := by
  obtain ⟨a, cap, rfl, ha⟩ := hu
  obtain ⟨a', cap', rfl, ha'⟩ := hv
  have HC : Hid (∀ n, (hn : n < L.length) → ∃ g g', a = some ⟨g, 0, none⟩ ∧ a' = some ⟨g', 0, none⟩ ∧ ∀ wr, Below w.heap.size w wr → wr.cell? ⟨g, n, none⟩ = some (.int .i64 (L[n] : Int)) ∧ wr.cell? ⟨g', n, none⟩ = some (.int .i64 (L[n] : Int))) := fun n hn => by
    obtain ⟨g, e, ho⟩ := ha (by omega)
    obtain ⟨g', e', ho'⟩ := ha' (by omega)
    exact ⟨g, g', e, e', fun wr hW => ⟨(hW.cell (World.block_lt_of_cell? w _ (ho n hn))).trans (ho n hn), (hW.cell (World.block_lt_of_cell? w _ (ho' n hn))).trans (ho' n hn)⟩⟩
  clear ha ha'
  go_enter Try.func7, Try.ntmps7
  go_wp2
  go_loopw [5] (fun i wr => ∃ k : Nat, k ≤ L.length ∧ i = .int .i64 k ∧ Below w.heap.size w wr) (fun i _ => L.length - (intOf i).toNat)
  case atStart => exact ⟨0, by omega, rfl, Below.refl _ _⟩
  case round =>
    obtain ⟨k, hk, rfl, hb⟩ := hrel
    have HB := hideIt hb
    clear hb
    by_cases hkl : k < L.length
    · obtain ⟨g, g', rfl, rfl, hc⟩ := HC.out k hkl
      obtain ⟨c0, d0⟩ := hc _ HB.out
      obtain ⟨x, hx⟩ : ∃ x, L[k] = x := ⟨_, rfl⟩
      rw [hx] at c0 d0
      clear hx
      have k1 : (0 : Int) ≤ (k : Int) := by omega
      have k2 : (k : Int) < (L.length : Int) := by omega
      have hwr : IntKind.i64.wrap ((k : Int) + 1) = (k : Int) + 1 := by rw [IntKind.wrap_i64]; omega
      go_wp2_with fail
      go_region
      all_goals
        go_wp2
        go_roundw
        case rel => exact ⟨k + 1, by omega, by go_num, Below.drew HB.out⟩
        case measure => simp [intOf]; omega
    · obtain rfl : k = L.length := by omega
      go_wp2
      go_ret
      exact ⟨rfl, HB.out⟩
end Go.Proofs.Ytbkeelnflpfdiaa
