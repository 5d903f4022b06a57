/-
  Sixteen numbers in memory: of eight transactions where each commits, and where it aborts.
  The program's endsOf, walked.
  The program's open, walked: the other transaction, not over yet, whose Write a step finds.
-/
import Derived.Test.YthmiocbihhbdpaaCsPZ
import Derived.Test.YthmiocbihhbdpaaSkWZ
namespace Go.Proofs.Ythmiocbihhbdpaa
open Go.RowKit

def endA (v : Nat → Int) : Value := .agg #[.int .i64 (v 0), .int .i64 (v 1), .int .i64 (v 2), .int .i64 (v 3), .int .i64 (v 4), .int .i64 (v 5), .int .i64 (v 6), .int .i64 (v 7), .int .i64 (v 8), .int .i64 (v 9), .int .i64 (v 10), .int .i64 (v 11), .int .i64 (v 12), .int .i64 (v 13), .int .i64 (v 14), .int .i64 (v 15)]
theorem all16 {P : Nat → Prop} (h0 : P 0) (h1 : P 1) (h2 : P 2) (h3 : P 3) (h4 : P 4) (h5 : P 5) (h6 : P 6) (h7 : P 7) (h8 : P 8) (h9 : P 9) (h10 : P 10) (h11 : P 11) (h12 : P 12) (h13 : P 13) (h14 : P 14) (h15 : P 15) : ∀ q, q < 16 → P q := fun q hq => by
  rcases (by omega : q = 0 ∨ q = 1 ∨ q = 2 ∨ q = 3 ∨ q = 4 ∨ q = 5 ∨ q = 6 ∨ q = 7 ∨ q = 8 ∨ q = 9 ∨ q = 10 ∨ q = 11 ∨ q = 12 ∨ q = 13 ∨ q = 14 ∨ q = 15) with rfl | rfl | rfl | rfl | rfl | rfl | rfl | rfl | rfl | rfl | rfl | rfl | rfl | rfl | rfl | rfl <;> assumption
theorem endA_congr {v u : Nat → Int} (h : ∀ q, q < 16 → v q = u q) : endA v = endA u := by
  unfold endA
  rw [h 0 (by omega), h 1 (by omega), h 2 (by omega), h 3 (by omega), h 4 (by omega), h 5 (by omega), h 6 (by omega), h 7 (by omega), h 8 (by omega), h 9 (by omega), h 10 (by omega), h 11 (by omega), h 12 (by omega), h 13 (by omega), h 14 (by omega), h 15 (by omega)]
theorem ret_end {v u : Nat → Int} (h : ∀ q, q < 16 → v q = u q) : Ending.returned (endA v) = .returned (endA u) := by rw [endA_congr h]
def EndIn (w : World) (g off : Nat) (v : Nat → Int) : Prop := ∀ q, q < 16 → w.cell? ⟨g, off + q, none⟩ = some (.int .i64 (v q))
theorem EndIn.same {w : World} {g off : Nat} {v u : Nat → Int} (h : EndIn w g off v) (e : ∀ q, q < 16 → v q = u q) : EndIn w g off u := fun q hq => by rw [← e q hq]; exact h q hq
theorem EndIn.below {B : Nat} {w w' : World} {g off : Nat} {v : Nat → Int} (h : EndIn w g off v) (hb : Below B w w') (hg : g < B) : EndIn w' g off v := fun q hq => (hb.cell (p := ⟨g, off + q, none⟩) hg).trans (h q hq)
def endO (v : Nat → Int) (t : Nat) : Obj := .cells #[.int .i64 (v 0), .int .i64 (v 1), .int .i64 (v 2), .int .i64 (v 3), .int .i64 (v 4), .int .i64 (v 5), .int .i64 (v 6), .int .i64 (v 7), .int .i64 (v 8), .int .i64 (v 9), .int .i64 (v 10), .int .i64 (v 11), .int .i64 (v 12), .int .i64 (v 13), .int .i64 (v 14), .int .i64 (v 15)] t
theorem endIn_new (w : World) (v : Nat → Int) (t : Nat) : EndIn (w.alloc (endO v t)) w.heap.size 0 v := fun q hq => by
  unfold endO
  rw [Nat.zero_add, cell_of_row _ w.heap.size q _ t _ (heap_alloc_new w _)]
  exact all16 (P := fun q => (#[Value.int .i64 (v 0), .int .i64 (v 1), .int .i64 (v 2), .int .i64 (v 3), .int .i64 (v 4), .int .i64 (v 5), .int .i64 (v 6), .int .i64 (v 7), .int .i64 (v 8), .int .i64 (v 9), .int .i64 (v 10), .int .i64 (v 11), .int .i64 (v 12), .int .i64 (v 13), .int .i64 (v 14), .int .i64 (v 15)])[q]? = some (.int .i64 (v q))) rfl rfl rfl rfl rfl rfl rfl rfl rfl rfl rfl rfl rfl rfl rfl rfl q hq
theorem EndIn.put {w : World} {g off : Nat} {v : Nat → Int} (h : EndIn w g off v) {m : Nat} (x : Int) : EndIn (w.setCell ⟨g, off + m, none⟩ (.int .i64 x)) g off (fun q => if q = m then x else v q) := fun q hq => by
  by_cases e : q = m
  · subst e
    simp only [if_true]
    exact World.cell?_setCell_same _ _ _ (h q hq)
  · simp only [if_neg e]
    rw [World.cell?_setCell_other _ _ _ _ (offN (by omega))]
    exact h q hq
/-- Sixteen numbers in a block of their own. -/
structure EndB (w : World) (g : Nat) (v : Nat → Int) : Prop where
  blk : ∃ cur t, w.heap[g]? = some (.cells cur t (0, 0))
  at_ : EndIn w g 0 v
theorem EndB.lt {w : World} {g : Nat} {v : Nat → Int} (h : EndB w g v) : g < w.heap.size := by
  obtain ⟨cur, t, hc⟩ := h.blk
  exact lt_of_heap hc
theorem EndB.fz {w : World} {g : Nat} {v : Nat → Int} (h : EndB w g v) (i : Nat) : w.frozen? ⟨g, i, none⟩ = false := by
  obtain ⟨cur, t, hc⟩ := h.blk
  exact frozen_of_row w g i cur t hc
theorem EndB.same {w : World} {g : Nat} {v u : Nat → Int} (h : EndB w g v) (e : ∀ q, q < 16 → v q = u q) : EndB w g u := ⟨h.blk, h.at_.same e⟩
theorem EndB.block {w w' : World} {g : Nat} {v : Nat → Int} (h : EndB w g v) (hb : w'.heap[g]? = w.heap[g]?) : EndB w' g v := by
  obtain ⟨cur, t, hc⟩ := h.blk
  exact ⟨⟨cur, t, hb.trans hc⟩, fun k hk => (World.cell?_of_block (a := ⟨g, 0 + k, none⟩) hb).trans (h.at_ k hk)⟩
theorem EndB.below {B : Nat} {w w' : World} {g : Nat} {v : Nat → Int} (h : EndB w g v) (hb : Below B w w') (hg : g < B) : EndB w' g v := h.block (hb.block g hg)
theorem EndB.other {w : World} {g : Nat} {v : Nat → Int} (h : EndB w g v) {p : Addr} (hp : g ≠ p.block) (x : Value) : EndB (w.setCell p x) g v := h.block (Below.heap_setCell w p x g hp)
theorem EndB.put {w : World} {g : Nat} {v : Nat → Int} (h : EndB w g v) (m : Nat) (x : Int) : EndB (w.setCell ⟨g, m, none⟩ (.int .i64 x)) g (fun q => if q = m then x else v q) := by
  obtain ⟨cur, t, hc⟩ := h.blk
  obtain ⟨cur', hc', _⟩ := heap_setCell hc m (.int .i64 x)
  have := h.at_.put (m := m) x
  rw [Nat.zero_add] at this
  exact ⟨⟨cur', t, hc'⟩, this⟩
theorem EndB.alloc {w : World} {g : Nat} {v : Nat → Int} (h : EndB w g v) (o : Obj) : EndB (w.alloc o) g v := h.below ((Below.refl _ _).alloc (Nat.le_refl _) o) h.lt
theorem endB_new (w : World) (v : Nat → Int) (t : Nat) : EndB (w.alloc (endO v t)) w.heap.size v := ⟨⟨_, t, heap_alloc_new w _⟩, endIn_new w v t⟩
theorem EndB.at' {w : World} {g : Nat} {v : Nat → Int} (h : EndB w g v) {q : Nat} (hq : q < 16) : w.cell? ⟨g, q, none⟩ = some (.int .i64 (v q)) := by
  have := h.at_ q hq
  rwa [Nat.zero_add] at this
theorem EndB.all {w : World} {g : Nat} {v : Nat → Int} (h : EndB w g v) : w.cell? ⟨g, 0, none⟩ = some (.int .i64 (v 0)) ∧ w.cell? ⟨g, 1, none⟩ = some (.int .i64 (v 1)) ∧ w.cell? ⟨g, 2, none⟩ = some (.int .i64 (v 2)) ∧ w.cell? ⟨g, 3, none⟩ = some (.int .i64 (v 3)) ∧ w.cell? ⟨g, 4, none⟩ = some (.int .i64 (v 4)) ∧ w.cell? ⟨g, 5, none⟩ = some (.int .i64 (v 5)) ∧ w.cell? ⟨g, 6, none⟩ = some (.int .i64 (v 6)) ∧ w.cell? ⟨g, 7, none⟩ = some (.int .i64 (v 7)) ∧ w.cell? ⟨g, 8, none⟩ = some (.int .i64 (v 8)) ∧ w.cell? ⟨g, 9, none⟩ = some (.int .i64 (v 9)) ∧ w.cell? ⟨g, 10, none⟩ = some (.int .i64 (v 10)) ∧ w.cell? ⟨g, 11, none⟩ = some (.int .i64 (v 11)) ∧ w.cell? ⟨g, 12, none⟩ = some (.int .i64 (v 12)) ∧ w.cell? ⟨g, 13, none⟩ = some (.int .i64 (v 13)) ∧ w.cell? ⟨g, 14, none⟩ = some (.int .i64 (v 14)) ∧ w.cell? ⟨g, 15, none⟩ = some (.int .i64 (v 15)) :=
  ⟨h.at' (q := 0) (by omega), h.at' (q := 1) (by omega), h.at' (q := 2) (by omega), h.at' (q := 3) (by omega), h.at' (q := 4) (by omega), h.at' (q := 5) (by omega), h.at' (q := 6) (by omega), h.at' (q := 7) (by omega), h.at' (q := 8) (by omega), h.at' (q := 9) (by omega), h.at' (q := 10) (by omega), h.at' (q := 11) (by omega), h.at' (q := 12) (by omega), h.at' (q := 13) (by omega), h.at' (q := 14) (by omega), h.at' (q := 15) (by omega)⟩
def endL (v : Nat → Int) : List Value := [.int .i64 (v 0), .int .i64 (v 1), .int .i64 (v 2), .int .i64 (v 3), .int .i64 (v 4), .int .i64 (v 5), .int .i64 (v 6), .int .i64 (v 7), .int .i64 (v 8), .int .i64 (v 9), .int .i64 (v 10), .int .i64 (v 11), .int .i64 (v 12), .int .i64 (v 13), .int .i64 (v 14), .int .i64 (v 15)]
theorem endL_at (v : Nat → Int) {j : Nat} {u : Value} (h : (endL v)[j]? = some u) : j < 16 ∧ u = .int .i64 (v j) := by
  have hj : j < 16 := (List.getElem?_eq_some_iff.1 h).1
  refine ⟨hj, ?_⟩
  have := all16 (P := fun j => (endL v)[j]? = some (.int .i64 (v j))) rfl rfl rfl rfl rfl rfl rfl rfl rfl rfl rfl rfl rfl rfl rfl rfl j hj
  rw [this] at h
  exact (Option.some.inj h).symm
theorem EndIn.range {w : World} {g off : Nat} {v : Nat → Int} (h : EndIn w g off v) : w.rangeAt g off (endL v) := fun j u hu => by
  obtain ⟨hj, rfl⟩ := endL_at v hu
  exact h j hj
theorem load90 {w : World} {g off : Nat} {v : Nat → Int} (h : EndIn w g off v) : (loadVar 68 ⟨g, off, none⟩).run Try.prog w = .ok (endA v) w :=
  run_loadVar_mid w g off 68 (endL v) _ h.range Try.underlying68 rfl (by kernel_rfl)
theorem EndB.store {w : World} {g : Nat} {v : Nat → Int} (h : EndB w g v) (u : Nat → Int) : EndB (w.setCells g 0 (endL u)) g u :=
  (((((((((((((((((h.put 0 (u 0)).put 1 (u 1)).put 2 (u 2)).put 3 (u 3)).put 4 (u 4)).put 5 (u 5)).put 6 (u 6)).put 7 (u 7)).put 8 (u 8)).put 9 (u 9)).put 10 (u 10)).put 11 (u 11)).put 12 (u 12)).put 13 (u 13)).put 14 (u 14)).put 15 (u 15))).same
    (all16 rfl rfl rfl rfl rfl rfl rfl rfl rfl rfl rfl rfl rfl rfl rfl rfl)

/-- Where a transaction has its last step of that kind, of the first ones; behind all, if it has none. -/
def endP (l : List Stp) (kd t : Int) (k : Nat) : Nat := (lastN (endF l kd t) k).getD l.length
theorem endP_succ (l : List Stp) (kd t : Int) (k : Nat) : endP l kd t (k + 1) = if endF l kd t k = true then k else endP l kd t k := by
  unfold endP
  rw [lastN]
  split <;> rfl
theorem endP_all {l : List Stp} (ok : OkS l) {kd : Int} (hkd : 2 < kd) (t : Int) : endP l kd t l.length = endK l kd t := by
  unfold endP
  cases h : lastN (endF l kd t) l.length with
  | none =>
    rw [endK_none fun j hj => ?_]
    · rfl
    · rw [← endF_iff, lastN_none h j hj]; simp
  | some i =>
    obtain ⟨h1, h2, _⟩ := lastN_some h
    obtain ⟨h3, h4⟩ := endF_iff.1 h2
    rw [endK_at ok hkd h1 h3 h4]
    rfl
/-- The sixteen, of the first ones; of all. -/
def enV (l : List Stp) (k q : Nat) : Int := if q % 2 = 0 then endP l 3 (q / 2 : Nat) k else endP l 4 (q / 2 : Nat) k
def enQ (l : List Stp) (q : Nat) : Int := if q % 2 = 0 then endK l 3 (q / 2 : Nat) else endK l 4 (q / 2 : Nat)
theorem enV_all {l : List Stp} (ok : OkS l) (q : Nat) : enV l l.length q = enQ l q := by
  unfold enV enQ
  rw [endP_all ok (by decide), endP_all ok (by decide)]
theorem enV_zero (l : List Stp) (q : Nat) : enV l 0 q = l.length := by
  unfold enV endP lastN
  split <;> rfl
end Go.Proofs.Ythmiocbihhbdpaa

namespace Go.Proofs.Ythmiocbihhbdpaa
open Go.RowKit

theorem endO_made (w : World) : EndB (w.alloc (.cells #[.int .i64 0, .int .i64 0, .int .i64 0, .int .i64 0, .int .i64 0, .int .i64 0, .int .i64 0, .int .i64 0, .int .i64 0, .int .i64 0, .int .i64 0, .int .i64 0, .int .i64 0, .int .i64 0, .int .i64 0, .int .i64 0] 68)) w.heap.size (fun _ => 0) := endB_new w (fun _ => 0) 68

set_option maxRecDepth 100000 in
set_option maxHeartbeats 8000000 in
theorem endsOf_any (l : List Stp) (ok : OkS l) (a : Option Addr) (cap : Nat) (w : World) (hn : l.length ≤ 100) (hl : StpsQ w a l) :
    Calls Try.prog 19 #[.slice a l.length cap] w fun e w' => e = .returned (endA (enQ l)) ∧ Below w.heap.size w w' := by
  have HL := hideIt hl
  have HOk := hideIt ok
  clear hl
  have HR0 := hideIt ((endO_made w).alloc (.cells #[.int .i64 0, .int .i64 0, .int .i64 0, .int .i64 0, .int .i64 0, .int .i64 0, .int .i64 0, .int .i64 0, .int .i64 0, .int .i64 0, .int .i64 0, .int .i64 0, .int .i64 0, .int .i64 0, .int .i64 0, .int .i64 0] 68))
  have HO0 := hideIt (endO_made (w.alloc (.cells #[.int .i64 0, .int .i64 0, .int .i64 0, .int .i64 0, .int .i64 0, .int .i64 0, .int .i64 0, .int .i64 0, .int .i64 0, .int .i64 0, .int .i64 0, .int .i64 0, .int .i64 0, .int .i64 0, .int .i64 0, .int .i64 0] 68)))
  rw [show (w.alloc (.cells #[.int .i64 0, .int .i64 0, .int .i64 0, .int .i64 0, .int .i64 0, .int .i64 0, .int .i64 0, .int .i64 0, .int .i64 0, .int .i64 0, .int .i64 0, .int .i64 0, .int .i64 0, .int .i64 0, .int .i64 0, .int .i64 0] 68)).heap.size = w.heap.size + 1 by simp] at HO0
  have HB0 : Hid (Below w.heap.size w ((w.alloc (.cells #[.int .i64 0, .int .i64 0, .int .i64 0, .int .i64 0, .int .i64 0, .int .i64 0, .int .i64 0, .int .i64 0, .int .i64 0, .int .i64 0, .int .i64 0, .int .i64 0, .int .i64 0, .int .i64 0, .int .i64 0, .int .i64 0] 68)).alloc (.cells #[.int .i64 0, .int .i64 0, .int .i64 0, .int .i64 0, .int .i64 0, .int .i64 0, .int .i64 0, .int .i64 0, .int .i64 0, .int .i64 0, .int .i64 0, .int .i64 0, .int .i64 0, .int .i64 0, .int .i64 0, .int .i64 0] 68))) := belA (belA (Below.refl _ _) _) _
  go_enter Try.func19, Try.ntmps19
  go_wp2
  generalize (w.alloc _).alloc _ = W at HO0 HB0 HR0 ⊢
  go_loopw [7] (fun i wr => ∃ k : Nat, k ≤ 8 ∧ i = .int .i64 k ∧ EndB wr w.heap.size (fun _ => 0) ∧ EndB wr (w.heap.size + 1) (fun q => if q / 2 < k then l.length else 0) ∧ Below w.heap.size w wr) (fun i _ => 8 - (intOf i).toNat)
  case atStart => exact ⟨0, Nat.zero_le _, rfl, HR0.out, HO0.out, HB0.out⟩
  case round =>
    clear HO0 HB0 HR0
    obtain ⟨k, hk, rfl, hr, ho, hb⟩ := hrel
    have HR := hideIt hr
    have HO := hideIt ho
    have HB := hideIt hb
    clear hr ho hb
    by_cases hk8 : k < 8
    · have o0 := HO.out.at' (q := k * 2) (by omega)
      have o1 := HO.out.at' (q := k * 2 + 1) (by omega)
      have z0 := HO.out.fz (k * 2)
      have z1 := HO.out.fz (k * 2 + 1)
      have R1 : Hid (EndB ((wr.setCell ⟨w.heap.size + 1, k * 2, none⟩ (.int .i64 l.length)).setCell ⟨w.heap.size + 1, k * 2 + 1, none⟩ (.int .i64 l.length)) (w.heap.size + 1) (fun q => if q / 2 < k + 1 then (l.length : Int) else 0)) := ((HO.out.put (k * 2) l.length).put (k * 2 + 1) l.length).same fun q hq => by
        show (if q = k * 2 + 1 then (l.length : Int) else if q = k * 2 then (l.length : Int) else if q / 2 < k then (l.length : Int) else 0) = if q / 2 < k + 1 then (l.length : Int) else 0
        by_cases e1 : q = k * 2 + 1
        · rw [if_pos e1, if_pos (by omega)]
        · rw [if_neg e1]
          by_cases e2 : q = k * 2
          · rw [if_pos e2, if_pos (by omega)]
          · rw [if_neg e2]
            by_cases e3 : q / 2 < k
            · rw [if_pos e3, if_pos (by omega)]
            · rw [if_neg e3, if_neg (by omega)]
      have R2 : Hid (EndB ((wr.setCell ⟨w.heap.size + 1, k * 2, none⟩ (.int .i64 l.length)).setCell ⟨w.heap.size + 1, k * 2 + 1, none⟩ (.int .i64 l.length)) w.heap.size (fun _ => 0)) := (HR.out.other (p := ⟨w.heap.size + 1, k * 2, none⟩) (by show w.heap.size ≠ w.heap.size + 1; omega) _).other (p := ⟨w.heap.size + 1, k * 2 + 1, none⟩) (by show w.heap.size ≠ w.heap.size + 1; omega) _
      have R3 : Hid (Below w.heap.size w ((wr.setCell ⟨w.heap.size + 1, k * 2, none⟩ (.int .i64 l.length)).setCell ⟨w.heap.size + 1, k * 2 + 1, none⟩ (.int .i64 l.length))) := (HB.out.setCell (p := ⟨w.heap.size + 1, k * 2, none⟩) (by show w.heap.size ≤ w.heap.size + 1; omega) _).setCell (p := ⟨w.heap.size + 1, k * 2 + 1, none⟩) (by show w.heap.size ≤ w.heap.size + 1; omega) _
      have hk8' : (k : Int) < 8 := by omega
      clear HR HO HB
      go_wp2
      go_roundw
      case rel => exact ⟨k + 1, by omega, by go_num, R2.out, R1.out, R3.out⟩
      case measure => simp [intOf]; omega
    · obtain rfl : k = 8 := by omega
      have HO1 : Hid (EndB wr (w.heap.size + 1) (enV l 0)) := HO.out.same fun q hq => by
        rw [enV_zero]
        exact if_pos (by omega)
      clear HO
      go_wp2
      go_loopw [20] (fun i wr => ∃ k : Nat, k ≤ l.length ∧ i = .int .i64 k ∧ EndB wr w.heap.size (fun _ => 0) ∧ EndB wr (w.heap.size + 1) (enV l k) ∧ Below w.heap.size w wr) (fun i _ => l.length - (intOf i).toNat)
      case atStart => exact ⟨0, Nat.zero_le _, rfl, HR.out, HO1.out, HB.out⟩
      case round =>
        clear HO1 HB HR
        obtain ⟨k, hk, rfl, hr, ho, hb⟩ := hrel
        have HR := hideIt hr
        have HO := hideIt ho
        have HB := hideIt hb
        clear hr ho hb
        by_cases hkl : k < l.length
        · obtain ⟨b, off, rfl, hlt, hst⟩ : ∃ b off, a = some ⟨b, off, none⟩ ∧ b < w.heap.size ∧ StpsAt w b off l := by
            rcases HL.out with h | h
            · subst h; simp at hkl
            · exact h
          obtain ⟨c0, c1, c2⟩ := (hst k hkl).below hlt HB.out
          have hkl' : (k : Int) < l.length := by omega
          have htx := HOk.out.tx hkl
          have HV : Hid (∀ q : Nat, enV l (k + 1) q = if (stZ l k).p = (q / 2 : Nat) ∧ (stZ l k).k = (if q % 2 = 0 then 3 else 4) then (k : Int) else enV l k q) := fun q => by
            unfold enV
            rw [endP_succ, endP_succ]
            by_cases e : q % 2 = 0
            · rw [if_pos e, if_pos e, if_pos e]
              by_cases c : endF l 3 (q / 2 : Nat) k = true
              · rw [if_pos c, if_pos (endF_iff.1 c)]
              · rw [if_neg c, if_neg fun h => c (endF_iff.2 h)]
            · rw [if_neg e, if_neg e, if_neg e]
              by_cases c : endF l 4 (q / 2 : Nat) k = true
              · rw [if_pos c, if_pos (endF_iff.1 c)]
              · rw [if_neg c, if_neg fun h => c (endF_iff.2 h)]
          rw [stZ_at hkl] at htx HV
          generalize l[k] = x at c0 c1 c2 htx HV
          obtain ⟨xp, xk, xm⟩ := x
          dsimp only at c0 c1 c2 htx HV
          obtain ⟨t, rfl⟩ : ∃ t : Nat, xp = (t : Int) := ⟨xp.toNat, by omega⟩
          have ht8 : t < 8 := by omega
          have ht8' : (t : Int) < 8 := by omega
          have HRA := hideIt (HR.out.alloc (.cells #[.int .i64 (t : Int), .int .i64 xk, .int .i64 xm] 40))
          have HOA := hideIt (HO.out.alloc (.cells #[.int .i64 (t : Int), .int .i64 xk, .int .i64 xm] 40))
          have HBA : Hid (Below w.heap.size w (wr.alloc (.cells #[.int .i64 (t : Int), .int .i64 xk, .int .i64 xm] 40))) := belA HB.out _
          have d0 : (wr.alloc (.cells #[.int .i64 (t : Int), .int .i64 xk, .int .i64 xm] 40)).cell? ⟨wr.heap.size, 0, none⟩ = some (.int .i64 (t : Int)) := by simp
          have d1 : (wr.alloc (.cells #[.int .i64 (t : Int), .int .i64 xk, .int .i64 xm] 40)).cell? ⟨wr.heap.size, 1, none⟩ = some (.int .i64 xk) := by simp
          have hwl := HO.out.lt
          clear hst HL HO HB HR
          have ho0 := HOA.out.at' (q := t * 2) (by omega)
          have ho1 := HOA.out.at' (q := t * 2 + 1) (by omega)
          have hz0 := HOA.out.fz (t * 2)
          have hz1 := HOA.out.fz (t * 2 + 1)
          go_upto_region 10 with fail
          generalize wr.alloc _ = WA at HRA HOA HBA d0 d1 ho0 ho1 hz0 hz1 ⊢
          generalize wr.heap.size = Z at d0 d1 hwl ⊢
          clear c0 c1 c2
          have HSw : Hid (∀ (j : Nat), j < 2 → xk = (if j = 0 then 3 else 4) → EndB (WA.setCell ⟨w.heap.size + 1, t * 2 + j, none⟩ (.int .i64 k)) w.heap.size (fun _ => 0) ∧ EndB (WA.setCell ⟨w.heap.size + 1, t * 2 + j, none⟩ (.int .i64 k)) (w.heap.size + 1) (enV l (k + 1)) ∧ Below w.heap.size w (WA.setCell ⟨w.heap.size + 1, t * 2 + j, none⟩ (.int .i64 k))) := fun j hj h => by
            refine ⟨HRA.out.other (p := ⟨w.heap.size + 1, t * 2 + j, none⟩) (by show w.heap.size ≠ w.heap.size + 1; omega) _, (HOA.out.put (t * 2 + j) k).same fun q hq => ?_, HBA.out.setCell (p := ⟨w.heap.size + 1, t * 2 + j, none⟩) (by show w.heap.size ≤ w.heap.size + 1; omega) _⟩
            rw [HV.out, h]
            by_cases e : q = t * 2 + j
            · rw [if_pos e, if_pos ⟨by omega, by
                by_cases e0 : j = 0
                · rw [if_pos e0, if_pos (by omega)]
                · rw [if_neg e0, if_neg (by omega)]⟩]
            · rw [if_neg e, if_neg fun c => ?_]
              obtain ⟨c1, c2⟩ := c
              by_cases e0 : j = 0
              · rw [if_pos e0] at c2
                by_cases e1 : q % 2 = 0
                · omega
                · rw [if_neg e1] at c2; omega
              · rw [if_neg e0] at c2
                by_cases e1 : q % 2 = 0
                · rw [if_pos e1] at c2; omega
                · omega
          by_cases h3 : xk = 3
          · have R := hideIt (HSw.out 0 (by omega) (by rw [if_pos rfl]; exact h3))
            rw [Nat.add_zero] at R
            clear HSw HV  htx
            rw [h3] at d1
            go_wp2
            go_roundw
            case rel => exact ⟨k + 1, by omega, by go_num, R.out.1, R.out.2.1, R.out.2.2⟩
            case measure => simp [intOf]; omega
          · by_cases h4 : xk = 4
            · have R := hideIt (HSw.out 1 (by omega) (by rw [if_neg (by decide)]; exact h4))
              clear HSw HV  htx h3
              rw [h4] at d1
              go_wp2
              go_roundw
              case rel => exact ⟨k + 1, by omega, by go_num, R.out.1, R.out.2.1, R.out.2.2⟩
              case measure => simp [intOf]; omega
            · have R : Hid (EndB WA (w.heap.size + 1) (enV l (k + 1))) := HOA.out.same fun q hq => by
                rw [HV.out, if_neg fun c => ?_]
                obtain ⟨c1, c2⟩ := c
                split at c2 <;> omega
              have h3' : (xk == 3) = false := by simp [h3]
              have h4' : (xk == 4) = false := by simp [h4]
              clear HSw HV  htx
              go_wp2
              go_roundw
              case rel => exact ⟨k + 1, by omega, by go_num, HRA.out, R.out, HBA.out⟩
              case measure => simp [intOf]; omega
        · obtain rfl : k = l.length := by omega
          have HO1 : Hid (EndB wr (w.heap.size + 1) (enQ l)) := HO.out.same fun q hq => enV_all HOk.out q
          clear HO
          obtain ⟨f, hf⟩ : ∃ f, f = enQ l := ⟨_, rfl⟩
          rw [← hf] at HO1
          have HF := hideIt hf
          clear hf
          obtain ⟨y0, y1, y2, y3, y4, y5, y6, y7, y8, y9, y10, y11, y12, y13, y14, y15⟩ := HO1.out.all
          obtain ⟨z0, z1, z2, z3, z4, z5, z6, z7, z8, z9, z10, z11, z12, z13, z14, z15⟩ := HR.out.all
          have zf := HR.out.fz
          go_wp2
          refine bodyPost_ret (results_one rfl _ _ _ _ rfl (load90 (HR.out.store f).at_)) rfl ?_
          exact ⟨congrArg (fun z => Ending.returned (endA z)) HF.out, HB.out.grown (grown_setCells _ (endL f) 0 _) HB.out.size (fun b' hb' => by cases hb'; omega)⟩
end Go.Proofs.Ythmiocbihhbdpaa

namespace Go.Proofs.Ythmiocbihhbdpaa
open Go.RowKit
theorem cell_alloc {w : World} {o : Obj} {g j : Nat} {x : Value} (h : w.cell? ⟨g, j, none⟩ = some x) : (w.alloc o).cell? ⟨g, j, none⟩ = some x := by
  rw [World.cell?_alloc_lt _ _ ⟨g, j, none⟩ (World.block_lt_of_cell? w _ h)]; exact h

/-- As a number: -1, if there is none. -/
def opV (l : List Stp) (n : Nat) : Int := match openW l n with
  | none => -1
  | some t => t
theorem opV_over {l : List Stp} {n : Nat} (h : 2 < (stZ l n).k) : opV l n = -1 := by unfold opV openW; rw [if_pos h]
theorem opV_none {l : List Stp} {n : Nat} (h : ∀ j, j < n → findW l n j = false) : opV l n = -1 := by
  unfold opV openW
  by_cases e : 2 < (stZ l n).k
  · rw [if_pos e]
  · rw [if_neg e, lastN_no h]
theorem opV_at {l : List Stp} {n m : Nat} (hk : ¬ 2 < (stZ l n).k) (hm : m < n) (hf : findW l n m = true) (h : ∀ j, m + 1 ≤ j → j < n → findW l n j = false) : opV l n = if (stZ l m).p = (stZ l n).p ∨ endK l 3 (stZ l m).p < n then -1 else (stZ l m).p := by
  unfold opV openW
  rw [if_neg hk, lastN_at hf hm fun j h1 h2 => h j h1 h2]
  simp only
  split
  · rename_i h1
    split at h1
    · rename_i h2; rw [if_pos h2]
    · cases h1
  · rename_i t h1
    split at h1
    · cases h1
    · rename_i h2; rw [if_neg h2]; exact (Option.some.inj h1).symm

set_option maxRecDepth 100000 in
set_option maxHeartbeats 8000000 in
theorem open_any (l : List Stp) (ok : OkS l) (a : Option Addr) (cap n : Nat) (w : World) (hl100 : l.length ≤ 100) (hn : n < l.length) (hl : StpsQ w a l) :
    Calls Try.prog 20 #[endA (enQ l), .slice a l.length cap, .int .i64 (n : Nat)] w fun e w' => e = .returned (.int .i64 (opV l n)) ∧ Below w.heap.size w w' := by
  obtain ⟨b, off, rfl, hlt, hst⟩ : ∃ b off, a = some ⟨b, off, none⟩ ∧ b < w.heap.size ∧ StpsAt w b off l := by
    rcases hl with h | h
    · subst h; simp at hn
    · exact h
  have HL := hideIt hst
  have HOk := hideIt ok
  have HOver : Hid (2 < (stZ l n).k → opV l n = -1) := opV_over
  have HNone : Hid ((∀ j, j < n → findW l n j = false) → opV l n = -1) := opV_none
  have HAt : Hid (∀ m, ¬ 2 < (stZ l n).k → m < n → findW l n m = true → (∀ j, m + 1 ≤ j → j < n → findW l n j = false) → opV l n = if (stZ l m).p = (stZ l n).p ∨ endK l 3 (stZ l m).p < n then -1 else (stZ l m).p) := fun m => opV_at
  have HFw : Hid (∀ m, findW l n m = ((stZ l m).k == 2 && (stZ l m).m == (stZ l n).m && !decide (endK l 4 (stZ l m).p < n))) := fun m => rfl
  obtain ⟨c0, c1, c2⟩ := hst n hn
  have htx := HOk.out.tx hn
  rw [stZ_at hn] at HOver HAt HFw htx
  have HE0 := hideIt (endIn_new w (enQ l) 68)
  have hnl : (n : Int) < l.length := by omega
  generalize l[n] = s at c0 c1 c2 HOver HAt HFw htx
  have HB0 : Hid (Below w.heap.size w (w.alloc (endO (enQ l) 68))) := belA (Below.refl _ _) _
  have HR : Hid (∀ t : Nat, t < 8 → enQ l (t * 2) = endK l 3 (t : Int) ∧ enQ l (t * 2 + 1) = endK l 4 (t : Int)) := fun t ht => by
    unfold enQ
    rw [if_pos (by omega), if_neg (by omega), show t * 2 / 2 = t by omega, show (t * 2 + 1) / 2 = t by omega]
    exact ⟨rfl, rfl⟩
  generalize enQ l = v at HE0 HB0 HR ⊢
  generalize opV l n = o at HOver HNone HAt ⊢
  clear hst hl htx
  have c0A := cell_alloc (o := endO v 68) c0
  have c1A := cell_alloc (o := endO v 68) c1
  have c2A := cell_alloc (o := endO v 68) c2
  unfold endO at HE0 HB0 c0A c1A c2A
  unfold endA
  by_cases h2 : 2 < s.k
  · obtain rfl := HOver.out h2
    have h2' : (3 : Int) ≤ s.k := by omega
    go_enter Try.func20, Try.ntmps20
    go_wp2
    go_ret
    exact ⟨rfl, belA HB0.out _⟩
  · have h2' : s.k < (3 : Int) := by omega
    have hsz : (w.alloc (.cells #[.int .i64 (v 0), .int .i64 (v 1), .int .i64 (v 2), .int .i64 (v 3), .int .i64 (v 4), .int .i64 (v 5), .int .i64 (v 6), .int .i64 (v 7), .int .i64 (v 8), .int .i64 (v 9), .int .i64 (v 10), .int .i64 (v 11), .int .i64 (v 12), .int .i64 (v 13), .int .i64 (v 14), .int .i64 (v 15)] 68)).heap.size = w.heap.size + 1 := by simp
    have HE1 := hideIt (HE0.out.below (belA (Below.refl _ _) (.cells #[.int .i64 s.p, .int .i64 s.k, .int .i64 s.m] 40)) (by rw [hsz]; exact Nat.lt_succ_self _))
    have HB1 : Hid (Below w.heap.size w ((w.alloc (.cells #[.int .i64 (v 0), .int .i64 (v 1), .int .i64 (v 2), .int .i64 (v 3), .int .i64 (v 4), .int .i64 (v 5), .int .i64 (v 6), .int .i64 (v 7), .int .i64 (v 8), .int .i64 (v 9), .int .i64 (v 10), .int .i64 (v 11), .int .i64 (v 12), .int .i64 (v 13), .int .i64 (v 14), .int .i64 (v 15)] 68)).alloc (.cells #[.int .i64 s.p, .int .i64 s.k, .int .i64 s.m] 40))) := belA HB0.out _
    have HS1 : Hid (StpN ((w.alloc (.cells #[.int .i64 (v 0), .int .i64 (v 1), .int .i64 (v 2), .int .i64 (v 3), .int .i64 (v 4), .int .i64 (v 5), .int .i64 (v 6), .int .i64 (v 7), .int .i64 (v 8), .int .i64 (v 9), .int .i64 (v 10), .int .i64 (v 11), .int .i64 (v 12), .int .i64 (v 13), .int .i64 (v 14), .int .i64 (v 15)] 68)).alloc (.cells #[.int .i64 s.p, .int .i64 s.k, .int .i64 s.m] 40)) (w.heap.size + 1) s) := by
      rw [← hsz]; exact ⟨by simp, by simp, by simp⟩
    have hs1 : ((w.alloc (.cells #[.int .i64 (v 0), .int .i64 (v 1), .int .i64 (v 2), .int .i64 (v 3), .int .i64 (v 4), .int .i64 (v 5), .int .i64 (v 6), .int .i64 (v 7), .int .i64 (v 8), .int .i64 (v 9), .int .i64 (v 10), .int .i64 (v 11), .int .i64 (v 12), .int .i64 (v 13), .int .i64 (v 14), .int .i64 (v 15)] 68)).alloc (.cells #[.int .i64 s.p, .int .i64 s.k, .int .i64 s.m] 40)).heap.size = w.heap.size + 2 := by simp
    clear HOver HE0 HB0
    go_enter Try.func20, Try.ntmps20
    go_upto_region 4 with fail
    generalize (w.alloc _).alloc _ = W at HE1 HB1 HS1 hs1 ⊢
    clear c0 c1 c2 c0A c1A c2A hsz
    go_wp2
    go_loopw [8] (fun i wr => ∃ m : Nat, m ≤ n ∧ i = .int .i64 ((m : Int) - 1) ∧ (∀ j, m ≤ j → j < n → findW l n j = false) ∧ Below W.heap.size W wr) (fun i _ => (intOf i + 1).toNat)
    case atStart => exact ⟨n, Nat.le_refl _, rfl, fun j h1 h2 => absurd h1 (by omega), Below.refl _ _⟩
    case round =>
      obtain ⟨m, hm, rfl, hno, hb⟩ := hrel
      have HNo := hideIt hno
      have HB := hideIt hb
      clear hno hb
      cases m with
      | zero =>
        obtain rfl := HNone.out fun j hj => HNo.out j (Nat.zero_le _) hj
        go_wp2
        go_ret
        exact ⟨rfl, HB1.out.trans (HB.out.mono (by omega))⟩
      | succ m =>
        have hml : m < l.length := by omega
        obtain ⟨c0, c1, c2⟩ := ((HL.out m hml).below hlt HB1.out).below (Nat.lt_of_lt_of_le hlt (by omega)) HB.out
        have htx := HOk.out.tx hml
        have HFm := hideIt (HFw.out m)
        have HAm := hideIt (HAt.out m h2 (by omega))
        have hmi : ((m + 1 : Nat) : Int) - 1 = (m : Int) := by omega
        rw [hmi]
        rw [stZ_at hml] at htx HFm HAm
        generalize l[m] = x at c0 c1 c2 htx HFm HAm
        obtain ⟨xp, xk, xm⟩ := x
        dsimp only at c0 c1 c2 htx HFm HAm
        obtain ⟨t, rfl⟩ : ∃ t : Nat, xp = (t : Int) := ⟨xp.toNat, by omega⟩
        have ht8 : t < 8 := by omega
        have ht8' : (t : Int) < 8 := by omega
        have e0 := HE1.out.below HB.out (by omega) (t * 2) (by omega)
        have e1 := HE1.out.below HB.out (by omega) (t * 2 + 1) (by omega)
        rw [(HR.out t ht8).1, Nat.zero_add] at e0
        rw [(HR.out t ht8).2, Nat.zero_add] at e1
        obtain ⟨s0, s1, s2⟩ := HS1.out.below HB.out (by omega)
        have hml' : (m : Int) < l.length := by omega
        have RN : Hid (findW l n m = false → ∃ m' : Nat, m' ≤ n ∧ (Value.int .i64 ((m : Int) - 1)) = .int .i64 ((m' : Int) - 1) ∧ (∀ j, m' ≤ j → j < n → findW l n j = false)) := fun h => ⟨m, by omega, rfl, fun j h1 h2 => by
          by_cases e : j = m
          · subst e; exact h
          · exact HNo.out j (by omega) h2⟩
        have HA2 : Hid (findW l n m = true → o = if (t : Int) = s.p ∨ endK l 3 (t : Int) < n then -1 else (t : Int)) := fun h => HAm.out h HNo.out
        have HBn : Hid (∀ k, Below W.heap.size W (wr.drewN k)) := fun k => below_drewN HB.out k
        have HBo : Hid (∀ k, Below w.heap.size w (wr.drewN k)) := fun k => HB1.out.trans ((HBn.out k).mono (by omega))
        clear HNo HAm htx HAt HNone HFw
        generalize findW l n m = fw at HFm RN HA2
        generalize endK l 4 (t : Int) = ab at e1 HFm
        generalize endK l 3 (t : Int) = cm at e0 HA2
        go_upto_region 8 with fail
        by_cases g1 : xk = 2
        · have g1' : (xk != 2) = false := by simp [g1]
          have g1'' : (xk == 2) = true := by simp [g1]
          by_cases g2 : xm = s.m
          · have g2' : (xm != s.m) = false := by simp [g2]
            have g2'' : (xm == s.m) = true := by simp [g2]
            by_cases g3 : ab < n
            · have g3' : decide ((ab : Int) < (n : Int)) = true := by simp; omega
              have R := hideIt (RN.out (by rw [HFm.out, decide_eq_true g3]; simp))
              clear HFm RN HA2 g1 g2 g1'' g2''
              go_quiet (fail)
              go_wp2
              go_roundw
              case rel =>
                obtain ⟨m', r1, r2, r3⟩ := R.out
                exact ⟨m', r1, r2, r3, HBn.out _⟩
              case measure => simp [intOf]
            · have g3' : decide ((ab : Int) < (n : Int)) = false := by simp; omega
              have ho := HA2.out (by rw [HFm.out, g1'', g2'', decide_eq_false g3]; rfl)
              have HO := hideIt ho
              clear HFm RN HA2 g1 g2 g1'' g2'' ho
              by_cases g4 : (t : Int) = s.p
              · have g4' : ((t : Int) == s.p) = true := by simp [g4]
                obtain rfl : o = -1 := by rw [HO.out, if_pos (.inl g4)]
                clear g4 HO
                go_quiet (fail)
                go_wp2
                go_ret
                exact ⟨rfl, HBo.out _⟩
              · have g4' : ((t : Int) == s.p) = false := by simp [g4]
                by_cases g5 : cm < n
                · have g5' : decide ((cm : Int) < (n : Int)) = true := by simp; omega
                  obtain rfl : o = -1 := by rw [HO.out, if_pos (.inr g5)]
                  clear g4 HO
                  go_quiet (fail)
                  go_wp2
                  go_ret
                  exact ⟨rfl, HBo.out _⟩
                · have g5' : decide ((cm : Int) < (n : Int)) = false := by simp; omega
                  obtain rfl : o = (t : Int) := by rw [HO.out, if_neg fun h => h.elim g4 g5]
                  clear g4 HO
                  go_quiet (fail)
                  go_wp2
                  go_ret
                  exact ⟨rfl, HBo.out _⟩
          · have g2' : (xm != s.m) = true := by simp [g2]
            have g2'' : (xm == s.m) = false := by simp [g2]
            have R := hideIt (RN.out (by rw [HFm.out, g2'']; simp))
            clear HFm RN HA2 g1 g2 g2''
            go_quiet (fail)
            go_wp2
            go_roundw
            case rel =>
              obtain ⟨m', r1, r2, r3⟩ := R.out
              exact ⟨m', r1, r2, r3, HBn.out _⟩
            case measure => simp [intOf]
        · have g1' : (xk != 2) = true := by simp [g1]
          have g1'' : (xk == 2) = false := by simp [g1]
          have R := hideIt (RN.out (by rw [HFm.out, g1'']; simp))
          clear HFm RN HA2 g1 g1''
          go_quiet (fail)
          go_wp2
          go_roundw
          case rel =>
            obtain ⟨m', r1, r2, r3⟩ := R.out
            exact ⟨m', r1, r2, r3, HBn.out _⟩
          case measure => simp [intOf]
end Go.Proofs.Ythmiocbihhbdpaa
