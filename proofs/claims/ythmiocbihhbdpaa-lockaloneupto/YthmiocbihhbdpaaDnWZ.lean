/-
  The document's commits and Done, walked.
  Eight bools in memory.
  The program's isTx and fault of a step, walked.
-/
import Derived.Test.YthmiocbihhbdpaaGrMZ
import Derived.Test.YthmiocbihhbdpaaAtC
namespace Go.Proofs.Ythmiocbihhbdpaa
open Go.RowKit

/-- Whether a transaction commits. -/
def commB (l : List Stp) (t : Int) : Bool := decide (0 ≤ t) && decide (t < 8) && l.any fun s => s.p == t && s.k == 3
def doneB (l : List Stp) (s : Stp) : Bool := decide (s.k < 3) && commB l s.p
/-- The steps of those that commit. -/
def doneL (l : List Stp) : List Stp := l.filter (doneB l)

theorem filter_take {p : Stp → Bool} {l : List Stp} {k : Nat} (h : k < l.length) : (l.take (k + 1)).filter p = (l.take k).filter p ++ (if p l[k] then [l[k]] else []) := by
  rw [List.take_succ_eq_append_getElem h, List.filter_append]
  congr 1
  simp [List.filter_cons]

end Go.Proofs.Ythmiocbihhbdpaa

namespace Go.Proofs.Ythmiocbihhbdpaa
open Go.RowKit

/-- A row of eight bools. -/
def octA (v : Nat → Bool) : Value := .agg #[.bool (v 0), .bool (v 1), .bool (v 2), .bool (v 3), .bool (v 4), .bool (v 5), .bool (v 6), .bool (v 7)]
theorem octA_congr {v u : Nat → Bool} (h : ∀ q, q < 8 → v q = u q) : octA v = octA u := by
  unfold octA
  rw [h 0 (by omega), h 1 (by omega), h 2 (by omega), h 3 (by omega), h 4 (by omega), h 5 (by omega), h 6 (by omega), h 7 (by omega)]
theorem ret_oct {v u : Nat → Bool} (h : ∀ q, q < 8 → v q = u q) : Ending.returned (octA v) = .returned (octA u) := by rw [octA_congr h]
theorem all8 {P : Nat → Prop} (h0 : P 0) (h1 : P 1) (h2 : P 2) (h3 : P 3) (h4 : P 4) (h5 : P 5) (h6 : P 6) (h7 : P 7) : ∀ q, q < 8 → P q := fun q hq => by
  rcases (by omega : q = 0 ∨ q = 1 ∨ q = 2 ∨ q = 3 ∨ q = 4 ∨ q = 5 ∨ q = 6 ∨ q = 7) with rfl | rfl | rfl | rfl | rfl | rfl | rfl | rfl <;> assumption
/-- A row of eight bools in memory. -/
def OctIn (w : World) (g off : Nat) (v : Nat → Bool) : Prop := ∀ q, q < 8 → w.cell? ⟨g, off + q, none⟩ = some (.bool (v q))
theorem OctIn.eight {w : World} {g off : Nat} {v : Nat → Bool} (h : OctIn w g off v) : w.cell? ⟨g, off, none⟩ = some (.bool (v 0)) ∧ w.cell? ⟨g, off + 1, none⟩ = some (.bool (v 1)) ∧ w.cell? ⟨g, off + 2, none⟩ = some (.bool (v 2)) ∧ w.cell? ⟨g, off + 3, none⟩ = some (.bool (v 3)) ∧ w.cell? ⟨g, off + 4, none⟩ = some (.bool (v 4)) ∧ w.cell? ⟨g, off + 5, none⟩ = some (.bool (v 5)) ∧ w.cell? ⟨g, off + 6, none⟩ = some (.bool (v 6)) ∧ w.cell? ⟨g, off + 7, none⟩ = some (.bool (v 7)) :=
  ⟨h 0 (by omega), h 1 (by omega), h 2 (by omega), h 3 (by omega), h 4 (by omega), h 5 (by omega), h 6 (by omega), h 7 (by omega)⟩
theorem OctIn.below {B : Nat} {w w' : World} {g off : Nat} {v : Nat → Bool} (h : OctIn w g off v) (hb : Below B w w') (hg : g < B) : OctIn w' g off v := fun q hq => (hb.cell (p := ⟨g, off + q, none⟩) hg).trans (h q hq)
theorem OctIn.same {w : World} {g off : Nat} {v u : Nat → Bool} (h : OctIn w g off v) (e : ∀ q, q < 8 → v q = u q) : OctIn w g off u := fun q hq => by rw [← e q hq]; exact h q hq
def octO (v : Nat → Bool) (t : Nat) : Obj := .cells #[.bool (v 0), .bool (v 1), .bool (v 2), .bool (v 3), .bool (v 4), .bool (v 5), .bool (v 6), .bool (v 7)] t
theorem octIn_new (w : World) (v : Nat → Bool) (t : Nat) : OctIn (w.alloc (octO v t)) w.heap.size 0 v := fun q hq => by
  unfold octO
  rw [Nat.zero_add, cell_of_row _ w.heap.size q _ t _ (heap_alloc_new w _)]
  exact all8 (P := fun q => (#[Value.bool (v 0), .bool (v 1), .bool (v 2), .bool (v 3), .bool (v 4), .bool (v 5), .bool (v 6), .bool (v 7)])[q]? = some (.bool (v q))) rfl rfl rfl rfl rfl rfl rfl rfl q hq
theorem OctIn.alloc {w : World} {g off : Nat} {v : Nat → Bool} (h : OctIn w g off v) (o : Obj) : OctIn (w.alloc o) g off v := fun q hq => by
  have := h q hq
  rw [World.cell?_alloc_lt _ _ ⟨g, off + q, none⟩ (World.block_lt_of_cell? w _ this)]
  exact this
theorem OctIn.put {w : World} {g off : Nat} {v : Nat → Bool} (h : OctIn w g off v) {m : Nat} (hm : m < 8) (x : Bool) : OctIn (w.setCell ⟨g, off + m, none⟩ (.bool x)) g off (fun q => if q = m then x else v q) := fun q hq => by
  by_cases e : q = m
  · subst e
    simp only [if_true]
    exact World.cell?_setCell_same _ _ _ (h q hq)
  · simp only [if_neg e]
    rw [World.cell?_setCell_other _ _ _ _ (offN (by omega))]
    exact h q hq

/-- A row of eight bools in a block of its own. -/
structure OctB (w : World) (g : Nat) (v : Nat → Bool) : Prop where
  blk : ∃ cur t, w.heap[g]? = some (.cells cur t (0, 0))
  at_ : OctIn w g 0 v
theorem OctB.lt {w : World} {g : Nat} {v : Nat → Bool} (h : OctB w g v) : g < w.heap.size := by
  obtain ⟨cur, t, hc⟩ := h.blk
  exact lt_of_heap hc
theorem OctB.fz {w : World} {g : Nat} {v : Nat → Bool} (h : OctB w g v) (i : Nat) : w.frozen? ⟨g, i, none⟩ = false := by
  obtain ⟨cur, t, hc⟩ := h.blk
  exact frozen_of_row w g i cur t hc
theorem OctB.same {w : World} {g : Nat} {v u : Nat → Bool} (h : OctB w g v) (e : ∀ q, q < 8 → v q = u q) : OctB w g u := ⟨h.blk, h.at_.same e⟩
theorem OctB.block {w w' : World} {g : Nat} {v : Nat → Bool} (h : OctB w g v) (hb : w'.heap[g]? = w.heap[g]?) : OctB w' g v := by
  obtain ⟨cur, t, hc⟩ := h.blk
  exact ⟨⟨cur, t, hb.trans hc⟩, fun k hk => (World.cell?_of_block (a := ⟨g, 0 + k, none⟩) hb).trans (h.at_ k hk)⟩
theorem OctB.below {B : Nat} {w w' : World} {g : Nat} {v : Nat → Bool} (h : OctB w g v) (hb : Below B w w') (hg : g < B) : OctB w' g v := h.block (hb.block g hg)
theorem OctB.other {w : World} {g : Nat} {v : Nat → Bool} (h : OctB w g v) {p : Addr} (hp : g ≠ p.block) (x : Value) : OctB (w.setCell p x) g v := h.block (Below.heap_setCell w p x g hp)
theorem OctB.put {w : World} {g : Nat} {v : Nat → Bool} (h : OctB w g v) {m : Nat} (hm : m < 8) (x : Bool) : OctB (w.setCell ⟨g, m, none⟩ (.bool x)) g (fun q => if q = m then x else v q) := by
  obtain ⟨cur, t, hc⟩ := h.blk
  obtain ⟨cur', hc', _⟩ := heap_setCell hc m (.bool x)
  have := h.at_.put hm x
  rw [Nat.zero_add] at this
  exact ⟨⟨cur', t, hc'⟩, this⟩
theorem OctB.alloc {w : World} {g : Nat} {v : Nat → Bool} (h : OctB w g v) (o : Obj) : OctB (w.alloc o) g v := h.below ((Below.refl _ _).alloc (Nat.le_refl _) o) h.lt
theorem octB_new (w : World) (v : Nat → Bool) (t : Nat) : OctB (w.alloc (octO v t)) w.heap.size v := ⟨⟨_, t, heap_alloc_new w _⟩, octIn_new w v t⟩
theorem OctB.eight {w : World} {g : Nat} {v : Nat → Bool} (h : OctB w g v) : w.cell? ⟨g, 0, none⟩ = some (.bool (v 0)) ∧ w.cell? ⟨g, 1, none⟩ = some (.bool (v 1)) ∧ w.cell? ⟨g, 2, none⟩ = some (.bool (v 2)) ∧ w.cell? ⟨g, 3, none⟩ = some (.bool (v 3)) ∧ w.cell? ⟨g, 4, none⟩ = some (.bool (v 4)) ∧ w.cell? ⟨g, 5, none⟩ = some (.bool (v 5)) ∧ w.cell? ⟨g, 6, none⟩ = some (.bool (v 6)) ∧ w.cell? ⟨g, 7, none⟩ = some (.bool (v 7)) := by
  simpa using h.at_.eight
theorem OctB.at' {w : World} {g : Nat} {v : Nat → Bool} (h : OctB w g v) {q : Nat} (hq : q < 8) : w.cell? ⟨g, q, none⟩ = some (.bool (v q)) := by
  have := h.at_ q hq
  rwa [Nat.zero_add] at this

def octL (v : Nat → Bool) : List Value := [.bool (v 0), .bool (v 1), .bool (v 2), .bool (v 3), .bool (v 4), .bool (v 5), .bool (v 6), .bool (v 7)]
theorem octL_at (v : Nat → Bool) {j : Nat} {u : Value} (h : (octL v)[j]? = some u) : j < 8 ∧ u = .bool (v j) := by
  have hj : j < 8 := (List.getElem?_eq_some_iff.1 h).1
  refine ⟨hj, ?_⟩
  have := all8 (P := fun j => (octL v)[j]? = some (.bool (v j))) rfl rfl rfl rfl rfl rfl rfl rfl j hj
  rw [this] at h
  exact (Option.some.inj h).symm
theorem OctIn.range {w : World} {g off : Nat} {v : Nat → Bool} (h : OctIn w g off v) : w.rangeAt g off (octL v) := fun j u hu => by
  obtain ⟨hj, rfl⟩ := octL_at v hu
  exact h j hj
theorem load71 {w : World} {g off : Nat} {v : Nat → Bool} (h : OctIn w g off v) : (loadVar 62 ⟨g, off, none⟩).run Try.prog w = .ok (octA v) w :=
  run_loadVar_mid w g off 62 (octL v) _ h.range Try.underlying62 rfl (by kernel_rfl)
theorem OctB.store {w : World} {g : Nat} {v : Nat → Bool} (h : OctB w g v) (u : Nat → Bool) : OctB (w.setCells g 0 (octL u)) g u :=
  ((((((((h.put (m := 0) (by omega) (u 0)).put (m := 1) (by omega) (u 1)).put (m := 2) (by omega) (u 2)).put (m := 3) (by omega) (u 3)).put (m := 4) (by omega) (u 4)).put (m := 5) (by omega) (u 5)).put (m := 6) (by omega) (u 6)).put (m := 7) (by omega) (u 7)).same
    (all8 rfl rfl rfl rfl rfl rfl rfl rfl)
end Go.Proofs.Ythmiocbihhbdpaa

namespace Go.Proofs.Ythmiocbihhbdpaa
open Go.RowKit

def txB (t : Int) : Bool := decide (0 ≤ t) && decide (t < 8)
set_option maxRecDepth 100000 in
theorem isTx_any (t : Int) (w : World) : Calls Try.prog 34 #[.int .i64 t] w fun e w' => e = .returned (.bool (txB t)) ∧ w' = w := by
  unfold txB
  go_enter Try.func34, Try.ntmps34
  by_cases h : 0 ≤ t
  · by_cases h2 : t < 8
    · rw [decide_eq_true h, decide_eq_true h2]
      go_wp2
      go_ret
      exact ⟨rfl, rfl⟩
    · rw [decide_eq_true h, decide_eq_false h2]
      go_wp2
      go_ret
      exact ⟨rfl, rfl⟩
  · rw [decide_eq_false h]
    go_wp2
    go_ret
    exact ⟨rfl, rfl⟩
theorem txB_iff {t : Int} : txB t = true ↔ 0 ≤ t ∧ t ≤ 7 := by
  unfold txB
  simp
  omega

set_option maxRecDepth 100000 in
set_option maxHeartbeats 2000000 in
theorem fault_any (s : Stp) (w : World) : Calls Try.prog 35 #[s.agg] w fun e w' => e = .returned (.int .i64 (fltR s)) ∧ Below w.heap.size w w' := by
  have HX := hideIt (isTx_any s.p (w.alloc (.cells #[.int .i64 s.p, .int .i64 s.k, .int .i64 s.m] 40)))
  have HB : Hid (Below w.heap.size w (w.alloc (.cells #[.int .i64 s.p, .int .i64 s.k, .int .i64 s.m] 40))) := belA (Below.refl _ _) _
  have c1 : (w.alloc (.cells #[.int .i64 s.p, .int .i64 s.k, .int .i64 s.m] 40)).cell? ⟨w.heap.size, 1, none⟩ = some (.int .i64 s.k) := by simp
  have c2 : (w.alloc (.cells #[.int .i64 s.p, .int .i64 s.k, .int .i64 s.m] 40)).cell? ⟨w.heap.size, 2, none⟩ = some (.int .i64 s.m) := by simp
  have hT := @txB_iff s.p
  have HR : Hid (fltR s = if s.p < 0 ∨ 7 < s.p ∨ s.m < 0 ∨ 7 < s.m then 2 else if s.k < 1 ∨ 4 < s.k ∨ (2 < s.k ∧ s.m ≠ 0) then 1 else 0) := rfl
  generalize fltR s = r at HR ⊢
  unfold Stp.agg
  obtain ⟨p, k, m⟩ := s
  dsimp only at *
  go_enter Try.func35, Try.ntmps35
  go_wp2_with fail
  refine HX.out.mono ?_
  clear HX
  rintro e w1 ⟨rfl, rfl⟩
  generalize w.alloc _ = W at HB c1 c2 ⊢
  generalize txB p = tb at hT ⊢
  cases tb
  · rw [if_pos (by have : ¬ (0 ≤ p ∧ p ≤ 7) := fun h => by have := hT.2 h; cases this
                   omega)] at HR
    clear hT c1 c2
    go_wp2
    go_ret
    exact ⟨ret_int HR.out.symm, HB.out⟩
  · have hp := hT.1 rfl
    clear hT
    by_cases hm1 : m < 0
    · rw [if_pos (by omega)] at HR
      go_wp2
      go_ret
      exact ⟨ret_int HR.out.symm, HB.out⟩
    · by_cases hm2 : 8 ≤ m
      · rw [if_pos (by omega)] at HR
        go_wp2
        go_ret
        exact ⟨ret_int HR.out.symm, HB.out⟩
      · rw [if_neg (by omega)] at HR
        by_cases hk1 : k < 1
        · rw [if_pos (by omega)] at HR
          go_wp2
          go_ret
          exact ⟨ret_int HR.out.symm, HB.out⟩
        · by_cases hk2 : 4 < k
          · rw [if_pos (by omega)] at HR
            go_wp2
            go_ret
            exact ⟨ret_int HR.out.symm, HB.out⟩
          · by_cases hk3 : 3 ≤ k
            · by_cases hm3 : m = 0
              · subst hm3
                rw [if_neg (by omega)] at HR
                go_wp2
                go_ret
                exact ⟨ret_int HR.out.symm, HB.out⟩
              · rw [if_pos (by omega)] at HR
                go_wp2
                go_ret
                exact ⟨ret_int HR.out.symm, HB.out⟩
            · rw [if_neg (by omega)] at HR
              go_wp2
              go_ret
              exact ⟨ret_int HR.out.symm, HB.out⟩
end Go.Proofs.Ythmiocbihhbdpaa
