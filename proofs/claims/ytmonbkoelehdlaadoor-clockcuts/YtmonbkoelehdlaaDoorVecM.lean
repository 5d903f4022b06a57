/-
  A row of vectors in a block of its own.
-/
import Derived.Test.YtmonbkoelehdlaaDoorIntM
namespace Go.Proofs.YtmonbkoelehdlaaDoor
open Go.RowKit

structure VecsB (w : World) (g n : Nat) (f : Nat → Nat → Int) : Prop where
  blk : ∃ cur t, w.heap[g]? = some (.cells cur t (0, 0))
  at_ : ∀ k, k < n → VecIn w g (k * 8) (f k)
theorem VecsB.lt {w : World} {g n : Nat} {f : Nat → Nat → Int} (h : VecsB w g n f) : g < w.heap.size := by
  obtain ⟨cur, t, hc⟩ := h.blk
  exact lt_of_heap hc
theorem VecsB.fz {w : World} {g n : Nat} {f : Nat → Nat → Int} (h : VecsB w g n f) (i : Nat) : w.frozen? ⟨g, i, none⟩ = false := by
  obtain ⟨cur, t, hc⟩ := h.blk
  exact frozen_of_row w g i cur t hc
theorem VecsB.block {w w' : World} {g n : Nat} {f : Nat → Nat → Int} (h : VecsB w g n f) (hb : w'.heap[g]? = w.heap[g]?) : VecsB w' g n f := by
  obtain ⟨cur, t, hc⟩ := h.blk
  exact ⟨⟨cur, t, hb.trans hc⟩, fun k hk q hq => (World.cell?_of_block (a := ⟨g, k * 8 + q, none⟩) hb).trans (h.at_ k hk q hq)⟩
theorem VecsB.below {B : Nat} {w w' : World} {g n : Nat} {f : Nat → Nat → Int} (h : VecsB w g n f) (hb : Below B w w') (hg : g < B) : VecsB w' g n f := h.block (hb.block g hg)
theorem VecsB.same {w : World} {g n : Nat} {f f' : Nat → Nat → Int} (h : VecsB w g n f) (e : ∀ k q, k < n → q < 8 → f k q = f' k q) : VecsB w g n f' := ⟨h.blk, fun k hk => (h.at_ k hk).same fun q hq => e k q hk hq⟩
theorem VecsB.put {w : World} {g n : Nat} {f : Nat → Nat → Int} (h : VecsB w g n f) {k p : Nat} (hp : p < 8) (x : Int) : VecsB (w.setCell ⟨g, k * 8 + p, none⟩ (.int .i64 x)) g n (fun i q => if i = k ∧ q = p then x else f i q) := by
  obtain ⟨cur, t, hc⟩ := h.blk
  obtain ⟨cur', hc', _⟩ := heap_setCell hc (k * 8 + p) (.int .i64 x)
  refine ⟨⟨cur', t, hc'⟩, fun i hi q hq => ?_⟩
  by_cases e : i = k ∧ q = p
  · obtain ⟨rfl, rfl⟩ := e
    simp only [and_self, if_true]
    exact World.cell?_setCell_same _ _ _ (h.at_ i hi q hq)
  · simp only [if_neg e]
    rw [World.cell?_setCell_other _ _ _ _ (offN (by omega))]
    exact h.at_ i hi q hq
theorem VecsB.store {w : World} {g n : Nat} {f : Nat → Nat → Int} (h : VecsB w g n f) {k : Nat} (hk : k < n) (u : Nat → Int) : VecsB (w.setCells g (k * 8) (vecL u)) g n (fun i q => if i = k then u q else f i q) := by
  refine (((((((((h.put (k := k) (p := 0) (by omega) (u 0)).put (k := k) (p := 1) (by omega) (u 1)).put (k := k) (p := 2) (by omega) (u 2)).put (k := k) (p := 3) (by omega) (u 3)).put (k := k) (p := 4) (by omega) (u 4)).put (k := k) (p := 5) (by omega) (u 5)).put (k := k) (p := 6) (by omega) (u 6)).put (k := k) (p := 7) (by omega) (u 7)).same ?_)
  intro i q _ hq
  by_cases e : i = k
  · subst e
    simp only [true_and, if_true]
    exact all8 (P := fun q => (if q = 7 then u 7 else if q = 6 then u 6 else if q = 5 then u 5 else if q = 4 then u 4 else if q = 3 then u 3 else if q = 2 then u 2 else if q = 1 then u 1 else if q = 0 then u 0 else f i q) = u q) rfl rfl rfl rfl rfl rfl rfl rfl q hq
  · simp [e]
theorem info45 : (Tryd.prog.info? 45).map (fun i => (i.zero, i.size, i.bytes)) = some (some (vecA fun _ => 0), 8, 64) := by kernel_rfl
theorem made39 (w : World) (n : Nat) (hn : n ≤ 60) : (Instr.makeSlice 39 (.int .i64 (n : Int)) (.int .i64 (n : Int))).run Tryd.prog w = .ok (.slice (some ⟨w.heap.size, 0, none⟩) n n) (w.alloc (.cells (madeCells (vecL fun _ => 0).toArray (n * 8)) 45)) := by
  obtain ⟨i, hi, hz, hs, hb⟩ := info_parts' info45
  have := run_make (P := Tryd.prog) w 39 45 i (vecA fun _ => 0) Tryd.underlying39 hi hz .i64 .i64 (n : Int) (n : Int) (by omega) (Int.le_refl _) (by rw [hb]; omega) (by omega)
  have e : (vecA fun _ => 0).cells = (vecL fun _ => 0).toArray := rfl
  rw [e] at this
  simpa [hs] using this
theorem vecsB_made (w : World) (n : Nat) : VecsB (w.alloc (.cells (madeCells (vecL fun _ => 0).toArray (n * 8)) 45)) w.heap.size n (fun _ _ => 0) := by
  refine ⟨⟨_, _, heap_alloc_new w _⟩, fun k hk q hq => ?_⟩
  rw [cell_of_row _ w.heap.size _ _ 45 _ (heap_alloc_new w _)]
  have e1 : (k * 8 + q) % 8 = q := by omega
  have h8 : k * 8 + q < n * 8 := by omega
  have h2 := all8 (P := fun q => (vecL fun _ => 0)[q]? = some (Value.int .i64 0)) rfl rfl rfl rfl rfl rfl rfl rfl q hq
  simp [madeCells, h8]
  rw [show (vecL fun _ => 0).length = 8 from rfl, e1, h2]
  rfl

/-- What all of them know, joined. -/
def jn (vec : Nat → Nat → Int) (L : List Nat) : Nat → Int := L.foldl (fun v j => joinV v (vec j)) fun _ => 0
theorem jn_next (vec : Nat → Nat → Int) (L : List Nat) {r : Nat} (h : r < L.length) : joinV (jn vec (L.take r)) (vec L[r]) = jn vec (L.take (r + 1)) := by
  unfold jn
  rw [List.take_succ_eq_append_getElem h, List.foldl_append]
  rfl
def vecI (l : List Stp) (k q : Nat) : Int := (vecC l k (q : Int) : Int)
theorem jn_pred (l : List Stp) (k q : Nat) : jn (vecI l) (predC l k) q = ((max (pastV l (prevC l k) q) (pastV l (srcC l k) q) : Nat) : Int) := by
  unfold jn predC
  cases prevC l k <;> cases srcC l k <;> simp [pastV, joinV, vecI] <;> (repeat' split) <;> omega
theorem vec_next {l : List Stp} (ok : ClOk l) {k p : Nat} (hk : k < l.length) (hp : (stZ l k).p = (p : Int)) (q : Nat) : vecI l k q = if q = p then jn (vecI l) (predC l k) q + 1 else jn (vecI l) (predC l k) q := by
  rw [jn_pred]
  show (vecC l k (q : Int) : Int) = _
  rw [vec_step ok hk, hp]
  by_cases e : q = p
  · subst e; rw [if_pos rfl, if_pos rfl]; omega
  · rw [if_neg (by omega), if_neg e]; omega
theorem cnt_len (l : List Stp) (S : Nat → Bool) (q : Int) : cntC l S q ≤ l.length := by
  unfold cntC
  have := List.countP_le_length (p := fun i => S i && (stZ l i).p == q) (l := List.range l.length)
  simpa using this
theorem vecI_num (l : List Stp) (k q : Nat) : 0 ≤ vecI l k q ∧ vecI l k q ≤ l.length := by
  have := cnt_len l (inC l k) (q : Int)
  unfold vecI vecC
  omega
theorem jn_num (l : List Stp) (k q : Nat) : 0 ≤ jn (vecI l) (predC l k) q ∧ jn (vecI l) (predC l k) q ≤ l.length := by
  rw [jn_pred]
  have h : ∀ o, pastV l o (q : Int) ≤ l.length := fun o => by
    cases o with
    | none => exact Nat.zero_le _
    | some j => exact cnt_len l (inC l j) (q : Int)
  have h1 := h (prevC l k)
  have h2 := h (srcC l k)
  omega
/-- Vectors, up to a step. -/
def vcF (l : List Stp) (k : Nat) (v : Nat → Int) (i q : Nat) : Int := if i < k then vecI l i q else if i = k then v q else 0
end Go.Proofs.YtmonbkoelehdlaaDoor
