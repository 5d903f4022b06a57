/-
  What each process knows behind so many of its steps, in memory.
-/
import Derived.Test.YtmonbkoelehdlaaDoorVcW
namespace Go.Proofs.YtmonbkoelehdlaaDoor
open Go.RowKit

/-! ### plain -/
def idxP (l : List Stp) (k p : Nat) : List Nat := (List.range k).filter fun i => (stZ l i).p == (p : Int)
theorem idxP_succ (l : List Stp) (k p : Nat) : idxP l (k + 1) p = if (stZ l k).p = (p : Int) then idxP l k p ++ [k] else idxP l k p := by
  unfold idxP
  rw [List.range_succ, List.filter_append]
  by_cases e : (stZ l k).p = (p : Int) <;> simp [e]
theorem idxP_len (l : List Stp) (p : Nat) : (idxP l l.length p).length = allC l (p : Int) := by
  unfold idxP allC cntC
  rw [← List.countP_eq_length_filter]
  simp
theorem idxP_few (l : List Stp) (k p : Nat) : (idxP l k p).length ≤ k := by
  unfold idxP
  have := List.length_filter_le (fun i => (stZ l i).p == (p : Int)) (List.range k)
  rwa [List.length_range] at this
theorem idxP_at (l : List Stp) (p i : Nat) (hp : (stZ l i).p = (p : Int)) : ∀ k, i < k → (idxP l k p)[rkC l i - 1]? = some i
  | 0, h => absurd h (by omega)
  | k + 1, h => by
    rw [idxP_succ]
    by_cases e : i = k
    · subst e
      rw [if_pos hp]
      have hr : rkC l i - 1 = (idxP l i p).length := by
        unfold rkC idxP
        rw [List.range_succ, List.countP_append, ← List.countP_eq_length_filter]
        simp [hp]
      rw [hr, List.getElem?_append_right (Nat.le_refl _)]
      simp
    · have ih := idxP_at l p i hp k (by omega)
      have hlt : rkC l i - 1 < (idxP l k p).length := (List.getElem?_eq_some_iff.1 ih).1
      split
      · rw [List.getElem?_append_left hlt]; exact ih
      · exact ih
/-- The vectors of a path. -/
def pthV (l : List Stp) (k p r : Nat) : Nat → Int := match r with
  | 0 => fun _ => 0
  | r + 1 => vecI l ((idxP l k p).getD r 0)
theorem pthV_kn {l : List Stp} {p r : Nat} (h : r ≤ allC l (p : Int)) (q : Nat) : pthV l l.length p r q = (knC l (p : Int) r (q : Int) : Int) := by
  cases r with
  | zero => rw [kn_zero]; rfl
  | succ r =>
    obtain ⟨i, hi, hp, hr⟩ := nth_some (l := l) (p := (p : Int)) (r := r + 1) (by omega) h
    have := idxP_at l p i hp l.length hi
    rw [hr, Nat.add_sub_cancel] at this
    show vecI l ((idxP l l.length p).getD r 0) q = _
    rw [List.getD_eq_getElem?_getD, this]
    show (vecC l i (q : Int) : Int) = _
    rw [← hp, ← hr, kn_at hi]

/-! ### rows of vectors appended to -/
def vecsC (L : List (Nat → Int)) : List Value := L.flatMap vecL
theorem vecsC_app (L : List (Nat → Int)) (v : Nat → Int) : vecsC (L ++ [v]) = vecsC L ++ vecL v := by simp [vecsC]
theorem vecsC_at : ∀ (L : List (Nat → Int)) (k j : Nat) (hk : k < L.length), j < 8 → (vecsC L)[k * 8 + j]? = some (.int .i64 (L[k] j))
  | [], k, _, hk, _ => absurd hk (by simp)
  | v :: L, 0, j, _, hj => by
    show (vecL v ++ vecsC L)[0 * 8 + j]? = _
    rw [List.getElem?_append_left (by show 0 * 8 + j < 8; omega), Nat.zero_mul, Nat.zero_add]
    exact all8 (P := fun j => (vecL v)[j]? = some (.int .i64 (v j))) rfl rfl rfl rfl rfl rfl rfl rfl j hj
  | v :: L, k + 1, j, hk, hj => by
    show (vecL v ++ vecsC L)[(k + 1) * 8 + j]? = _
    rw [List.getElem?_append_right (by show 8 ≤ (k + 1) * 8 + j; omega)]
    have := vecsC_at L k j (by simpa using hk) hj
    rw [show (k + 1) * 8 + j - (vecL v).length = k * 8 + j by show (k + 1) * 8 + j - 8 = _; omega, this]
    simp
theorem run_appV {w : World} {base B : Nat} {v : Value} {n : Nat} {L : List (Nat → Int)} {u : Nat → Int} (hown : w.ownsRow base 45 8 v n (vecsC L)) (hB : VecIn w B 0 u) (hb : base ≤ w.heap.size) (hlen : n ≤ 1000) (ty : TypeId) :
    ∃ v' w', (Builtin.append_ #[39, 39] ty #[v, .slice (some ⟨B, 0, none⟩) 1 1]).run Tryd.prog w = .ok v' w' ∧ w'.ownsRow base 45 8 v' (n + 1) (vecsC (L ++ [u])) ∧ w.grownBy w' v.ownBlock ∧ (v'.ownBlock = v.ownBlock ∨ v'.ownBlock = some w.heap.size) := by
  obtain ⟨i, hi, hz, hsz, hby⟩ := info_parts' info45
  have hnews : ∀ j x, (vecL u)[j]? = some x → w.cell? ((⟨B, 0, none⟩ : Addr).add j) = some x := by
    intro j x hj
    obtain ⟨h8, rfl⟩ := vecL_at u hj
    rw [Addr.add_mid]
    exact hB j h8
  have h1 : ∀ x ∈ vecL u, x.oneCell' = true := fun x hx => by
    obtain ⟨j, hj, rfl⟩ := List.getElem_of_mem hx
    obtain ⟨_, e⟩ := vecL_at u (List.getElem?_eq_getElem hj)
    rw [e]; rfl
  obtain ⟨v', w', hr, ho, hg, _, hob⟩ := run_append_own_at (P := Tryd.prog) (w := w) base 39 ty 45 i _ 8 64 Tryd.underlying39 hi hz hsz hby rfl (by decide) v _ _ hown ⟨B, 0, none⟩ 1 1 (vecL u) rfl hnews h1 (by unfold maxLen; omega) (by omega) hb
  exact ⟨v', w', hr, by rw [vecsC_app]; exact ho, hg, hob⟩
theorem vecs_read {w : World} {base : Nat} {v : Value} {L : List (Nat → Int)} (h : w.ownsRow base 45 8 v L.length (vecsC L)) (h0 : 0 < L.length) : ∃ g cap, v = .slice (some ⟨g, 0, none⟩) L.length cap ∧ L.length ≤ cap ∧ g < w.heap.size ∧ ∀ k (hk : k < L.length), VecIn w g (k * 8) L[k] := by
  obtain ⟨hl, ⟨rfl, hz⟩ | ⟨g, cap, cur, rfl, hb, hh, h1, h2, h3, h4⟩⟩ := h
  · omega
  · refine ⟨g, cap, rfl, h1, lt_of_heap hh, fun k hk q hq => ?_⟩
    rw [cell_of_row _ _ _ _ 45 _ hh]
    have e : (cur.toList.take (L.length * 8))[k * 8 + q]? = (vecsC L)[k * 8 + q]? := by rw [h4]
    rw [List.getElem?_take_of_lt (by omega), Array.getElem?_toList] at e
    rw [e]
    exact vecsC_at L k q hk hq
theorem made39one (w : World) : (Instr.makeSlice 39 (.int .i64 1) (.int .i64 1)).run Tryd.prog w = .ok (.slice (some ⟨w.heap.size, 0, none⟩) 1 1) (w.alloc (.cells (vecL fun _ => 0).toArray 45)) := by
  have := made39 w 1 (by omega)
  have e : madeCells (vecL fun _ => 0).toArray (1 * 8) = (vecL fun _ => 0).toArray := by
    refine Array.ext (by rw [size_madeCells]; rfl) fun i h1 h2 => ?_
    have h8 : i < 8 := h2
    have e2 : (madeCells (vecL fun _ => 0).toArray (1 * 8))[i]? = some (.int .i64 0) := by
      have h3 := all8 (P := fun q => (vecL fun _ => 0)[q]? = some (Value.int .i64 0)) rfl rfl rfl rfl rfl rfl rfl rfl i h8
      simp [madeCells, h8]
      rw [show (vecL fun _ => 0).length = 8 from rfl, Nat.mod_eq_of_lt h8, h3]; rfl
    have e3 : ((vecL fun _ => 0).toArray)[i]? = some (Value.int .i64 0) := all8 (P := fun q => ((vecL fun _ => 0).toArray)[q]? = some (Value.int .i64 0)) rfl rfl rfl rfl rfl rfl rfl rfl i h8
    rw [Array.getElem?_eq_getElem h1] at e2
    rw [Array.getElem?_eq_getElem h2] at e3
    exact Option.some.inj (e2.trans e3.symm)
  rw [e] at this
  exact this
theorem owns_one (w : World) (base : Nat) (hb : base ≤ w.heap.size) : (w.alloc (.cells (vecL fun _ => 0).toArray 45)).ownsRow base 45 8 (.slice (some ⟨w.heap.size, 0, none⟩) 1 1) 1 (vecsC [fun _ => 0]) :=
  ⟨rfl, .inr ⟨w.heap.size, 1, _, rfl, hb, heap_alloc_new w _, Nat.le_refl _, by decide, rfl, rfl⟩⟩

/-- Paths as a value. -/
def pthA (vs : Nat → Value) : Value := .agg #[vs 0, vs 1, vs 2, vs 3, vs 4, vs 5, vs 6, vs 7]
/-- What paths tell. -/
def KnRead (l : List Stp) (w : World) (vs : Nat → Value) : Prop := ∀ p, p < 8 → ∃ g cap, vs p = .slice (some ⟨g, 0, none⟩) (allC l (p : Int) + 1) cap ∧ allC l (p : Int) + 1 ≤ cap ∧ g < w.heap.size ∧ ∀ r, r ≤ allC l (p : Int) → VecIn w g (r * 8) (fun q => (knC l (p : Int) r (q : Int) : Int))
theorem KnRead.below {l : List Stp} {w w' : World} {vs : Nat → Value} (h : KnRead l w vs) (hb : Below w.heap.size w w') : KnRead l w' vs := fun p hp => by
  obtain ⟨g, cap, h1, h2, h3, h4⟩ := h p hp
  exact ⟨g, cap, h1, h2, Nat.lt_of_lt_of_le h3 hb.size, fun r hr => (h4 r hr).below hb h3⟩

def pthL (l : List Stp) (k p : Nat) : List (Nat → Int) := (fun _ => 0) :: (idxP l k p).map (vecI l)
theorem pthL_len (l : List Stp) (k p : Nat) : (pthL l k p).length = (idxP l k p).length + 1 := by simp [pthL]
theorem pthL_put {l : List Stp} {k p : Nat} (h : (stZ l k).p = (p : Int)) : pthL l (k + 1) p = pthL l k p ++ [vecI l k] := by
  unfold pthL
  rw [idxP_succ, if_pos h]
  simp
theorem pthL_keep {l : List Stp} {k p : Nat} (h : (stZ l k).p ≠ (p : Int)) : pthL l (k + 1) p = pthL l k p := by
  unfold pthL
  rw [idxP_succ, if_neg h]
def PaTab (l : List Stp) (base T : Nat) (w : World) (k : Nat) (vs : Nat → Value) : Prop := TabN w base T 78 45 8 8 vs (fun p => vecsC (pthL l k p)) (fun p => (pthL l k p).length)
theorem PaTab.read {l : List Stp} {base T : Nat} {w : World} {vs : Nat → Value} (h : PaTab l base T w l.length vs) : KnRead l w vs := fun p hp => by
  obtain ⟨g, cap, e, hc, hg, hr⟩ := vecs_read (h.rows p hp) (by rw [pthL_len]; omega)
  have hl : (pthL l l.length p).length = allC l (p : Int) + 1 := by rw [pthL_len, idxP_len]
  rw [hl] at e hc
  refine ⟨g, cap, e, hc, hg, fun r hr' => (hr r (by omega)).same fun q hq => ?_⟩
  rw [← pthV_kn hr' q]
  unfold pthL pthV
  cases r with
  | zero => rfl
  | succ r =>
    have : r < (idxP l l.length p).length := by rw [idxP_len]; omega
    simp [this]
end Go.Proofs.YtmonbkoelehdlaaDoor
