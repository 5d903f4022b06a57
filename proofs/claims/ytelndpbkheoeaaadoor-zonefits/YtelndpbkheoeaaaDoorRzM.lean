/-
  The document's own list of zones in memory: put in by append, copy and store.
-/
import Derived.Test.YtelndpbkheoeaaaDoorSortZ
import Derived.Laws.IdiomCopy
namespace Go.Proofs.YtelndpbkheoeaaaDoor
open Go.RowKit

section
variable {P : Program}
/-- copy at elements of four cells. -/
theorem run_copy_cells4 (w : World) (dT sT ty elem : TypeId) (b o dLen dCap : Nat) (a : Addr) (sLen sCap : Nat) (cs : List Value)
    (hu : P.underlying dT = some (.slice elem)) (hs : (P.info? elem).map (·.size) = some 4) (hn : cs.length = Nat.min sLen dLen * 4)
    (hsrc : ∀ j v, cs[j]? = some v → w.cell? (a.add j) = some v) (hc : ∀ j, j < cs.length → (w.cell? ⟨b, o + j, none⟩).isSome = true) (hf : ∀ j, j < cs.length → w.frozen? ⟨b, o + j, none⟩ = false) (h1 : ∀ v ∈ cs, v.oneCell' = true) :
    (Builtin.copy_ #[dT, sT] ty #[.slice (some ⟨b, o, none⟩) dLen dCap, .slice (some a) sLen sCap]).run P w = .ok (goInt (Nat.min sLen dLen)) (w.setCells b o cs) := by
  have hl := run_loadCells_list (P := P) w a cs hsrc
  have hst := run_storeCells_cells (P := P) b o cs 0 w (by simpa using hc) (by simpa using hf) h1
  cases hq : P.info? elem with
  | none => simp [hq] at hs
  | some i =>
    have hi : i.size = 4 := by simpa [hq] using hs
    simp [Builtin.copy_, run_underlying hu, Builtin.lenOf, Builtin.firstCells, sizeOf, typeInfo, hq, hi, ← hn, hl, hst]
theorem run_copy_none4 (w : World) (dT sT ty elem : TypeId) (d a : Option Addr) (dLen dCap sLen sCap : Nat) (hu : P.underlying dT = some (.slice elem)) (hs : (P.info? elem).map (·.size) = some 4) (hn : Nat.min sLen dLen = 0) :
    (Builtin.copy_ #[dT, sT] ty #[.slice d dLen dCap, .slice a sLen sCap]).run P w = .ok (goInt 0) w := by
  cases hq : P.info? elem with
  | none => simp [hq] at hs
  | some i =>
    have hl : ∀ (x : Addr), (loadCells x 0).run P w = .ok #[] w := fun x => by simpa using run_loadCells_list (P := P) w x [] (by simp)
    cases d <;> cases a <;> simp [Builtin.copy_, run_underlying hu, Builtin.lenOf, Builtin.firstCells, sizeOf, typeInfo, hq, hn, storeCells, hl]
end

/-- Cells laid over a list from a place on. -/
def overL (l : List Value) (o : Nat) (vs : List Value) : List Value := l.take o ++ vs ++ l.drop (o + vs.length)
theorem overL_len {l vs : List Value} {o : Nat} (h : o + vs.length ≤ l.length) : (overL l o vs).length = l.length := by simp [overL]; omega
theorem setCells_row {e : TypeId} {fr : Nat × Nat} (g : Nat) : ∀ (vs : List Value) (o : Nat) (w : World) (cur : Array Value), w.heap[g]? = some (.cells cur e fr) → o + vs.length ≤ cur.size → (w.setCells g o vs).heap[g]? = some (.cells (overL cur.toList o vs).toArray e fr)
  | [], o, w, cur, h, _ => by
    show w.heap[g]? = _
    rw [h]
    simp [overL]
  | v :: r, o, w, cur, h, hl => by
    have h1 : (w.setCell ⟨g, o, none⟩ v).heap[g]? = some (.cells (cur.setIfInBounds o v) e fr) := by simp [World.setCell, Array.getElem?_modify, h]
    have ih := setCells_row g r (o + 1) (w.setCell ⟨g, o, none⟩ v) _ h1 (by simp at hl ⊢; omega)
    show ((w.setCell ⟨g, o, none⟩ v).setCells g (o + 1) r).heap[g]? = _
    rw [ih]
    congr 2
    simp at hl
    have ho : o < cur.toList.length := by simpa using (by omega : o < cur.size)
    unfold overL
    simp only [Array.toList_setIfInBounds, List.length_cons]
    rw [List.take_succ_eq_append_getElem (by simpa using ho), List.getElem_set_self, List.take_set_of_le (Nat.le_refl _), List.drop_set_of_lt (by omega)]
    simp [Nat.add_assoc, Nat.add_comm 1]
theorem setCells_other (g : Nat) : ∀ (vs : List Value) (o : Nat) (w : World) (c : Nat), c ≠ g → (w.setCells g o vs).heap[c]? = w.heap[c]?
  | [], _, _, _, _ => rfl
  | v :: r, o, w, c, h => by
    show ((w.setCell ⟨g, o, none⟩ v).setCells g (o + 1) r).heap[c]? = _
    rw [setCells_other g r (o + 1) _ c h]
    simp [World.setCell, Array.getElem?_modify, Ne.symm h]
theorem setCells_size (g : Nat) : ∀ (vs : List Value) (o : Nat) (w : World), (w.setCells g o vs).heap.size = w.heap.size
  | [], _, _ => rfl
  | v :: r, o, w => by
    show ((w.setCell ⟨g, o, none⟩ v).setCells g (o + 1) r).heap.size = _
    rw [setCells_size g r (o + 1)]
    simp [World.setCell]

theorem zonCells_app (L M : List Zon) : zonCells (L ++ M) = zonCells L ++ zonCells M := by simp [zonCells]
theorem zonCells_one (L : List Zon) : ∀ u ∈ zonCells L, u.oneCell' = true := fun u hu => by
  obtain ⟨p, _, h⟩ := List.mem_flatMap.1 hu
  simp [Zon.list] at h
  rcases h with rfl | rfl | rfl | rfl <;> rfl
theorem over_two {C cs zl : List Value} {a N : Nat} (hC : (N + 1) * 4 ≤ C.length) (ha : a ≤ N) (hcs : cs.length = (N - a) * 4) (hzl : zl.length = 4) :
    (overL (overL C ((a + 1) * 4) cs) (a * 4) zl).take ((N + 1) * 4) = C.take (a * 4) ++ zl ++ cs := by
  have h1 : (overL C ((a + 1) * 4) cs).take (a * 4) = C.take (a * 4) := by
    unfold overL
    rw [List.append_assoc, List.take_append_of_le_length (by simp; omega), List.take_take, Nat.min_eq_left (by omega)]
  have h2 : (overL C ((a + 1) * 4) cs).drop (a * 4 + 4) = cs ++ C.drop ((a + 1) * 4 + cs.length) := by
    unfold overL
    rw [List.append_assoc, List.drop_append_of_le_length (by simp; omega), show a * 4 + 4 = (a + 1) * 4 from by omega]
    simp
  have h3 : overL (overL C ((a + 1) * 4) cs) (a * 4) zl = (C.take (a * 4) ++ zl ++ cs) ++ C.drop ((a + 1) * 4 + cs.length) := by
    show (overL C ((a + 1) * 4) cs).take (a * 4) ++ zl ++ (overL C ((a + 1) * 4) cs).drop (a * 4 + zl.length) = _
    rw [h1, hzl, h2]
    simp
  rw [h3, List.take_append_of_le_length (by simp; omega)]
  rw [List.take_of_length_le (by simp; omega)]

/-- A zone put in: what was behind is copied one on, and it is laid in the gap. -/
theorem row_put {w : World} {base g cap a : Nat} {L : List Zon} {z0 z : Zon} (h : w.ownsRow base 37 4 (.slice (some ⟨g, 0, none⟩) (L.length + 1) cap) (L.length + 1) (zonCells (L ++ [z0]))) (ha : a ≤ L.length) :
    ((w.setCells g ((a + 1) * 4) (zonCells (L.drop a))).setCells g (a * 4) z.list).ownsRow base 37 4 (.slice (some ⟨g, 0, none⟩) (L.length + 1) cap) (L.length + 1) (zonCells (L.take a ++ z :: L.drop a)) := by
  obtain ⟨hl, h | ⟨g', cap', cur, e, hb, hh, h1, h2, h3, h4⟩⟩ := h
  · simp at h
  · obtain ⟨rfl, rfl⟩ : g = g' ∧ cap = cap' := by simpa using e
    have hCl : cur.toList.length = cap * 4 := by simpa using h3
    have hcs : (zonCells (L.drop a)).length = (L.length - a) * 4 := by rw [zonCells_len, List.length_drop]
    have r1 := setCells_row (e := 37) (fr := (0, 0)) g (zonCells (L.drop a)) ((a + 1) * 4) w cur hh (by rw [hcs, h3]; omega)
    have s1 : (overL cur.toList ((a + 1) * 4) (zonCells (L.drop a))).length = cap * 4 := by rw [overL_len (by rw [hcs, hCl]; omega), hCl]
    have r2 := setCells_row (e := 37) (fr := (0, 0)) g z.list (a * 4) _ _ r1 (by rw [List.size_toArray, s1]; show a * 4 + 4 ≤ _; omega)
    refine ⟨by rw [zonCells_len]; simp; omega, .inr ⟨g, cap, _, rfl, hb, r2, h1, h2, ?_, ?_⟩⟩
    · rw [List.size_toArray, overL_len (by simp [s1]; show a * 4 + 4 ≤ _; omega), s1]
    · rw [over_two (by rw [hCl]; omega) ha hcs rfl]
      have ht : cur.toList.take (a * 4) = zonCells (L.take a) := by
        have := congrArg (List.take (a * 4)) h4
        rw [List.take_take, Nat.min_eq_left (by omega)] at this
        rw [this]
        have e2 : L ++ [z0] = L.take a ++ (L.drop a ++ [z0]) := by rw [← List.append_assoc, List.take_append_drop]
        rw [e2, zonCells_app, List.take_append_of_le_length (by rw [zonCells_len, List.length_take]; omega), List.take_of_length_le (by rw [zonCells_len, List.length_take]; omega)]
      rw [ht, zonCells_app]
      show _ = zonCells (L.take a) ++ (z.list ++ zonCells (L.drop a))
      rw [List.append_assoc]

end Go.Proofs.YtelndpbkheoeaaaDoor
