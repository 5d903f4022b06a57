/-
  The statement's own insertion: a row of events with tickets, put in by append, copy and store.
-/
import Derived.Test.YtdncnljcihblbaaDoorMgW
import Derived.Test.YtdncnljcihblbaaDoorEvX
import Derived.Laws.IdiomCopy
namespace Go.Proofs.YtdncnljcihblbaaDoor
open Go.RowKit

section
variable {P : Program}
/-- copy at elements of eight cells. -/
theorem run_copy_cells8 (w : World) (dT sT ty elem : TypeId) (b o dLen dCap : Nat) (a : Addr) (sLen sCap : Nat) (cs : List Value)
    (hu : P.underlying dT = some (.slice elem)) (hs : (P.info? elem).map (·.size) = some 8) (hn : cs.length = Nat.min sLen dLen * 8)
    (hsrc : ∀ j v, cs[j]? = some v → w.cell? (a.add j) = some v) (hc : ∀ j, j < cs.length → (w.cell? ⟨b, o + j, none⟩).isSome = true) (hf : ∀ j, j < cs.length → w.frozen? ⟨b, o + j, none⟩ = false) (h1 : ∀ v ∈ cs, v.oneCell' = true) :
    (Builtin.copy_ #[dT, sT] ty #[.slice (some ⟨b, o, none⟩) dLen dCap, .slice (some a) sLen sCap]).run P w = .ok (goInt (Nat.min sLen dLen)) (w.setCells b o cs) := by
  have hl := run_loadCells_list (P := P) w a cs hsrc
  have hst := run_storeCells_cells (P := P) b o cs 0 w (by simpa using hc) (by simpa using hf) h1
  cases hq : P.info? elem with
  | none => simp [hq] at hs
  | some i =>
    have hi : i.size = 8 := by simpa [hq] using hs
    simp [Builtin.copy_, run_underlying hu, Builtin.lenOf, Builtin.firstCells, sizeOf, typeInfo, hq, hi, ← hn, hl, hst]
theorem run_copy_none8 (w : World) (dT sT ty elem : TypeId) (d a : Option Addr) (dLen dCap sLen sCap : Nat) (hu : P.underlying dT = some (.slice elem)) (hs : (P.info? elem).map (·.size) = some 8) (hn : Nat.min sLen dLen = 0) :
    (Builtin.copy_ #[dT, sT] ty #[.slice d dLen dCap, .slice a sLen sCap]).run P w = .ok (goInt 0) w := by
  cases hq : P.info? elem with
  | none => simp [hq] at hs
  | some i =>
    have hl : ∀ (x : Addr), (loadCells x 0).run P w = .ok #[] w := fun x => by simpa using run_loadCells_list (P := P) w x [] (by simp)
    cases d <;> cases a <;> simp [Builtin.copy_, run_underlying hu, Builtin.lenOf, Builtin.firstCells, sizeOf, typeInfo, hq, hn, storeCells, hl]
end

/-- Cells laid over a list from a place on. -/
def overL (l : List Value) (o : Nat) (vs : List Value) : List Value := l.take o ++ vs ++ l.drop (o + vs.length)
theorem overL_len {l vs : List Value} {o : Nat} (h : o + vs.length ≤ l.length) : (overL l o vs).length = l.length := by simp [overL]; omega
theorem setCells_row {e : TypeId} {fr : Nat × Nat} (g : Nat) : ∀ (vs : List Value) (o : Nat) (w : World) (cur : Array Value), w.heap[g]? = some (.cells cur e fr) → o + vs.length ≤ cur.size → (w.setCells g o vs).heap[g]? = some (.cells (overL cur.toList o vs).toArray e fr)
  | [], o, w, cur, h, _ => by
    show w.heap[g]? = _
    rw [h]
    simp [overL]
  | v :: r, o, w, cur, h, hl => by
    have h1 : (w.setCell ⟨g, o, none⟩ v).heap[g]? = some (.cells (cur.setIfInBounds o v) e fr) := by simp [World.setCell, Array.getElem?_modify, h]
    have ih := setCells_row g r (o + 1) (w.setCell ⟨g, o, none⟩ v) _ h1 (by simp at hl ⊢; omega)
    show ((w.setCell ⟨g, o, none⟩ v).setCells g (o + 1) r).heap[g]? = _
    rw [ih]
    congr 2
    simp at hl
    have ho : o < cur.toList.length := by simpa using (by omega : o < cur.size)
    unfold overL
    simp only [Array.toList_setIfInBounds, List.length_cons]
    rw [List.take_succ_eq_append_getElem (by simpa using ho), List.getElem_set_self, List.take_set_of_le (Nat.le_refl _), List.drop_set_of_lt (by omega)]
    simp [Nat.add_assoc, Nat.add_comm 1]
theorem setCells_grown (g : Nat) : ∀ (vs : List Value) (o : Nat) (w : World), w.grownBy (w.setCells g o vs) (some g)
  | [], _, _ => ⟨rfl, rfl, rfl, Nat.le_refl _, fun _ _ _ => rfl⟩
  | v :: r, o, w => grown_trans (grown_set w ⟨g, o, none⟩ v) (setCells_grown g r (o + 1) (w.setCell ⟨g, o, none⟩ v))

theorem kpCells_app (L M : List Kp) : kpCells (L ++ M) = kpCells L ++ kpCells M := by simp [kpCells]
theorem kpCells_one (L : List Kp) : ∀ u ∈ kpCells L, u.oneCell' = true := fun u hu => by
  obtain ⟨p, _, h⟩ := List.mem_flatMap.1 hu
  simp [Kp.list] at h
  rcases h with rfl | rfl | rfl | rfl | rfl | rfl | rfl | rfl <;> rfl
theorem over_two {C cs zl : List Value} {a N : Nat} (hC : (N + 1) * 8 ≤ C.length) (ha : a ≤ N) (hcs : cs.length = (N - a) * 8) (hzl : zl.length = 8) :
    (overL (overL C ((a + 1) * 8) cs) (a * 8) zl).take ((N + 1) * 8) = C.take (a * 8) ++ zl ++ cs := by
  have h1 : (overL C ((a + 1) * 8) cs).take (a * 8) = C.take (a * 8) := by
    unfold overL
    rw [List.append_assoc, List.take_append_of_le_length (by simp; omega), List.take_take, Nat.min_eq_left (by omega)]
  have h2 : (overL C ((a + 1) * 8) cs).drop (a * 8 + 8) = cs ++ C.drop ((a + 1) * 8 + cs.length) := by
    unfold overL
    rw [List.append_assoc, List.drop_append_of_le_length (by simp; omega), show a * 8 + 8 = (a + 1) * 8 from by omega]
    simp
  have h3 : overL (overL C ((a + 1) * 8) cs) (a * 8) zl = (C.take (a * 8) ++ zl ++ cs) ++ C.drop ((a + 1) * 8 + cs.length) := by
    show (overL C ((a + 1) * 8) cs).take (a * 8) ++ zl ++ (overL C ((a + 1) * 8) cs).drop (a * 8 + zl.length) = _
    rw [h1, hzl, h2]
    simp
  rw [h3, List.take_append_of_le_length (by simp; omega)]
  rw [List.take_of_length_le (by simp; omega)]

/-- One put in: what was behind is copied one on, and it is laid in the gap. -/
theorem row_put {w : World} {base g cap a : Nat} {L : List Kp} {z0 z : Kp} (h : w.ownsRow base 58 8 (.slice (some ⟨g, 0, none⟩) (L.length + 1) cap) (L.length + 1) (kpCells (L ++ [z0]))) (ha : a ≤ L.length) :
    ((w.setCells g ((a + 1) * 8) (kpCells (L.drop a))).setCells g (a * 8) z.list).ownsRow base 58 8 (.slice (some ⟨g, 0, none⟩) (L.length + 1) cap) (L.length + 1) (kpCells (L.take a ++ z :: L.drop a)) := by
  obtain ⟨hl, h | ⟨g', cap', cur, e, hb, hh, h1, h2, h3, h4⟩⟩ := h
  · simp at h
  · obtain ⟨rfl, rfl⟩ : g = g' ∧ cap = cap' := by simpa using e
    have hCl : cur.toList.length = cap * 8 := by simpa using h3
    have hcs : (kpCells (L.drop a)).length = (L.length - a) * 8 := by rw [kpCells_len, List.length_drop]
    have r1 := setCells_row (e := 58) (fr := (0, 0)) g (kpCells (L.drop a)) ((a + 1) * 8) w cur hh (by rw [hcs, h3]; omega)
    have s1 : (overL cur.toList ((a + 1) * 8) (kpCells (L.drop a))).length = cap * 8 := by rw [overL_len (by rw [hcs, hCl]; omega), hCl]
    have r2 := setCells_row (e := 58) (fr := (0, 0)) g z.list (a * 8) _ _ r1 (by rw [List.size_toArray, s1]; show a * 8 + 8 ≤ _; omega)
    refine ⟨by rw [kpCells_len]; simp; omega, .inr ⟨g, cap, _, rfl, hb, r2, h1, h2, ?_, ?_⟩⟩
    · rw [List.size_toArray, overL_len (by rw [s1]; show a * 8 + 8 ≤ _; omega), s1]
    · rw [over_two (by rw [hCl]; omega) ha hcs rfl]
      have ht : cur.toList.take (a * 8) = kpCells (L.take a) := by
        have := congrArg (List.take (a * 8)) h4
        rw [List.take_take, Nat.min_eq_left (by omega)] at this
        rw [this]
        have e2 : L ++ [z0] = L.take a ++ (L.drop a ++ [z0]) := by rw [← List.append_assoc, List.take_append_drop]
        rw [e2, kpCells_app, List.take_append_of_le_length (by rw [kpCells_len, List.length_take]; omega), List.take_of_length_le (by rw [kpCells_len, List.length_take]; omega)]
      rw [ht, kpCells_app]
      show _ = kpCells (L.take a) ++ (z.list ++ kpCells (L.drop a))
      rw [List.append_assoc]
theorem size8 : (Tryd.prog.info? 58).map (·.size) = some 8 := by kernel_rfl
theorem infoO : (Tryd.prog.info? 58).map (fun i => (i.zero, i.size, i.bytes)) = some (some (.agg #[.int .i64 0, .int .i64 0, .int .i64 0, .int .i64 0, .int .i64 0, .int .i64 0, .int .i64 0, .int .i64 0]), 8, 64) := by kernel_rfl
/-- All from place a on go one place on. -/
theorem step_copy_ins {ops : Array Oper} {o : Oper} {a : Act} {w : World} {K : Act → World → Prop} {Q : Exit → Act → World → Prop} {E : Prop} (hgd : o.guard = none) (d s : Operand)
    (ho : o.op = .call { callee := .builtin .copy, args := #[d, s], argTypes := #[53, 53] })
    (dp sp : Option Addr) (dLen dCap sLen sCap : Nat) (hd : a.eval d = .slice dp dLen dCap) (hs : a.eval s = .slice sp sLen sCap)
    (base g cap : Nat) (L : List Kp) (z0 : Kp) (k : Nat) (h4 : w.ownsRow base 58 8 (.slice (some ⟨g, 0, none⟩) (L.length + 1) cap) (L.length + 1) (kpCells (L ++ [z0]))) (hk : k ≤ L.length) (hdl : dLen = L.length - k) (hsl : sLen = L.length + 1 - k)
    (hpos : k < L.length → dp = some ⟨g, (k + 1) * 8, none⟩ ∧ sp = some ⟨g, k * 8, none⟩)
    (h : K (a.put o.dst (goInt (L.length - k : Nat))) (w.setCells g ((k + 1) * 8) (kpCells (L.drop k)))) :
    if Region.wanted o (yielded ops a.tmps) = true then Oper.wp Tryd.prog o a w K Q else E := by
  have hw : Region.wanted o (yielded ops a.tmps) = true := by simp [Region.wanted, hgd]
  rw [if_pos hw]
  subst hdl hsl
  by_cases h0 : k < L.length
  · obtain ⟨rfl, rfl⟩ := hpos h0
    have hlen : (kpCells (L.drop k)).length = (L.length - k) * 8 := by rw [kpCells_len, List.length_drop]
    have hcell : ∀ j, j < (L.length + 1) * 8 → w.cell? ⟨g, j, none⟩ = (kpCells (L ++ [z0]))[j]? := fun j hj => h4.cellAt j hj
    have hmin : Nat.min (L.length + 1 - k) (L.length - k) = L.length - k := Nat.min_eq_right (by omega)
    have hrun := run_copy_cells8 (P := Tryd.prog) w 53 53 o.type 58 g ((k + 1) * 8) (L.length - k) dCap ⟨g, k * 8, none⟩ (L.length + 1 - k) sCap (kpCells (L.drop k)) Tryd.underlying53 size8
      (by rw [hlen, hmin])
      (fun j v hj => by
        have hj' : j < (kpCells (L.drop k)).length := (List.getElem?_eq_some_iff.1 hj).1
        rw [Addr.add_lit, hcell _ (by omega)]
        have e2 : L ++ [z0] = L.take k ++ (L.drop k ++ [z0]) := by rw [← List.append_assoc, List.take_append_drop]
        rw [e2, kpCells_app, List.getElem?_append_right (by rw [kpCells_len, List.length_take]; omega), kpCells_len, List.length_take, Nat.min_eq_left hk, show k * 8 + j - k * 8 = j by omega, kpCells_app, List.getElem?_append_left hj']
        exact hj)
      (fun j hj => by
        rw [hcell _ (by omega), List.getElem?_eq_getElem (by rw [kpCells_len]; simp; omega)]; rfl)
      (fun j _ => h4.frozenAt _) (kpCells_one _)
    rw [hmin] at hrun
    unfold Oper.wp
    simp [execOp, ho, resolve, invoke, builtin, hd, hs, hrun, Result.andThen]
    exact h
  · have hz : L.length - k = 0 := by omega
    have hrun := run_copy_none8 (P := Tryd.prog) w 53 53 o.type 58 dp sp (L.length - k) dCap (L.length + 1 - k) sCap Tryd.underlying53 size8 (by rw [hz]; exact Nat.min_zero _)
    have hnil : L.drop k = [] := List.drop_eq_nil_of_le (by omega)
    unfold Oper.wp
    simp [execOp, ho, resolve, invoke, builtin, hd, hs, hrun, Result.andThen]
    rw [hnil, hz] at h
    exact h

/-- All put in, one behind the other. -/
def insAll (L : List Kp) : List Kp := L.foldl insL []
theorem insAll_snoc (L : List Kp) (x : Kp) : insAll (L ++ [x]) = insL (insAll L) x := by simp [insAll]
theorem insL_len (L : List Kp) (x : Kp) : (insL L x).length = L.length + 1 := by
  have := (ins_perm L x).length_eq
  simpa using this
theorem insAll_spec (L : List Kp) : Srt (insAll L) ∧ (insAll L).Perm L := by
  have key : ∀ (n : Nat) (L : List Kp), L.length = n → Srt (insAll L) ∧ (insAll L).Perm L := by
    intro n
    induction n with
    | zero =>
      intro L h
      have : L = [] := List.eq_nil_of_length_eq_zero h
      subst this
      exact ⟨List.Pairwise.nil, List.Perm.refl _⟩
    | succ n ih =>
      intro L h
      have hne : L ≠ [] := fun e => by rw [e] at h; simp at h
      obtain ⟨M, x, rfl⟩ : ∃ M x, L = M ++ [x] := ⟨L.dropLast, L.getLast hne, (List.dropLast_concat_getLast hne).symm⟩
      obtain ⟨h1, h2⟩ := ih M (by simp at h; omega)
      rw [insAll_snoc]
      exact ⟨ins_srt h1 x, (ins_perm _ x).trans (h2.append_right [x])⟩
  exact key L.length L rfl
theorem insAll_len (L : List Kp) : (insAll L).length = L.length := (insAll_spec L).2.length_eq

/-- What the rounds over one stripe keep. -/
structure M2 (w wr : World) (S : Nat) (v1 v2 : Value) (vw : Value) (ev : List Ev) : Prop where
  obj : wr.heap[S]? = some (.cells #[v1, v2] 56 (0, 0))
  wro : wr.ownsRow w.heap.size 24 7 vw ev.length (evCells ev)
  bel : Below w.heap.size w wr
theorem own_apart {W W' : World} {b1 b2 z1 z2 n1 n2 : Nat} {E1 E2 : TypeId} {u1 u2 : Value} {x1 x2 : List Value} (h1 : W.ownsRow b1 E1 z1 u1 n1 x1) (h2 : W.ownsRow b2 E2 z2 u2 n2 x2) (hE : E1 ≠ E2) (hg : W.grownBy W' u2.ownBlock) : W'.ownsRow b1 E1 z1 u1 n1 x1 := by
  obtain ⟨hl, h | ⟨g, cap, cur, rfl, hb, hh, hr⟩⟩ := h1
  · exact ⟨hl, .inl h⟩
  · exact ⟨hl, .inr ⟨g, cap, cur, rfl, hb, keptT h2 hh hg hE, hr⟩⟩
theorem M2.turn {w wr w' : World} {S : Nat} {v1 v2 vw : Value} {ev : List Ev} (h : M2 w wr S v1 v2 vw ev) {va : Value} {n : Nat} {xs : List Value} (ho : wr.ownsRow w.heap.size 58 8 va n xs) (hg : wr.grownBy w' va.ownBlock) : M2 w w' S v1 v2 vw ev :=
  ⟨keptT ho h.obj hg (by decide), own_apart h.wro ho (by decide) hg, h.bel.grown hg h.bel.size (fun g hg => (ho.lt g hg).1)⟩
theorem M2.below {w wr w' : World} {S : Nat} {v1 v2 vw : Value} {ev : List Ev} (h : M2 w wr S v1 v2 vw ev) (hb : Below wr.heap.size wr w') : M2 w w' S v1 v2 vw ev :=
  ⟨(hb.block S (Array.getElem?_eq_some_iff.1 h.obj).1).trans h.obj, h.wro.kept (grown_of_below hb none) (own_anyM _), below_join h.bel hb⟩

end Go.Proofs.YtdncnljcihblbaaDoor
