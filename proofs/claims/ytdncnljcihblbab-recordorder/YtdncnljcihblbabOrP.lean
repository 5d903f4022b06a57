/-
  Events dealt out to four stripes: plain, and in memory.
-/
import Derived.Test.YtdncnljcihblbabMgW
import Derived.Test.YtdncnljcihblbabRgL
import Derived.Maps.AppendAt
namespace Go.Proofs.Ytdncnljcihblbab
open Go.RowKit

/-- The numbers that go to a stripe. -/
def idxD (Q : Nat → Nat) (n q : Nat) : List Nat := (List.range n).filter fun j => Q j == q
def tksD (Q : Nat → Nat) (n q : Nat) : List Int := (idxD Q n q).map fun j : Nat => (j : Int)
def evsD (l : List Ev) (Q : Nat → Nat) (n q : Nat) : List Ev := (idxD Q n q).map fun j => l.getD j zeroE
def speD (l : List Ev) (Q : Nat → Nat) (n : Nat) : List Spe := [⟨tksD Q n 0, evsD l Q n 0⟩, ⟨tksD Q n 1, evsD l Q n 1⟩, ⟨tksD Q n 2, evsD l Q n 2⟩, ⟨tksD Q n 3, evsD l Q n 3⟩]
theorem idx_snoc (Q : Nat → Nat) (n q : Nat) : idxD Q (n + 1) q = idxD Q n q ++ if Q n = q then [n] else [] := by
  unfold idxD
  rw [List.range_succ, List.filter_append]
  congr 1
  by_cases h : Q n = q <;> simp [h]
theorem tks_snoc (Q : Nat → Nat) (n q : Nat) (h : Q n = q) : tksD Q (n + 1) q = tksD Q n q ++ [(n : Int)] := by unfold tksD; rw [idx_snoc, if_pos h]; simp
theorem tks_same (Q : Nat → Nat) (n q : Nat) (h : ¬ Q n = q) : tksD Q (n + 1) q = tksD Q n q := by unfold tksD; rw [idx_snoc, if_neg h]; simp
theorem evs_snoc (l : List Ev) (Q : Nat → Nat) (n q : Nat) (h : Q n = q) : evsD l Q (n + 1) q = evsD l Q n q ++ [l.getD n zeroE] := by unfold evsD; rw [idx_snoc, if_pos h]; simp
theorem evs_same (l : List Ev) (Q : Nat → Nat) (n q : Nat) (h : ¬ Q n = q) : evsD l Q (n + 1) q = evsD l Q n q := by unfold evsD; rw [idx_snoc, if_neg h]; simp
theorem idx_le (Q : Nat → Nat) (n q : Nat) : (idxD Q n q).length ≤ n := by
  have := List.length_filter_le (fun j => Q j == q) (List.range n)
  unfold idxD; simpa using this
theorem rise_of {l : List Int} (h : l.Pairwise (· < ·)) : riseB l = true := (riseB_iff l).2 fun i hi => List.pairwise_iff_getElem.1 h i (i + 1) (by omega) hi (by omega)
theorem tks_rise (Q : Nat → Nat) (n q : Nat) : riseB (tksD Q n q) = true := by
  refine rise_of ?_
  unfold tksD
  rw [List.pairwise_map]
  have h : (idxD Q n q).Pairwise (· < ·) := (List.pairwise_lt_range (n := n)).sublist List.filter_sublist
  exact h.imp fun h => by omega
theorem flt_one (l : List Ev) (Q : Nat → Nat) (n q : Nat) : fltS ⟨tksD Q n q, evsD l Q n q⟩ = 0 := by
  unfold fltS
  rw [if_neg (by simp [tksD, evsD]), if_pos (tks_rise Q n q)]
theorem flt_spe (l : List Ev) (Q : Nat → Nat) (n : Nat) : fltSs (speD l Q n) = 0 := by
  simp [speD, fltSs, flt_one]
theorem pair_one (l : List Ev) (Q : Nat → Nat) (n q : Nat) : pairL ⟨tksD Q n q, evsD l Q n q⟩ = (idxD Q n q).map fun j : Nat => (⟨(j : Int), l.getD j zeroE⟩ : Kp) := by
  unfold pairL tksD evsD
  generalize idxD Q n q = L
  induction L with
  | nil => rfl
  | cons a L ih => simp
theorem filter_four (Q : Nat → Nat) (hQ : ∀ j, Q j < 4) : ∀ (L : List Nat), (L.filter (fun j => Q j == 0) ++ (L.filter (fun j => Q j == 1) ++ (L.filter (fun j => Q j == 2) ++ L.filter (fun j => Q j == 3)))).Perm L
  | [] => List.Perm.refl _
  | a :: L => by
    have ih := filter_four Q hQ L
    have h4 : Q a = 0 ∨ Q a = 1 ∨ Q a = 2 ∨ Q a = 3 := by have := hQ a; omega
    rcases h4 with h | h | h | h
    · simp only [List.filter_cons, h]; simp; exact ih
    · simp only [List.filter_cons, h]; simp; exact List.perm_middle.trans (ih.cons a)
    · simp only [List.filter_cons, h]; simp
      rw [← List.append_assoc]
      refine List.perm_middle.trans ?_
      rw [List.append_assoc]; exact ih.cons a
    · simp only [List.filter_cons, h]; simp
      rw [← List.append_assoc, ← List.append_assoc]
      refine List.perm_middle.trans ?_
      rw [List.append_assoc, List.append_assoc]; exact ih.cons a
theorem num_range (l : List Ev) : numL 0 l = (List.range l.length).map fun j : Nat => (⟨(j : Int), l.getD j zeroE⟩ : Kp) := by
  have key : ∀ (m : List Ev) (i : Nat), (∀ j (h : j < m.length), l.getD (i + j) zeroE = m[j]) → numL i m = (List.range' i m.length).map fun j : Nat => (⟨(j : Int), l.getD j zeroE⟩ : Kp) := by
    intro m
    induction m with
    | nil => intro i _; rfl
    | cons e m ih =>
      intro i h
      have h0 := h 0 (by simp)
      simp only [Nat.add_zero, List.getElem_cons_zero] at h0
      show _ :: numL (i + 1) m = _
      rw [ih (i + 1) (fun j hj => by
        have := h (j + 1) (by simpa using hj)
        simp only [List.getElem_cons_succ] at this
        rw [← this]; congr 1; omega)]
      rw [List.getD_eq_getElem?_getD] at h0
      simp [List.range'_succ, h0]
  have := key l 0 (fun j h => by simp [h])
  rw [this, List.range_eq_range']
theorem pairs_spe (l : List Ev) (Q : Nat → Nat) (hQ : ∀ j, Q j < 4) : (pairsL (speD l Q l.length)).Perm (numL 0 l) := by
  have e : pairsL (speD l Q l.length) = ((List.range l.length).filter (fun j => Q j == 0) ++ ((List.range l.length).filter (fun j => Q j == 1) ++ ((List.range l.length).filter (fun j => Q j == 2) ++ (List.range l.length).filter (fun j => Q j == 3)))).map fun j : Nat => (⟨(j : Int), l.getD j zeroE⟩ : Kp) := by
    simp only [pairsL, speD, List.flatMap_cons, List.flatMap_nil, pair_one, idxD, List.map_append, List.append_nil]
  rw [e, num_range]
  exact (filter_four Q hQ _).map _

/-! In memory. -/
def setX {α : Type} (f : Nat → α) (q : Nat) (x : α) : Nat → α := fun r => if r = q then x else f r
/-- The table's own cells. -/
def TbC (w : World) (T : Nat) (vs : Nat → Value) : Prop := ∃ cur, w.heap[T]? = some (.cells cur 49 (0, 0)) ∧ cur.size = 8 ∧ ∀ i, i < 8 → cur[i]? = some (vs i)
theorem TbC.lt {w : World} {T : Nat} {vs : Nat → Value} (h : TbC w T vs) : T < w.heap.size := by
  obtain ⟨cur, hc, _⟩ := h
  exact (Array.getElem?_eq_some_iff.1 hc).1
theorem TbC.block {w w' : World} {T : Nat} {vs : Nat → Value} (h : TbC w T vs) (e : w'.heap[T]? = w.heap[T]?) : TbC w' T vs := by
  obtain ⟨cur, hc, h1⟩ := h
  exact ⟨cur, e.trans hc, h1⟩
theorem TbC.cell {w : World} {T : Nat} {vs : Nat → Value} (h : TbC w T vs) {i : Nat} (hi : i < 8) : w.cell? ⟨T, i, none⟩ = some (vs i) := by
  obtain ⟨cur, hc, _, h1⟩ := h
  rw [cell_of_row w T i cur _ (0, 0) hc]
  exact h1 i hi
theorem TbC.fz {w : World} {T : Nat} {vs : Nat → Value} (h : TbC w T vs) (i : Nat) : w.frozen? ⟨T, i, none⟩ = false := by
  obtain ⟨cur, hc, _⟩ := h
  simp [World.frozen?, hc]
theorem TbC.put {w : World} {T : Nat} {vs : Nat → Value} (h : TbC w T vs) {q : Nat} (x : Value) : TbC (w.setCell ⟨T, q, none⟩ x) T (setX vs q x) := by
  obtain ⟨cur, hc, hs, h1⟩ := h
  refine ⟨cur.setIfInBounds q x, by simp [World.setCell, Array.getElem?_modify, hc], by simp [hs], fun i hi => ?_⟩
  unfold setX
  by_cases e : i = q
  · subst e
    rw [if_pos rfl]
    simp [hs, hi]
  · rw [if_neg e, Array.getElem?_setIfInBounds_ne (Ne.symm e)]
    exact h1 i hi

def tyI (i : Nat) : TypeId := if i % 2 = 0 then 3 else 38
def szI (i : Nat) : Nat := if i % 2 = 0 then 1 else 7
/-- Eight rows of one's own, each in a block of its own. -/
structure Rw8 (w : World) (base T : Nat) (xs : Nat → Value) (ns : Nat → Nat) (ls : Nat → List Value) : Prop where
  rows : ∀ q, q < 8 → w.ownsRow base (tyI q) (szI q) (xs q) (ns q) (ls q)
  sep : ∀ q r, q < 8 → r < 8 → q ≠ r → ∀ b, (xs q).ownBlock = some b → (xs r).ownBlock ≠ some b
  off : ∀ q, q < 8 → (xs q).ownBlock ≠ some T
theorem own_same {w w' : World} {base : Nat} {e : TypeId} {size : Nat} {v : Value} {n : Nat} {xs : List Value} (h : w.ownsRow base e size v n xs) (hs : ∀ b, v.ownBlock = some b → w'.heap[b]? = w.heap[b]?) : w'.ownsRow base e size v n xs := by
  obtain ⟨hl, h | ⟨g, cap, cur, rfl, hb, hh, h1⟩⟩ := h
  · exact ⟨hl, .inl h⟩
  · exact ⟨hl, .inr ⟨g, cap, cur, rfl, hb, (hs g rfl).trans hh, h1⟩⟩
section
variable {w w' : World} {base T : Nat} {xs : Nat → Value} {ns : Nat → Nat} {ls : Nat → List Value}
theorem Rw8.below (h : Rw8 w base T xs ns ls) (hb : Below w.heap.size w w') : Rw8 w' base T xs ns ls :=
  ⟨fun q hq => own_same (h.rows q hq) (fun b hbk => hb.block b ((h.rows q hq).lt b hbk).2), h.sep, h.off⟩
theorem Rw8.same {xs' : Nat → Value} {ns' : Nat → Nat} {ls' : Nat → List Value} (h : Rw8 w base T xs ns ls) (e : ∀ q, q < 8 → xs q = xs' q ∧ ns q = ns' q ∧ ls q = ls' q) : Rw8 w base T xs' ns' ls' :=
  ⟨fun q hq => by rw [← (e q hq).1, ← (e q hq).2.1, ← (e q hq).2.2]; exact h.rows q hq, fun q r hq hr => by rw [← (e q hq).1, ← (e r hr).1]; exact h.sep q r hq hr, fun q hq => by rw [← (e q hq).1]; exact h.off q hq⟩
theorem Rw8.grow (h : Rw8 w base T xs ns ls) (hT : T < w.heap.size) {q : Nat} (hq : q < 8) {x : Value} {n : Nat} {l : List Value} (ho : w'.ownsRow base (tyI q) (szI q) x n l) (hg : w.grownBy w' (xs q).ownBlock) (hob : x.ownBlock = (xs q).ownBlock ∨ x.ownBlock = some w.heap.size) :
    Rw8 w' base T (setX xs q x) (setX ns q n) (setX ls q l) := by
  have hlt : ∀ r, r < 8 → ∀ b, (xs r).ownBlock = some b → b < w.heap.size := fun r hr b hb => ((h.rows r hr).lt b hb).2
  refine ⟨fun r hr => ?_, fun a r ha hr har b hb => ?_, fun r hr => ?_⟩
  · unfold setX
    by_cases e : r = q
    · subst e; simp only [if_true]; exact ho
    · simp only [if_neg e]
      exact own_same (h.rows r hr) (fun b hb => hg.block b (hlt r hr b hb) (fun k => h.sep r q hr hq e b hb k.symm))
  · have key : ∀ r, r < 8 → r ≠ q → ∀ b, (xs r).ownBlock = some b → x.ownBlock ≠ some b := fun r hr hrq b hb hx => by
      rcases hob with e | e
      · rw [e] at hx; exact h.sep r q hr hq hrq b hb hx
      · rw [e] at hx; have := hlt r hr b hb; cases hx; omega
    unfold setX at hb ⊢
    by_cases e1 : a = q
    · rw [if_pos e1] at hb
      rw [if_neg (fun k => har (e1.trans k.symm))]
      exact fun hr' => key r hr (fun k => har (e1.trans k.symm)) b hr' hb
    · rw [if_neg e1] at hb
      by_cases e2 : r = q
      · rw [if_pos e2]; exact key a ha e1 b hb
      · rw [if_neg e2]; exact h.sep a r ha hr har b hb
  · unfold setX
    by_cases e : r = q
    · rw [if_pos e]
      rcases hob with e' | e'
      · rw [e']; exact h.off q hq
      · rw [e']; intro k; cases k; omega
    · rw [if_neg e]; exact h.off r hr
theorem Rw8.put (h : Rw8 w base T xs ns ls) (i : Nat) (v : Value) : Rw8 (w.setCell ⟨T, i, none⟩ v) base T xs ns ls :=
  ⟨fun q hq => own_same (h.rows q hq) (fun b hb => Below.heap_setCell w ⟨T, i, none⟩ v b (fun e => h.off q hq (by rw [hb]; exact congrArg some e))), h.sep, h.off⟩
end

def inCs (l : List Int) : List Value := l.map fun x => .int .i64 x
theorem infoI : (Try.prog.info? 3).map (fun i => (i.zero, i.size, i.bytes)) = some (some (.int .i64 0), 1, 8) := by kernel_rfl
theorem tyI0 (q : Nat) : tyI (q * 2) = 3 ∧ szI (q * 2) = 1 := by unfold tyI szI; rw [if_pos (by omega), if_pos (by omega)]; exact ⟨rfl, rfl⟩
theorem tyI1 (q : Nat) : tyI (q * 2 + 1) = 38 ∧ szI (q * 2 + 1) = 7 := by unfold tyI szI; rw [if_neg (by omega), if_neg (by omega)]; exact ⟨rfl, rfl⟩
/-- A ticket appended. -/
theorem app_tk {V : World} {base T : Nat} {xs : Nat → Value} {ns : Nat → Nat} {ls : Nat → List Value} (h : Rw8 V base T xs ns ls) (hT : T < V.heap.size) (hb : base ≤ V.heap.size) {q B : Nat} (hq : q < 4) (k : Int) (hB : V.cell? ⟨B, 0, none⟩ = some (.int .i64 k)) (hn : ns (q * 2) ≤ 1000) (ty : TypeId) :
    ∃ x V', (Builtin.append_ #[45, 45] ty #[xs (q * 2), .slice (some ⟨B, 0, none⟩) 1 1]).run Try.prog V = .ok x V' ∧ V.grownBy V' (xs (q * 2)).ownBlock ∧ Rw8 V' base T (setX xs (q * 2) x) (setX ns (q * 2) (ns (q * 2) + 1)) (setX ls (q * 2) (ls (q * 2) ++ [.int .i64 k])) ∧ ∃ a c, x = .slice a (ns (q * 2) + 1) c := by
  obtain ⟨i0, hi, hz0, hz1, hz2⟩ := info_parts' infoI
  have hr0 := h.rows (q * 2) (by omega)
  rw [(tyI0 q).1, (tyI0 q).2] at hr0
  obtain ⟨x, V', hr, ho, hg, _, hob⟩ := run_append_own_at (P := Try.prog) (w := V) base 45 ty 3 i0 _ 1 8 Try.underlying45 hi hz0 hz1 hz2 rfl (by decide) _ _ _ hr0 ⟨B, 0, none⟩ 1 1 [.int .i64 k] rfl (fun j u hj => by
    match j, hj with
    | 0, hj => simp at hj; subst hj; simpa [Addr.add] using hB) (by simp [Value.oneCell']) (by unfold maxLen; omega) (by omega) hb
  refine ⟨x, V', hr, hg, h.grow hT (by omega) (by rw [(tyI0 q).1, (tyI0 q).2]; exact ho) hg hob, ?_⟩
  obtain ⟨_, ⟨rfl, h0⟩ | ⟨g, c, _, rfl, _⟩⟩ := ho
  · omega
  · exact ⟨_, c, rfl⟩
/-- An event appended. -/
theorem app_ev {V : World} {base T : Nat} {xs : Nat → Value} {ns : Nat → Nat} {ls : Nat → List Value} (h : Rw8 V base T xs ns ls) (hT : T < V.heap.size) (hb : base ≤ V.heap.size) {q B : Nat} (hq : q < 4) (e : Ev) (hB : EvAt V B 0 e) (hn : ns (q * 2 + 1) ≤ 1000) (ty : TypeId) :
    ∃ x V', (Builtin.append_ #[22, 22] ty #[xs (q * 2 + 1), .slice (some ⟨B, 0, none⟩) 1 1]).run Try.prog V = .ok x V' ∧ V.grownBy V' (xs (q * 2 + 1)).ownBlock ∧ Rw8 V' base T (setX xs (q * 2 + 1) x) (setX ns (q * 2 + 1) (ns (q * 2 + 1) + 1)) (setX ls (q * 2 + 1) (ls (q * 2 + 1) ++ e.cells)) ∧ ∃ a c, x = .slice a (ns (q * 2 + 1) + 1) c := by
  obtain ⟨i0, hi, hz0, hz1, hz2⟩ := info_parts' infoE
  have hr0 := h.rows (q * 2 + 1) (by omega)
  rw [(tyI1 q).1, (tyI1 q).2] at hr0
  obtain ⟨k0, k1, k2, k3, k4, k5, k6⟩ := hB
  obtain ⟨x, V', hr, ho, hg, _, hob⟩ := run_append_own_at (P := Try.prog) (w := V) base 22 ty 38 i0 _ 7 56 Try.underlying22 hi hz0 hz1 hz2 rfl (by decide) _ _ _ hr0 ⟨B, 0, none⟩ 1 1 e.cells rfl (fun j u hj => by
    match j, hj with
    | 0, hj => simp [Ev.cells] at hj; subst hj; simpa [Addr.add] using k0
    | 1, hj => simp [Ev.cells] at hj; subst hj; simpa [Addr.add] using k1
    | 2, hj => simp [Ev.cells] at hj; subst hj; simpa [Addr.add] using k2
    | 3, hj => simp [Ev.cells] at hj; subst hj; simpa [Addr.add] using k3
    | 4, hj => simp [Ev.cells] at hj; subst hj; simpa [Addr.add] using k4
    | 5, hj => simp [Ev.cells] at hj; subst hj; simpa [Addr.add] using k5
    | 6, hj => simp [Ev.cells] at hj; subst hj; simpa [Addr.add] using k6
    | j + 7, hj => simp [Ev.cells] at hj) (fun u hu => by simp [Ev.cells] at hu; rcases hu with rfl | rfl | rfl | rfl | rfl | rfl | rfl <;> rfl) (by unfold maxLen; omega) (by omega) hb
  refine ⟨x, V', hr, hg, h.grow hT (by omega) (by rw [(tyI1 q).1, (tyI1 q).2]; exact ho) hg hob, ?_⟩
  obtain ⟨_, ⟨rfl, h0⟩ | ⟨g, c, _, rfl, _⟩⟩ := ho
  · omega
  · exact ⟨_, c, rfl⟩

/-- append in a region that draws, out of the equation of its run. -/
theorem step_append_run {P : Program} {ops : Array Oper} {o : Oper} {a : Act} {w : World} {K : Act → World → Prop} {Q : Exit → Act → World → Prop} {E : Prop} (hgd : o.guard = none) (s x : Operand) (t : TypeId)
    (ho : o.op = .call { callee := .builtin .append, args := #[s, x], argTypes := #[t, t] }) (v xv v' : Value) (w' : World) (hs : a.eval s = v) (hx : a.eval x = xv) (hr : (Builtin.append_ #[t, t] o.type #[v, xv]).run P w = .ok v' w')
    (hK : K (a.put o.dst v') w') : if Region.wanted o (yielded ops a.tmps) = true then Oper.wp P o a w K Q else E := by
  have hw : Region.wanted o (yielded ops a.tmps) = true := by simp [Region.wanted, hgd]
  rw [if_pos hw]
  unfold Oper.wp execOp
  simp only [ho, resolve, invoke, builtin, Sem.run_bind, Sem.run_pure, Result.andThen_ok, List.map_toArray, List.map_cons, List.map_nil, hs, hx, hr]
  exact hK

/-- The four stripes so far. -/
structure StD (w : World) (G : Nat) (l : List Ev) (Q : Nat → Nat) (n : Nat) (vs : Nat → Value) : Prop where
  tab : TbC w G vs
  rws : Rw8 w G G vs (fun i => (idxD Q n (i / 2)).length) (fun i => if i % 2 = 0 then inCs (tksD Q n (i / 2)) else evCells (evsD l Q n (i / 2)))
theorem StD.below {w w' : World} {G : Nat} {l : List Ev} {Q : Nat → Nat} {n : Nat} {vs : Nat → Value} (h : StD w G l Q n vs) (hb : Below w.heap.size w w') : StD w' G l Q n vs := ⟨h.tab.block (hb.block G h.tab.lt), h.rws.below hb⟩
/-- What is turned behind an append and two stores. -/
theorem StD.next {V : World} {G q : Nat} {l : List Ev} {Q : Nat → Nat} {n : Nat} {vs : Nat → Value} {x y : Value} (hq : Q n = q)
    (hr : Rw8 V G G (setX (setX vs (q * 2) x) (q * 2 + 1) y) (setX (setX (fun i => (idxD Q n (i / 2)).length) (q * 2) ((idxD Q n (q * 2 / 2)).length + 1)) (q * 2 + 1) ((setX (fun i => (idxD Q n (i / 2)).length) (q * 2) ((idxD Q n (q * 2 / 2)).length + 1)) (q * 2 + 1) + 1)) (setX (setX (fun i => if i % 2 = 0 then inCs (tksD Q n (i / 2)) else evCells (evsD l Q n (i / 2))) (q * 2) ((if q * 2 % 2 = 0 then inCs (tksD Q n (q * 2 / 2)) else evCells (evsD l Q n (q * 2 / 2))) ++ [.int .i64 (n : Int)])) (q * 2 + 1) ((setX (fun i => if i % 2 = 0 then inCs (tksD Q n (i / 2)) else evCells (evsD l Q n (i / 2))) (q * 2) ((if q * 2 % 2 = 0 then inCs (tksD Q n (q * 2 / 2)) else evCells (evsD l Q n (q * 2 / 2))) ++ [.int .i64 (n : Int)])) (q * 2 + 1) ++ (l.getD n zeroE).cells)))
    (ht : TbC V G vs) : StD ((V.setCell ⟨G, q * 2, none⟩ x).setCell ⟨G, q * 2 + 1, none⟩ y) G l Q (n + 1) (setX (setX vs (q * 2) x) (q * 2 + 1) y) := by
  refine ⟨(ht.put x).put y, ((hr.put (q * 2) x).put (q * 2 + 1) y).same fun i hi => ⟨rfl, ?_, ?_⟩⟩
  · unfold setX
    by_cases e1 : i = q * 2 + 1
    · subst e1
      simp only [if_true]
      rw [if_neg (by omega), show (q * 2 + 1) / 2 = q by omega, idx_snoc, if_pos hq]; simp
    · rw [if_neg e1]
      by_cases e2 : i = q * 2
      · subst e2
        simp only [if_true]
        rw [show q * 2 / 2 = q by omega, idx_snoc, if_pos hq]; simp
      · rw [if_neg e2, idx_snoc, if_neg (fun k => by omega)]; simp
  · unfold setX
    by_cases e1 : i = q * 2 + 1
    · subst e1
      simp only [if_true]
      rw [if_neg (by omega), if_neg (by omega), if_neg (by omega), show (q * 2 + 1) / 2 = q by omega, evs_snoc l Q n q hq, evCells_snoc]
    · rw [if_neg e1]
      by_cases e2 : i = q * 2
      · subst e2
        simp only [if_true]
        rw [if_pos (by omega), if_pos (by omega), show q * 2 / 2 = q by omega, tks_snoc Q n q hq]; simp [inCs]
      · rw [if_neg e2]
        dsimp only
        by_cases e3 : i % 2 = 0
        · rw [if_pos e3, if_pos e3, tks_same Q n _ (fun k => by omega)]
        · rw [if_neg e3, if_neg e3, evs_same l Q n _ (fun k => by omega)]

end Go.Proofs.Ytdncnljcihblbab
