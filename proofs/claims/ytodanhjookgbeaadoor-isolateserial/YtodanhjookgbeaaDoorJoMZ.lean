/-
  A story that is copied, in memory: rows of ops, of transactions, of lists that are appended to.
  What stands while a story is copied.
-/
import Derived.Test.YtodanhjookgbeaaDoorIsM
import Derived.Test.YtodanhjookgbeaaDoorBkW
import Derived.Maps.AppendAt
import Derived.Test.YtodanhjookgbeaaDoorGhPZ
namespace Go.Proofs.YtodanhjookgbeaaDoor
open Go.RowKit

theorem flat_len {α : Type} {c : α → List Value} {m : Nat} (hc : ∀ x, (c x).length = m) : ∀ l : List α, (l.flatMap c).length = l.length * m
  | [] => by simp
  | x :: l => by
    rw [List.flatMap_cons, List.length_append, flat_len hc l, hc, List.length_cons, Nat.add_mul]
    omega
theorem flat_at {α : Type} {c : α → List Value} {m : Nat} (hc : ∀ x, (c x).length = m) : ∀ (l : List α) (k j : Nat) (hk : k < l.length), j < m → (l.flatMap c)[k * m + j]? = (c l[k])[j]?
  | [], k, _, hk, _ => absurd hk (by simp)
  | x :: l, 0, j, _, hj => by
    rw [List.flatMap_cons, List.getElem?_append_left (by rw [hc]; omega), Nat.zero_mul, Nat.zero_add]
    rfl
  | x :: l, k + 1, j, hk, hj => by
    rw [List.flatMap_cons, List.getElem?_append_right (by rw [hc, Nat.add_mul]; omega), hc, show (k + 1) * m + j - m = k * m + j by rw [Nat.add_mul]; omega]
    exact flat_at hc l k j (by simpa using hk) hj
def opL (o : IOp) : List Value := [.bool o.wr, .int .i64 o.key, .int .i64 o.frm, .int .i64 o.num]
def opC (l : List IOp) : List Value := l.flatMap opL
def txL (p : Value × Bool) : List Value := [p.1, .bool p.2]
def txC (l : List (Value × Bool)) : List Value := l.flatMap txL
theorem opC_app (l : List IOp) (o : IOp) : opC (l ++ [o]) = opC l ++ opL o := by simp [opC]
theorem txC_app (l : List (Value × Bool)) (p : Value × Bool) : txC (l ++ [p]) = txC l ++ txL p := by simp [txC]
theorem info68 : (Tryd.prog.info? 68).map (fun i => (i.zero, i.size, i.bytes)) = some (some (.agg #[.bool false, .int .i64 0, .int .i64 0, .int .i64 0]), 4, 32) := by kernel_rfl
theorem info62 : (Tryd.prog.info? 62).map (fun i => (i.zero, i.size, i.bytes)) = some (some (.agg #[.slice none 0 0, .bool false]), 2, 32) := by kernel_rfl
theorem info54 : (Tryd.prog.info? 54).map (fun i => (i.zero, i.size, i.bytes)) = some (some (.slice none 0 0), 1, 24) := by kernel_rfl
/-- Ops, transactions, lists that are owned. -/
def OpR (w : World) (base : Nat) (v : Value) (l : List IOp) : Prop := w.ownsRow base 68 4 v l.length (opC l)
def TxR (w : World) (base : Nat) (v : Value) (l : List (Value × Bool)) : Prop := w.ownsRow base 62 2 v l.length (txC l)
def LsR (w : World) (base : Nat) (v : Value) (l : List Value) : Prop := w.ownsRow base 54 1 v l.length l
theorem run_appO {w : World} {base B : Nat} {v : Value} {L : List IOp} {o : IOp} (hown : OpR w base v L) (hB : IOpAt w B 0 o) (hb : base ≤ w.heap.size) (hlen : (L.length + 1) * 32 ≤ 140737488355328) (ty : TypeId) :
    ∃ v' w', (Builtin.append_ #[60, 60] ty #[v, .slice (some ⟨B, 0, none⟩) 1 1]).run Tryd.prog w = .ok v' w' ∧ OpR w' base v' (L ++ [o]) ∧ w.grownBy w' v.ownBlock ∧ (v'.ownBlock = v.ownBlock ∨ v'.ownBlock = some w.heap.size) := by
  obtain ⟨i, hi, hz, hsz, hby⟩ := info_parts' info68
  have hnews : ∀ j u, (opL o)[j]? = some u → w.cell? ((⟨B, 0, none⟩ : Addr).add j) = some u := by
    intro j u hj
    rw [Addr.add_mid, Nat.zero_add]
    match j, hj with
    | 0, hj => simp [opL] at hj; subst hj; exact hB.1
    | 1, hj => simp [opL] at hj; subst hj; exact hB.2.1
    | 2, hj => simp [opL] at hj; subst hj; exact hB.2.2.1
    | 3, hj => simp [opL] at hj; subst hj; exact hB.2.2.2
    | k + 4, hj => simp [opL] at hj
  obtain ⟨v', w', hr, ho, hg, _, hob⟩ := run_append_own_at (P := Tryd.prog) (w := w) base 60 ty 68 i _ 4 32 Tryd.underlying60 hi hz hsz hby rfl (by decide) v _ _ hown ⟨B, 0, none⟩ 1 1 (opL o) rfl hnews (by simp [opL, Value.oneCell']) (by unfold maxLen; omega) (by omega) hb
  refine ⟨v', w', hr, ?_, hg, hob⟩
  unfold OpR
  rw [opC_app, List.length_append]
  exact ho
theorem run_appT {w : World} {base B : Nat} {v : Value} {L : List (Value × Bool)} {p : Value × Bool} (hp : p.1.oneCell' = true) (hown : TxR w base v L) (h0 : w.cell? ⟨B, 0, none⟩ = some p.1) (h1 : w.cell? ⟨B, 1, none⟩ = some (.bool p.2)) (hb : base ≤ w.heap.size) (hlen : (L.length + 1) * 32 ≤ 140737488355328) (ty : TypeId) :
    ∃ v' w', (Builtin.append_ #[26, 26] ty #[v, .slice (some ⟨B, 0, none⟩) 1 1]).run Tryd.prog w = .ok v' w' ∧ TxR w' base v' (L ++ [p]) ∧ w.grownBy w' v.ownBlock ∧ (v'.ownBlock = v.ownBlock ∨ v'.ownBlock = some w.heap.size) := by
  obtain ⟨i, hi, hz, hsz, hby⟩ := info_parts' info62
  have hnews : ∀ j u, (txL p)[j]? = some u → w.cell? ((⟨B, 0, none⟩ : Addr).add j) = some u := by
    intro j u hj
    rw [Addr.add_mid, Nat.zero_add]
    match j, hj with
    | 0, hj => simp [txL] at hj; subst hj; exact h0
    | 1, hj => simp [txL] at hj; subst hj; exact h1
    | k + 2, hj => simp [txL] at hj
  obtain ⟨v', w', hr, ho, hg, _, hob⟩ := run_append_own_at (P := Tryd.prog) (w := w) base 26 ty 62 i _ 2 32 Tryd.underlying26 hi hz hsz hby rfl (by decide) v _ _ hown ⟨B, 0, none⟩ 1 1 (txL p) rfl hnews (by
    intro u hu
    simp [txL] at hu
    rcases hu with rfl | rfl
    · exact hp
    · rfl) (by unfold maxLen; omega) (by omega) hb
  refine ⟨v', w', hr, ?_, hg, hob⟩
  unfold TxR
  rw [txC_app, List.length_append]
  exact ho
theorem run_appR {w : World} {base B : Nat} {v : Value} {L : List Value} {x : Value} (hx : x.oneCell' = true) (hown : LsR w base v L) (h0 : w.cell? ⟨B, 0, none⟩ = some x) (hb : base ≤ w.heap.size) (hlen : (L.length + 1) * 24 ≤ 140737488355328) (ty : TypeId) :
    ∃ v' w', (Builtin.append_ #[23, 23] ty #[v, .slice (some ⟨B, 0, none⟩) 1 1]).run Tryd.prog w = .ok v' w' ∧ LsR w' base v' (L ++ [x]) ∧ w.grownBy w' v.ownBlock ∧ (v'.ownBlock = v.ownBlock ∨ v'.ownBlock = some w.heap.size) := by
  obtain ⟨i, hi, hz, hsz, hby⟩ := info_parts' info54
  have hnews : ∀ j u, [x][j]? = some u → w.cell? ((⟨B, 0, none⟩ : Addr).add j) = some u := by
    intro j u hj
    rw [Addr.add_mid, Nat.zero_add]
    match j, hj with
    | 0, hj => simp at hj; subst hj; exact h0
    | k + 1, hj => simp at hj
  obtain ⟨v', w', hr, ho, hg, _, hob⟩ := run_append_own_at (P := Tryd.prog) (w := w) base 23 ty 54 i _ 1 24 Tryd.underlying23 hi hz hsz hby rfl (by decide) v _ _ hown ⟨B, 0, none⟩ 1 1 [x] rfl hnews (by simpa using hx) (by unfold maxLen; omega) (by omega) hb
  refine ⟨v', w', hr, ?_, hg, hob⟩
  unfold LsR
  rw [List.length_append]
  exact ho
theorem own_cells {w : World} {base : Nat} {e : TypeId} {m : Nat} {v : Value} {n : Nat} {xs : List Value} (h : w.ownsRow base e m v n xs) : (v = .slice none 0 0 ∧ n = 0) ∨ ∃ g cap, v = .slice (some ⟨g, 0, none⟩) n cap ∧ n ≤ cap ∧ g < w.heap.size ∧ ∀ k, k < n * m → w.cell? ⟨g, k, none⟩ = xs[k]? := by
  obtain ⟨hl, ⟨rfl, h0⟩ | ⟨g, cap, cur, rfl, hb, hh, h1, h2, h3, h4⟩⟩ := h
  · exact .inl ⟨rfl, h0⟩
  · refine .inr ⟨g, cap, rfl, h1, lt_of_heap hh, fun k hk => ?_⟩
    rw [cell_of_row _ _ _ _ e _ hh]
    have e' : (cur.toList.take (n * m))[k]? = xs[k]? := by rw [h4]
    rw [List.getElem?_take_of_lt hk, Array.getElem?_toList] at e'
    exact e'
theorem opR_q {w : World} {base : Nat} {v : Value} {l : List IOp} (h : OpR w base v l) : ∃ a cap, v = .slice a l.length cap ∧ l.length ≤ cap ∧ IOpsQ w a l := by
  rcases own_cells h with ⟨rfl, h0⟩ | ⟨g, cap, rfl, hc, hg, hk⟩
  · have : l = [] := List.eq_nil_of_length_eq_zero h0
    subst this
    exact ⟨none, 0, rfl, Nat.le_refl _, .inl rfl⟩
  · refine ⟨_, cap, rfl, hc, .inr ⟨g, 0, rfl, hg, fun k hkl => ?_⟩⟩
    have hh : ∀ j, j < 4 → w.cell? ⟨g, 0 + k * 4 + j, none⟩ = (opL l[k])[j]? := fun j hj => by
      rw [Nat.zero_add, hk _ (by omega)]
      exact flat_at (c := opL) (m := 4) (fun _ => rfl) l k j hkl hj
    exact ⟨hh 0 (by omega), hh 1 (by omega), hh 2 (by omega), hh 3 (by omega)⟩
theorem txR_q {w : World} {base : Nat} {v : Value} {ps : List (Value × Bool)} {ts : List ITx} (h : TxR w base v ps) (hl : ps.length = ts.length) (hp : ∀ k (h1 : k < ps.length) (h2 : k < ts.length), OpR w base ps[k].1 ts[k].ops ∧ ps[k].2 = ts[k].com ∧ ts[k].ops.length ≤ maxLen) : ∃ a cap, v = .slice a ts.length cap ∧ ts.length ≤ cap ∧ ITxsQ w a ts := by
  rcases own_cells h with ⟨rfl, h0⟩ | ⟨g, cap, rfl, hc, hg, hk⟩
  · have : ts = [] := List.eq_nil_of_length_eq_zero (by omega)
    subst this
    exact ⟨none, 0, rfl, Nat.le_refl _, .inl rfl⟩
  · refine ⟨_, cap, by rw [hl], by omega, .inr ⟨g, 0, rfl, hg, fun k hkl => ?_⟩⟩
    have hh : ∀ j, j < 2 → w.cell? ⟨g, 0 + k * 2 + j, none⟩ = (txL (ps[k]'(by omega)))[j]? := fun j hj => by
      rw [Nat.zero_add, hk _ (by omega)]
      exact flat_at (c := txL) (m := 2) (fun _ => rfl) ps k j (by omega) hj
    obtain ⟨h1, h2, h3⟩ := hp k (by omega) hkl
    obtain ⟨a, cp, e1, e2, e3⟩ := opR_q h1
    refine ⟨a, cp, ?_, e2, h3, e3, ?_⟩
    · rw [← e1]; exact hh 0 (by omega)
    · rw [← h2]; exact hh 1 (by omega)
theorem lsR_q {w : World} {base : Nat} {v : Value} {vs : List Value} {ls : List (List Int)} (h : LsR w base v vs) (hl : vs.length = ls.length) (hp : ∀ k (h1 : k < vs.length) (h2 : k < ls.length), ∃ a cap, vs[k] = .slice a ls[k].length cap ∧ ls[k].length ≤ cap ∧ ls[k].length ≤ maxLen ∧ IntsQ w a ls[k]) : ∃ a cap, v = .slice a ls.length cap ∧ ls.length ≤ cap ∧ IRowsQ w a ls := by
  rcases own_cells h with ⟨rfl, h0⟩ | ⟨g, cap, rfl, hc, hg, hk⟩
  · have : ls = [] := List.eq_nil_of_length_eq_zero (by omega)
    subst this
    exact ⟨none, 0, rfl, Nat.le_refl _, .inl rfl⟩
  · refine ⟨_, cap, by rw [hl], by omega, .inr ⟨g, 0, rfl, hg, fun k hkl => ?_⟩⟩
    obtain ⟨a, cp, e1, e2, e3, e4⟩ := hp k (by omega) hkl
    refine ⟨a, cp, ?_, e2, e3, e4⟩
    rw [← e1, Nat.zero_add, hk _ (by omega), List.getElem?_eq_getElem (by omega)]
end Go.Proofs.YtodanhjookgbeaaDoor

namespace Go.Proofs.YtodanhjookgbeaaDoor
open Go.RowKit

theorem own_base {w : World} {base base' : Nat} {e : TypeId} {m : Nat} {v : Value} {n : Nat} {xs : List Value} (h : w.ownsRow base e m v n xs) (hb : base' ≤ base) : w.ownsRow base' e m v n xs := by
  obtain ⟨hl, h | ⟨g, cap, cur, rfl, hg, h⟩⟩ := h
  · exact ⟨hl, .inl h⟩
  · exact ⟨hl, .inr ⟨g, cap, cur, rfl, by omega, h⟩⟩
theorem own_ne {w : World} {base base' : Nat} {e e' : TypeId} {m m' : Nat} {v v' : Value} {n n' : Nat} {xs xs' : List Value} (h : w.ownsRow base e m v n xs) (h' : w.ownsRow base' e' m' v' n' xs') (he : e ≠ e') (b : Nat) (hb : v.ownBlock = some b) : v'.ownBlock ≠ some b := fun hb' => by
  obtain ⟨_, _, c, hc⟩ := ownsRow_block h b hb
  obtain ⟨_, _, c', hc'⟩ := ownsRow_block h' b hb'
  rw [hc] at hc'
  injection hc' with hc'
  injection hc' with _ hc'
  exact he hc'
theorem setSz (w : World) (p : Addr) (u : Value) : (w.setCell p u).heap.size = w.heap.size := by simp
/-- The story's copy so far. -/
structure StoS (wr W0 : World) (B2 B4 base : Nat) (v u : Value) (ps : List (Value × Bool)) (ts : List ITx) (vs : List Value) : Prop where
  out : wr.heap[B4]? = some (.cells #[v, u] 28 (0, 0))
  res : wr.heap[B2]? = some (.cells #[.slice none 0 0, .slice none 0 0] 28 (0, 0))
  tx : TxR wr base v ps
  len : ps.length = ts.length
  ops : ∀ k (h1 : k < ps.length) (h2 : k < ts.length), OpR wr base ps[k].1 ts[k].ops ∧ ps[k].2 = ts[k].com
  ls : LsR wr base u vs
  bel : Below W0.heap.size W0 wr
  w0 : W0.heap.size ≤ B2
  b24 : B2 < B4
  b4 : B4 < base
  le : base ≤ wr.heap.size
section
variable {wr wr' W0 : World} {B2 B4 base : Nat} {v u : Value} {ps : List (Value × Bool)} {ts : List ITx} {vs : List Value}
theorem StoS.below (h : StoS wr W0 B2 B4 base v u ps ts vs) (hb : Below wr.heap.size wr wr') : StoS wr' W0 B2 B4 base v u ps ts vs :=
  ⟨(hb.block B4 (lt_of_heap h.out)).trans h.out, (hb.block B2 (lt_of_heap h.res)).trans h.res, ownsRow_same h.tx fun b hb' => hb.block b (ownsRow_block h.tx b hb').2.1, h.len, fun k h1 h2 => ⟨ownsRow_same (h.ops k h1 h2).1 fun b hb' => hb.block b (ownsRow_block (h.ops k h1 h2).1 b hb').2.1, (h.ops k h1 h2).2⟩, ownsRow_same h.ls fun b hb' => hb.block b (ownsRow_block h.ls b hb').2.1, belJ h.bel hb, h.w0, h.b24, h.b4, Nat.le_trans h.le hb.size⟩
/-- One more transaction. -/
theorem StoS.addT {v' vt : Value} {c : Bool} {t : ITx} {base' : Nat} (h : StoS wr W0 B2 B4 base v u ps ts vs) (ho : OpR wr base' vt t.ops) (hbb : base ≤ base') (hc : c = t.com) (hg : wr.grownBy wr' v.ownBlock) (ht : TxR wr' base v' (ps ++ [(vt, c)])) :
    StoS (wr'.setCell ⟨B4, 0, none⟩ v') W0 B2 B4 base v' u (ps ++ [(vt, c)]) (ts ++ [t]) vs ∧ Below W0.heap.size W0 wr' := by
  have hv : ∀ b, v.ownBlock = some b → base ≤ b := fun b hb => (ownsRow_block h.tx b hb).1
  have hk : ∀ b, b < wr.heap.size → v.ownBlock ≠ some b → wr'.heap[b]? = wr.heap[b]? := fun b hb hne => hg.block b hb (fun e => hne e.symm)
  have hw0 := h.w0
  have hb24 := h.b24
  have hb4 := h.b4
  have hle := h.le
  have hbel : Below W0.heap.size W0 wr' := h.bel.grown hg h.bel.size (fun b hb => by have := hv b hb; omega)
  have hout : wr'.heap[B4]? = some (.cells #[v, u] 28 (0, 0)) := (hk B4 (lt_of_heap h.out) (fun e => by have := hv _ e; omega)).trans h.out
  have hset : ∀ b, b ≠ B4 → (wr'.setCell ⟨B4, 0, none⟩ v').heap[b]? = wr'.heap[b]? := fun b hb => Below.heap_setCell wr' ⟨B4, 0, none⟩ v' b hb
  have hop : ∀ {w1 : Value} {l : List IOp} {bb : Nat}, base ≤ bb → OpR wr bb w1 l → OpR (wr'.setCell ⟨B4, 0, none⟩ v') base w1 l := fun {w1 l bb} hbb' hr => own_base (ownsRow_same hr fun b hb => by
    have hx := ownsRow_block hr b hb
    rw [hset b (by omega)]
    exact hk b hx.2.1 (own_ne hr h.tx (by decide) b hb)) hbb'
  refine ⟨⟨?_, ?_, ?_, ?_, ?_, ?_, ?_, h.w0, h.b24, h.b4, ?_⟩, hbel⟩
  · rw [heap_setCell_same wr' B4 0 _ 28 _ hout]; rfl
  · rw [hset B2 (by omega)]
    exact (hk B2 (lt_of_heap h.res) (fun e => by have := hv _ e; omega)).trans h.res
  · exact ownsRow_same ht fun b hb => hset b (by have := (ownsRow_block ht b hb).1; omega)
  · rw [List.length_append, List.length_append, h.len]; rfl
  · intro k h1 h2
    by_cases e : k < ps.length
    · have e' : k < ts.length := by have := h.len; omega
      rw [List.getElem_append_left e, List.getElem_append_left e']
      exact ⟨hop (Nat.le_refl _) (h.ops k e e').1, (h.ops k e e').2⟩
    · have hl := h.len
      have ek : k = ps.length := by simp at h1; omega
      subst ek
      rw [List.getElem_append_right (Nat.le_refl _), List.getElem_append_right (by omega)]
      simp only [Nat.sub_self, List.getElem_cons_zero, hl]
      exact ⟨hop hbb ho, hc⟩
  · refine ownsRow_same h.ls fun b hb => ?_
    have hx := ownsRow_block h.ls b hb
    rw [hset b (by omega)]
    exact hk b hx.2.1 (own_ne h.ls h.tx (by decide) b hb)
  · exact hbel.setCell (p := ⟨B4, 0, none⟩) (by show W0.heap.size ≤ B4; omega) _
  · rw [setSz]
    exact Nat.le_trans h.le hg.size
/-- One more list. -/
theorem StoS.addL {u' x : Value} (h : StoS wr W0 B2 B4 base v u ps ts vs) (hg : wr.grownBy wr' u.ownBlock) (ht : LsR wr' base u' (vs ++ [x])) :
    StoS (wr'.setCell ⟨B4, 1, none⟩ u') W0 B2 B4 base v u' ps ts (vs ++ [x]) ∧ Below W0.heap.size W0 wr' := by
  have hv : ∀ b, u.ownBlock = some b → base ≤ b := fun b hb => (ownsRow_block h.ls b hb).1
  have hk : ∀ b, b < wr.heap.size → u.ownBlock ≠ some b → wr'.heap[b]? = wr.heap[b]? := fun b hb hne => hg.block b hb (fun e => hne e.symm)
  have hw0 := h.w0
  have hb24 := h.b24
  have hb4 := h.b4
  have hle := h.le
  have hbel : Below W0.heap.size W0 wr' := h.bel.grown hg h.bel.size (fun b hb => by have := hv b hb; omega)
  have hout : wr'.heap[B4]? = some (.cells #[v, u] 28 (0, 0)) := (hk B4 (lt_of_heap h.out) (fun e => by have := hv _ e; omega)).trans h.out
  have hset : ∀ b, b ≠ B4 → (wr'.setCell ⟨B4, 1, none⟩ u').heap[b]? = wr'.heap[b]? := fun b hb => Below.heap_setCell wr' ⟨B4, 1, none⟩ u' b hb
  refine ⟨⟨?_, ?_, ?_, h.len, ?_, ?_, ?_, h.w0, h.b24, h.b4, ?_⟩, hbel⟩
  · rw [heap_setCell_same wr' B4 1 _ 28 _ hout]; rfl
  · rw [hset B2 (by omega)]
    exact (hk B2 (lt_of_heap h.res) (fun e => by have := hv _ e; omega)).trans h.res
  · refine ownsRow_same h.tx fun b hb => ?_
    have hx := ownsRow_block h.tx b hb
    rw [hset b (by omega)]
    exact hk b hx.2.1 (own_ne h.tx h.ls (by decide) b hb)
  · intro k h1 h2
    refine ⟨ownsRow_same (h.ops k h1 h2).1 fun b hb => ?_, (h.ops k h1 h2).2⟩
    have hx := ownsRow_block (h.ops k h1 h2).1 b hb
    rw [hset b (by omega)]
    exact hk b hx.2.1 (own_ne (h.ops k h1 h2).1 h.ls (by decide) b hb)
  · exact ownsRow_same ht fun b hb => hset b (by have := (ownsRow_block ht b hb).1; omega)
  · exact hbel.setCell (p := ⟨B4, 1, none⟩) (by show W0.heap.size ≤ B4; omega) _
  · rw [setSz]
    exact Nat.le_trans h.le hg.size
end
end Go.Proofs.YtodanhjookgbeaaDoor
