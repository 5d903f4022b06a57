/-
  A story that is copied, in memory: rows of ops, of transactions, of lists that are appended to.
-/
import Derived.Test.YtaopigjhdkdklaaDoorIsM
import Derived.Test.YtaopigjhdkdklaaDoorSmIZ
import Derived.Test.YtaopigjhdkdklaaDoorRgL
import Derived.Maps.AppendAt
namespace Go.Proofs.YtaopigjhdkdklaaDoor
open Go.RowKit

theorem flat_len {α : Type} {c : α → List Value} {m : Nat} (hc : ∀ x, (c x).length = m) : ∀ l : List α, (l.flatMap c).length = l.length * m
  | [] => by simp
  | x :: l => by
    rw [List.flatMap_cons, List.length_append, flat_len hc l, hc, List.length_cons, Nat.add_mul]
    omega
theorem flat_at {α : Type} {c : α → List Value} {m : Nat} (hc : ∀ x, (c x).length = m) : ∀ (l : List α) (k j : Nat) (hk : k < l.length), j < m → (l.flatMap c)[k * m + j]? = (c l[k])[j]?
  | [], k, _, hk, _ => absurd hk (by simp)
  | x :: l, 0, j, _, hj => by
    rw [List.flatMap_cons, List.getElem?_append_left (by rw [hc]; omega), Nat.zero_mul, Nat.zero_add]
    rfl
  | x :: l, k + 1, j, hk, hj => by
    rw [List.flatMap_cons, List.getElem?_append_right (by rw [hc, Nat.add_mul]; omega), hc, show (k + 1) * m + j - m = k * m + j by rw [Nat.add_mul]; omega]
    exact flat_at hc l k j (by simpa using hk) hj
def opL (o : IOp) : List Value := [.bool o.wr, .int .i64 o.key, .int .i64 o.frm, .int .i64 o.num]
def opC (l : List IOp) : List Value := l.flatMap opL
def txL (p : Value × Bool) : List Value := [p.1, .bool p.2]
def txC (l : List (Value × Bool)) : List Value := l.flatMap txL
theorem opC_app (l : List IOp) (o : IOp) : opC (l ++ [o]) = opC l ++ opL o := by simp [opC]
theorem txC_app (l : List (Value × Bool)) (p : Value × Bool) : txC (l ++ [p]) = txC l ++ txL p := by simp [txC]
theorem info68 : (Tryd.prog.info? 91).map (fun i => (i.zero, i.size, i.bytes)) = some (some (.agg #[.bool false, .int .i64 0, .int .i64 0, .int .i64 0]), 4, 32) := by kernel_rfl
theorem info62 : (Tryd.prog.info? 90).map (fun i => (i.zero, i.size, i.bytes)) = some (some (.agg #[.slice none 0 0, .bool false]), 2, 32) := by kernel_rfl
/-- Ops, transactions, lists that are owned. -/
def OpR (w : World) (base : Nat) (v : Value) (l : List IOp) : Prop := w.ownsRow base 91 4 v l.length (opC l)
theorem run_appO {w : World} {base B : Nat} {v : Value} {L : List IOp} {o : IOp} (hown : OpR w base v L) (hB : IOpAt w B 0 o) (hb : base ≤ w.heap.size) (hlen : (L.length + 1) * 32 ≤ 140737488355328) (ty : TypeId) :
    ∃ v' w', (Builtin.append_ #[88, 88] ty #[v, .slice (some ⟨B, 0, none⟩) 1 1]).run Tryd.prog w = .ok v' w' ∧ OpR w' base v' (L ++ [o]) ∧ w.grownBy w' v.ownBlock ∧ (v'.ownBlock = v.ownBlock ∨ v'.ownBlock = some w.heap.size) := by
  obtain ⟨i, hi, hz, hsz, hby⟩ := info_parts' info68
  have hnews : ∀ j u, (opL o)[j]? = some u → w.cell? ((⟨B, 0, none⟩ : Addr).add j) = some u := by
    intro j u hj
    rw [Addr.add_mid, Nat.zero_add]
    match j, hj with
    | 0, hj => simp [opL] at hj; subst hj; exact hB.1
    | 1, hj => simp [opL] at hj; subst hj; exact hB.2.1
    | 2, hj => simp [opL] at hj; subst hj; exact hB.2.2.1
    | 3, hj => simp [opL] at hj; subst hj; exact hB.2.2.2
    | k + 4, hj => simp [opL] at hj
  obtain ⟨v', w', hr, ho, hg, _, hob⟩ := run_append_own_at (P := Tryd.prog) (w := w) base 88 ty 91 i _ 4 32 Tryd.underlying88 hi hz hsz hby rfl (by decide) v _ _ hown ⟨B, 0, none⟩ 1 1 (opL o) rfl hnews (by simp [opL, Value.oneCell']) (by unfold maxLen; omega) (by omega) hb
  refine ⟨v', w', hr, ?_, hg, hob⟩
  unfold OpR
  rw [opC_app, List.length_append]
  exact ho
theorem own_cells {w : World} {base : Nat} {e : TypeId} {m : Nat} {v : Value} {n : Nat} {xs : List Value} (h : w.ownsRow base e m v n xs) : (v = .slice none 0 0 ∧ n = 0) ∨ ∃ g cap, v = .slice (some ⟨g, 0, none⟩) n cap ∧ n ≤ cap ∧ g < w.heap.size ∧ ∀ k, k < n * m → w.cell? ⟨g, k, none⟩ = xs[k]? := by
  obtain ⟨hl, ⟨rfl, h0⟩ | ⟨g, cap, cur, rfl, hb, hh, h1, h2, h3, h4⟩⟩ := h
  · exact .inl ⟨rfl, h0⟩
  · refine .inr ⟨g, cap, rfl, h1, lt_of_heap hh, fun k hk => ?_⟩
    rw [cell_of_row _ _ _ _ e _ hh]
    have e' : (cur.toList.take (n * m))[k]? = xs[k]? := by rw [h4]
    rw [List.getElem?_take_of_lt hk, Array.getElem?_toList] at e'
    exact e'
theorem opR_q {w : World} {base : Nat} {v : Value} {l : List IOp} (h : OpR w base v l) : ∃ a cap, v = .slice a l.length cap ∧ l.length ≤ cap ∧ IOpsQ w a l := by
  rcases own_cells h with ⟨rfl, h0⟩ | ⟨g, cap, rfl, hc, hg, hk⟩
  · have : l = [] := List.eq_nil_of_length_eq_zero h0
    subst this
    exact ⟨none, 0, rfl, Nat.le_refl _, .inl rfl⟩
  · refine ⟨_, cap, rfl, hc, .inr ⟨g, 0, rfl, hg, fun k hkl => ?_⟩⟩
    have hh : ∀ j, j < 4 → w.cell? ⟨g, 0 + k * 4 + j, none⟩ = (opL l[k])[j]? := fun j hj => by
      rw [Nat.zero_add, hk _ (by omega)]
      exact flat_at (c := opL) (m := 4) (fun _ => rfl) l k j hkl hj
    exact ⟨hh 0 (by omega), hh 1 (by omega), hh 2 (by omega), hh 3 (by omega)⟩
end Go.Proofs.YtaopigjhdkdklaaDoor
