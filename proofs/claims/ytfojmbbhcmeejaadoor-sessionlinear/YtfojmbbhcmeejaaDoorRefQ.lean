/-
  The document's Step of a queue, of a stack: walked.
-/
import Derived.Test.YtfojmbbhcmeejaaDoorCallWZ
import Derived.Laws.OwnMore
import Derived.Deep.RegionLaw
namespace Go.Proofs.YtfojmbbhcmeejaaDoor
open Go.RowKit

/-- append in a region that draws, out of the equation of its run. -/
theorem step_append_run {P : Program} {ops : Array Oper} {o : Oper} {a : Act} {w : World} {K : Act → World → Prop} {Q : Exit → Act → World → Prop} {E : Prop} (hgd : o.guard = none) (s x : Operand) (t : TypeId)
    (ho : o.op = .call { callee := .builtin .append, args := #[s, x], argTypes := #[t, t] }) (v xv v' : Value) (w' : World) (hs : a.eval s = v) (hx : a.eval x = xv) (hr : (Builtin.append_ #[t, t] o.type #[v, xv]).run P w = .ok v' w')
    (hK : K (a.put o.dst v') w') : if Region.wanted o (yielded ops a.tmps) = true then Oper.wp P o a w K Q else E := by
  have hw : Region.wanted o (yielded ops a.tmps) = true := by simp [Region.wanted, hgd]
  rw [if_pos hw]
  unfold Oper.wp execOp
  simp only [ho, resolve, invoke, builtin, Sem.run_bind, Sem.run_pure, Result.andThen_ok, List.map_toArray, List.map_cons, List.map_nil, hs, hx, hr]
  exact hK

/-- A row of one's own that begins its block. -/
abbrev Own (w : World) (base : Nat) (v : Value) (st : List Int) : Prop := w.ownsRow base 3 1 v st.length (st.map (Value.int .i64))

theorem run_app {w : World} {base : Nat} {v x : Value} {st zs : List Int} (hown : Own w base v st) (hx : HasInts w x zs) (hb : base ≤ w.heap.size) (hlen : st.length + zs.length ≤ 100000) (ty : TypeId) :
    ∃ v' w', (Builtin.append_ #[41, 41] ty #[v, x]).run Tryd.prog w = .ok v' w' ∧ Own w' base v' (st ++ zs) ∧ w.grownBy w' v.ownBlock := by
  obtain ⟨a, cap, rfl, h1, h2, hn, h⟩ := hx
  obtain ⟨i, hi, hz, hsz, hby⟩ := info_parts info3
  cases a with
  | none =>
    obtain rfl := hn rfl
    obtain rfl : zs = [] := List.length_eq_zero_iff.1 (by omega)
    exact ⟨v, w, run_append_owned_none w base 41 ty 3 i 1 Tryd.underlying41 hi v _ _ hown, by simpa using hown, grown_refl _ _⟩
  | some A =>
    have hnews : ∀ j u, (zs.map (Value.int .i64))[j]? = some u → w.cell? (A.add j) = some u := by
      intro j u hu
      obtain ⟨hj, rfl⟩ := map_getElem? hu
      obtain h | ⟨b, off, e, hc⟩ := h
      · subst h; simp at hj
      · obtain rfl := Option.some.inj e
        rw [Addr.add_lit]; exact hc j hj
    obtain ⟨v', w', hr, ho, hg, _⟩ := run_append_own w base 41 ty 3 i _ 1 8 Tryd.underlying41 hi hz hsz hby rfl (by decide) v _ _ hown A zs.length cap (zs.map (Value.int .i64)) (by simp) hnews (one_cells zs) (by unfold maxLen; omega) (by omega) hb
    exact ⟨v', w', hr, by show w'.ownsRow base 3 1 v' (st ++ zs).length ((st ++ zs).map _); rw [List.length_append, List.map_append]; exact ho, hg⟩

theorem own_empty (w : World) (base : Nat) (hb : base ≤ w.heap.size) : Own (w.alloc (.cells #[] 3)) base (.slice (some ⟨w.heap.size, 0, none⟩) 0 0) [] := World.ownsRow_made w #[] 0 hb (by decide) (by simp)
theorem Own.kept {w w' : World} {base : Nat} {v : Value} {st : List Int} (h : Own w base v st) (hg : w.grownBy w' none) : Own w' base v st := World.ownsRow.kept h hg (Classical.em _)
theorem own_lt {w : World} {base : Nat} {v : Value} {st : List Int} (h : Own w base v st) : ∀ k, v.ownBlock = some k → base ≤ k := fun k hk => (World.ownsRow.lt h k hk).1

theorem hasInts_one (w : World) (x : Int) : HasInts (w.alloc (.cells #[.int .i64 x] 3)) (.slice (some ⟨w.heap.size, 0, none⟩) 1 1) [x] := (rowAt_one w x rfl (Nat.le_refl _)).has

theorem HasInts.drop1 {w : World} {g off cap : Nat} {st : List Int} (h : HasInts w (.slice (some ⟨g, off, none⟩) st.length cap) st) (h0 : 0 < st.length) :
    HasInts w (.slice (if cap = 1 then some ⟨g, off, none⟩ else some ⟨g, off + 1, none⟩) (st.length - 1) (cap - 1)) (st.drop 1) := by
  obtain ⟨a, cap', e, h1, h2, _, h | ⟨g', off', e', h⟩⟩ := h
  · subst h; simp at h0
  · subst e'
    obtain ⟨⟨rfl, rfl⟩, rfl⟩ : (g = g' ∧ off = off') ∧ cap = cap' := by simpa using e
    by_cases hc : cap = 1
    · rw [if_pos hc]
      exact ⟨some ⟨g, off, none⟩, cap - 1, by simp, by simp; omega, by omega, fun e => (by cases e), .inl (by apply List.drop_eq_nil_of_le; omega)⟩
    · rw [if_neg hc]
      refine ⟨_, cap - 1, by simp, by simp; omega, by omega, fun e => (by cases e), .inr ⟨g, off + 1, rfl, fun j hj => ?_⟩⟩
      have := h (1 + j) (by simp at hj; omega)
      rw [List.getElem_drop, show off + 1 + j = off + (1 + j) by omega]
      exact this

theorem HasInts.init {w : World} {g off cap : Nat} {st : List Int} (h : HasInts w (.slice (some ⟨g, off, none⟩) st.length cap) st) :
    HasInts w (.slice (some ⟨g, off, none⟩) (st.length - 1) cap) (st.take (st.length - 1)) := by
  obtain ⟨a, cap', e, h1, h2, _, h | ⟨g', off', e', h⟩⟩ := h
  · obtain ⟨_, rfl⟩ : some ⟨g, off, none⟩ = a ∧ cap = cap' := by simpa using e
    exact ⟨some ⟨g, off, none⟩, cap, by simp, by simp; omega, by omega, fun e => (by cases e), .inl (by simp [h])⟩
  · subst e'
    obtain ⟨⟨rfl, rfl⟩, rfl⟩ : (g = g' ∧ off = off') ∧ cap = cap' := by simpa using e
    refine ⟨_, cap, by simp, by simp; omega, by omega, fun e => (by cases e), .inr ⟨g, off, rfl, fun j hj => ?_⟩⟩
    rw [List.getElem_take]
    exact h j (by simp at hj; omega)

end Go.Proofs.YtfojmbbhcmeejaaDoor
