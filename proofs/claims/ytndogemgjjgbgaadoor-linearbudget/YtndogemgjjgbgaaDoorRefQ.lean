/-
  The document's Step of a queue, of a stack: walked.
-/
import Derived.Test.YtndogemgjjgbgaaDoorCallWZ
import Derived.Laws.OwnMore
import Derived.Deep.RegionLaw
namespace Go.Proofs.YtndogemgjjgbgaaDoor
open Go.RowKit

/-- append in a region that draws, out of the equation of its run. -/
theorem step_append_run {P : Program} {ops : Array Oper} {o : Oper} {a : Act} {w : World} {K : Act → World → Prop} {Q : Exit → Act → World → Prop} {E : Prop} (hgd : o.guard = none) (s x : Operand) (t : TypeId)
    (ho : o.op = .call { callee := .builtin .append, args := #[s, x], argTypes := #[t, t] }) (v xv v' : Value) (w' : World) (hs : a.eval s = v) (hx : a.eval x = xv) (hr : (Builtin.append_ #[t, t] o.type #[v, xv]).run P w = .ok v' w')
    (hK : K (a.put o.dst v') w') : if Region.wanted o (yielded ops a.tmps) = true then Oper.wp P o a w K Q else E := by
  have hw : Region.wanted o (yielded ops a.tmps) = true := by simp [Region.wanted, hgd]
  rw [if_pos hw]
  unfold Oper.wp execOp
  simp only [ho, resolve, invoke, builtin, Sem.run_bind, Sem.run_pure, Result.andThen_ok, List.map_toArray, List.map_cons, List.map_nil, hs, hx, hr]
  exact hK

/-- A row of one's own that begins its block. -/
abbrev Own (w : World) (base : Nat) (v : Value) (st : List Int) : Prop := w.ownsRow base 3 1 v st.length (st.map (Value.int .i64))

theorem run_app {w : World} {base : Nat} {v x : Value} {st zs : List Int} (hown : Own w base v st) (hx : HasInts w x zs) (hb : base ≤ w.heap.size) (hlen : st.length + zs.length ≤ 100000) (ty : TypeId) :
    ∃ v' w', (Builtin.append_ #[23, 23] ty #[v, x]).run Tryd.prog w = .ok v' w' ∧ Own w' base v' (st ++ zs) ∧ w.grownBy w' v.ownBlock := by
  obtain ⟨a, cap, rfl, h1, h2, hn, h⟩ := hx
  obtain ⟨i, hi, hz, hsz, hby⟩ := info_parts info3
  cases a with
  | none =>
    obtain rfl := hn rfl
    obtain rfl : zs = [] := List.length_eq_zero_iff.1 (by omega)
    exact ⟨v, w, run_append_owned_none w base 23 ty 3 i 1 Tryd.underlying23 hi v _ _ hown, by simpa using hown, grown_refl _ _⟩
  | some A =>
    have hnews : ∀ j u, (zs.map (Value.int .i64))[j]? = some u → w.cell? (A.add j) = some u := by
      intro j u hu
      obtain ⟨hj, rfl⟩ := map_getElem? hu
      obtain h | ⟨b, off, e, hc⟩ := h
      · subst h; simp at hj
      · obtain rfl := Option.some.inj e
        rw [Addr.add_lit]; exact hc j hj
    obtain ⟨v', w', hr, ho, hg, _⟩ := run_append_own w base 23 ty 3 i _ 1 8 Tryd.underlying23 hi hz hsz hby rfl (by decide) v _ _ hown A zs.length cap (zs.map (Value.int .i64)) (by simp) hnews (one_cells zs) (by unfold maxLen; omega) (by omega) hb
    exact ⟨v', w', hr, by show w'.ownsRow base 3 1 v' (st ++ zs).length ((st ++ zs).map _); rw [List.length_append, List.map_append]; exact ho, hg⟩

theorem own_empty (w : World) (base : Nat) (hb : base ≤ w.heap.size) : Own (w.alloc (.cells #[] 3)) base (.slice (some ⟨w.heap.size, 0, none⟩) 0 0) [] := World.ownsRow_made w #[] 0 hb (by decide) (by simp)
theorem Own.kept {w w' : World} {base : Nat} {v : Value} {st : List Int} (h : Own w base v st) (hg : w.grownBy w' none) : Own w' base v st := World.ownsRow.kept h hg (Classical.em _)
theorem own_lt {w : World} {base : Nat} {v : Value} {st : List Int} (h : Own w base v st) : ∀ k, v.ownBlock = some k → base ≤ k := fun k hk => (World.ownsRow.lt h k hk).1

theorem hasInts_one (w : World) (x : Int) : HasInts (w.alloc (.cells #[.int .i64 x] 3)) (.slice (some ⟨w.heap.size, 0, none⟩) 1 1) [x] := (rowAt_one w x rfl (Nat.le_refl _)).has

set_option maxRecDepth 100000 in
set_option maxHeartbeats 1000000 in
theorem refStep_push (o a b : Int) (st : List Int) (v : Value) (w : World) (ho : o = 4 ∨ o = 5) (hv : HasInts w v st) (hlen : st.length ≤ 1000) :
    Calls Tryd.prog 39 #[.int .i64 o, v, .int .i64 9, .int .i64 a, .int .i64 b] w fun e w' => StepTold w (some (st ++ [a], 0)) e w' := by
  have G0 := World.grownBy_alloc w (.cells #[] 3) none
  obtain ⟨V1, W1, hrun1, O1, G1⟩ := run_app (own_empty w w.heap.size (Nat.le_refl _)) (hv.kept G0) G0.size (by simp; omega) 23
  have B1 : Below w.heap.size w W1 := (below_grown G0).grown G1 G0.size (fun k hk => by simp [Value.ownBlock] at hk; omega)
  have G2 := World.grownBy_alloc W1 (.cells #[.int .i64 a] 3) none
  obtain ⟨V2, W2, hrun2, O2, G3⟩ := run_app (O1.kept G2) (hasInts_one W1 a) (Nat.le_trans B1.size G2.size) (by simp; omega) 23
  have B2 : Below w.heap.size w W2 := (B1.grown G2 B1.size (fun k hk => by cases hk)).grown G3 (Nat.le_trans B1.size G2.size) (own_lt (O1.kept G2))
  have RES := hideIt (show StepTold w (some (st ++ [a], 0)) (.returned (.tuple #[V2, .int .i64 0, .bool true])) W2 from ⟨B2, V2, rfl, rowAt_owns (st := st ++ [a]) O2⟩)
  have hrun1' := hideIt hrun1
  have hrun2' := hideIt hrun2
  clear hrun1 hrun2 G0 O1 G1 B1 G2 O2 G3 B2
  have HT := hideIt (refStart_any o w)
  have HS := hideIt (refKnows_any o 9 w)
  have e1 : oneB o = false := by rcases ho with rfl | rfl <;> rfl
  have e2 : knowsB o 9 = true := by rcases ho with rfl | rfl <;> rfl
  simp only [startV, startW, e1] at HT
  rw [e2] at HS
  have q := q47
  obtain ⟨A, cap, rfl, hv'⟩ := hv
  clear ho e1 e2 hv'
  go_enter Tryd.func39, Tryd.ntmps39
  go_wp2_with (first | (go_at_call 16; refine HS.out.mono ?_; rintro e w1 ⟨rfl, rfl⟩) | (go_at_call 38; refine HT.out.mono ?_; rintro e w2 ⟨rfl, rfl⟩) | (at_builtin; refine Lib.wpList_append_run _ rfl _ _ 23 23 rfl _ _ rfl rfl V1 W1 hrun1'.out ?_) | (at_builtin; refine Lib.wpList_append_run _ rfl _ _ 23 23 rfl _ _ rfl rfl V2 W2 hrun2'.out ?_))
  go_ret3
  exact RES.out

set_option maxRecDepth 100000 in
set_option maxHeartbeats 1000000 in
theorem refStep_none (o a b : Int) (A : Option Addr) (cap : Nat) (w : World) (ho : o = 4 ∨ o = 5) :
    Calls Tryd.prog 39 #[.int .i64 o, .slice A 0 cap, .int .i64 10, .int .i64 a, .int .i64 b] w fun e w' => StepTold w (some ([], -1)) e w' := by
  have HT := hideIt (refStart_any o w)
  have HS := hideIt (refKnows_any o 10 w)
  have e1 : oneB o = false := by rcases ho with rfl | rfl <;> rfl
  have e2 : knowsB o 10 = true := by rcases ho with rfl | rfl <;> rfl
  simp only [startV, startW, e1] at HT
  rw [e2] at HS
  have q := q47
  clear ho e1 e2
  go_enter Tryd.func39, Tryd.ntmps39
  go_wp2_with (first | (go_at_call 16; refine HS.out.mono ?_; rintro e w1 ⟨rfl, rfl⟩) | (go_at_call 38; refine HT.out.mono ?_; rintro e w2 ⟨rfl, rfl⟩))
  go_ret3
  exact ⟨Below.refl _ _, _, rfl, rowAt_nil _ _⟩

theorem HasInts.drop1 {w : World} {g off cap : Nat} {st : List Int} (h : HasInts w (.slice (some ⟨g, off, none⟩) st.length cap) st) (h0 : 0 < st.length) :
    HasInts w (.slice (if cap = 1 then some ⟨g, off, none⟩ else some ⟨g, off + 1, none⟩) (st.length - 1) (cap - 1)) (st.drop 1) := by
  obtain ⟨a, cap', e, h1, h2, _, h | ⟨g', off', e', h⟩⟩ := h
  · subst h; simp at h0
  · subst e'
    obtain ⟨⟨rfl, rfl⟩, rfl⟩ : (g = g' ∧ off = off') ∧ cap = cap' := by simpa using e
    by_cases hc : cap = 1
    · rw [if_pos hc]
      exact ⟨some ⟨g, off, none⟩, cap - 1, by simp, by simp; omega, by omega, fun e => (by cases e), .inl (by apply List.drop_eq_nil_of_le; omega)⟩
    · rw [if_neg hc]
      refine ⟨_, cap - 1, by simp, by simp; omega, by omega, fun e => (by cases e), .inr ⟨g, off + 1, rfl, fun j hj => ?_⟩⟩
      have := h (1 + j) (by simp at hj; omega)
      rw [List.getElem_drop, show off + 1 + j = off + (1 + j) by omega]
      exact this

theorem HasInts.init {w : World} {g off cap : Nat} {st : List Int} (h : HasInts w (.slice (some ⟨g, off, none⟩) st.length cap) st) :
    HasInts w (.slice (some ⟨g, off, none⟩) (st.length - 1) cap) (st.take (st.length - 1)) := by
  obtain ⟨a, cap', e, h1, h2, _, h | ⟨g', off', e', h⟩⟩ := h
  · obtain ⟨_, rfl⟩ : some ⟨g, off, none⟩ = a ∧ cap = cap' := by simpa using e
    exact ⟨some ⟨g, off, none⟩, cap, by simp, by simp; omega, by omega, fun e => (by cases e), .inl (by simp [h])⟩
  · subst e'
    obtain ⟨⟨rfl, rfl⟩, rfl⟩ : (g = g' ∧ off = off') ∧ cap = cap' := by simpa using e
    refine ⟨_, cap, by simp, by simp; omega, by omega, fun e => (by cases e), .inr ⟨g, off, rfl, fun j hj => ?_⟩⟩
    rw [List.getElem_take]
    exact h j (by simp at hj; omega)

set_option maxRecDepth 100000 in
set_option maxHeartbeats 1000000 in
theorem refStep_queue (a b : Int) (st : List Int) (g off cap : Nat) (w : World) (hv : HasInts w (.slice (some ⟨g, off, none⟩) st.length cap) st) (hpos : 0 < st.length) (hlen : st.length ≤ 1000) (hc : ¬ cap = 1) :
    Calls Tryd.prog 39 #[.int .i64 4, .slice (some ⟨g, off, none⟩) st.length cap, .int .i64 10, .int .i64 a, .int .i64 b] w fun e w' => StepTold w (some (st.drop 1, st[0])) e w' := by
  have G0 := (World.grownBy_alloc w (.cells #[] 3) none).trans (grown_drew _ _)
  obtain ⟨V1, W1, hrun1, O1, G1⟩ := run_app ((own_empty w w.heap.size (Nat.le_refl _)).kept (grown_drew _ _)) ((hv.drop1 hpos).kept G0) G0.size (by simp; omega) 23
  have B1 : Below w.heap.size w W1 := (below_grown G0).grown G1 G0.size (fun k hk => by simp [Value.ownBlock] at hk; omega)
  have c0 : w.cell? ⟨g, off, none⟩ = some (.int .i64 st[0]) := by
    obtain ⟨a', cap', e, h1, h2, _, h | ⟨g', off', e', h⟩⟩ := hv
    · subst h; simp at hpos
    · subst e'
      obtain ⟨⟨rfl, rfl⟩, rfl⟩ : (g = g' ∧ off = off') ∧ cap = cap' := by simpa using e
      exact h 0 hpos
  have c1 := G0.cell c0 (by simp)
  have c2 := (B1.cell (World.block_lt_of_cell? w _ c0)).trans c0
  have hcap : st.length ≤ cap ∧ cap ≤ 9223372036854775807 := by
    obtain ⟨a', cap', e, h1, h2, _⟩ := hv
    obtain ⟨_, rfl⟩ : some ⟨g, off, none⟩ = a' ∧ cap = cap' := by simpa using e
    unfold maxLen at h2
    exact ⟨h1, by omega⟩
  obtain ⟨hcap1, hcap2⟩ := hcap
  obtain ⟨x, hx⟩ : ∃ x, x = st[0] := ⟨_, rfl⟩
  rw [← hx] at c0 c1 c2 ⊢
  have RES := hideIt (show StepTold w (some (st.drop 1, x)) (.returned (.tuple #[V1, .int .i64 x, .bool true])) W1 from ⟨B1, V1, rfl, rowAt_owns (st := st.drop 1) O1⟩)
  have HR := hideIt hrun1
  have HT := hideIt (refStart_any 4 w)
  have HS := hideIt (refKnows_any 4 10 w)
  simp only [startV, startW, show oneB 4 = false from rfl] at HT
  rw [show knowsB 4 10 = true from rfl] at HS
  have q := q47
  have k1 : (1 : Int) ≤ (st.length : Int) := by omega
  have k2 : (st.length : Int) ≤ (cap : Int) := by omega
  have k3 : (0 : Int) < (st.length : Int) := by omega
  have k4 : ((st.length : Int) == 0) = false := beq_false_of_ne (by omega)
  have k5 : (1 : Int) ≤ (cap : Int) := by omega
  clear hv G0 G1 B1 O1 hrun1 hx
  rw [if_neg hc] at HR
  go_enter Tryd.func39, Tryd.ntmps39
  go_wp2_with (first | (go_at_call 16; refine HS.out.mono ?_; rintro e w1 ⟨rfl, rfl⟩) | (go_at_call 38; refine HT.out.mono ?_; rintro e w2 ⟨rfl, rfl⟩) | fail)
  go_region_law (refine step_append_run (by rfl) _ _ 23 (by rfl) _ _ V1 W1 (by rfl) (by rfl) HR.out ?_)
  all_goals
    go_wp2
    go_ret3
    exact RES.out

set_option maxRecDepth 100000 in
set_option maxHeartbeats 1000000 in
theorem refStep_queue1 (a b x : Int) (g off : Nat) (w : World) (c0 : w.cell? ⟨g, off, none⟩ = some (.int .i64 x)) :
    Calls Tryd.prog 39 #[.int .i64 4, .slice (some ⟨g, off, none⟩) 1 1, .int .i64 10, .int .i64 a, .int .i64 b] w fun e w' => StepTold w (some ([], x)) e w' := by
  have G0 := (World.grownBy_alloc w (.cells #[] 3) none).trans (grown_drew _ _)
  have hv : HasInts (w.alloc (.cells #[] 3)).drew (.slice (some ⟨g, off, none⟩) 0 0) [] := ⟨_, 0, rfl, by decide, by decide, fun _ => rfl, .inl rfl⟩
  obtain ⟨V1, W1, hrun1, O1, G1⟩ := run_app ((own_empty w w.heap.size (Nat.le_refl _)).kept (grown_drew _ _)) hv G0.size (by simp) 23
  have B1 : Below w.heap.size w W1 := (below_grown G0).grown G1 G0.size (fun k hk => by simp [Value.ownBlock] at hk; omega)
  have c1 := G0.cell c0 (by simp)
  have c2 := (B1.cell (World.block_lt_of_cell? w _ c0)).trans c0
  have RES := hideIt (show StepTold w (some ([], x)) (.returned (.tuple #[V1, .int .i64 x, .bool true])) W1 from ⟨B1, V1, rfl, rowAt_owns (st := []) O1⟩)
  have HR := hideIt hrun1
  have HT := hideIt (refStart_any 4 w)
  have HS := hideIt (refKnows_any 4 10 w)
  simp only [startV, startW, show oneB 4 = false from rfl] at HT
  rw [show knowsB 4 10 = true from rfl] at HS
  have q := q47
  clear hv G0 G1 B1 O1 hrun1
  go_enter Tryd.func39, Tryd.ntmps39
  go_wp2_with (first | (go_at_call 16; refine HS.out.mono ?_; rintro e w1 ⟨rfl, rfl⟩) | (go_at_call 38; refine HT.out.mono ?_; rintro e w2 ⟨rfl, rfl⟩) | fail)
  go_region_law (refine step_append_run (by rfl) _ _ 23 (by rfl) _ _ V1 W1 (by rfl) (by rfl) HR.out ?_)
  all_goals
    go_wp2
    go_ret3
    exact RES.out

set_option maxRecDepth 100000 in
set_option maxHeartbeats 1000000 in
theorem refStep_stack (a b : Int) (st : List Int) (g off cap : Nat) (w : World) (hv : HasInts w (.slice (some ⟨g, off, none⟩) st.length cap) st) (hpos : 0 < st.length) (hlen : st.length ≤ 1000) :
    Calls Tryd.prog 39 #[.int .i64 5, .slice (some ⟨g, off, none⟩) st.length cap, .int .i64 10, .int .i64 a, .int .i64 b] w fun e w' => StepTold w (some (st.take (st.length - 1), st[st.length - 1]'(by omega))) e w' := by
  have G0 := (World.grownBy_alloc w (.cells #[] 3) none).trans (grown_drew _ _)
  obtain ⟨V1, W1, hrun1, O1, G1⟩ := run_app ((own_empty w w.heap.size (Nat.le_refl _)).kept (grown_drew _ _)) ((hv.init).kept G0) G0.size (by simp; omega) 23
  have B1 : Below w.heap.size w W1 := (below_grown G0).grown G1 G0.size (fun k hk => by simp [Value.ownBlock] at hk; omega)
  have c0 : w.cell? ⟨g, off + (st.length - 1), none⟩ = some (.int .i64 (st[st.length - 1]'(by omega))) := by
    obtain ⟨a', cap', e, h1, h2, _, h | ⟨g', off', e', h⟩⟩ := hv
    · subst h; simp at hpos
    · subst e'
      obtain ⟨⟨rfl, rfl⟩, rfl⟩ : (g = g' ∧ off = off') ∧ cap = cap' := by simpa using e
      exact h (st.length - 1) (by omega)
  have c1 := G0.cell c0 (by simp)
  have c2 := (B1.cell (World.block_lt_of_cell? w _ c0)).trans c0
  have hcap : st.length ≤ cap ∧ cap ≤ 9223372036854775807 := by
    obtain ⟨a', cap', e, h1, h2, _⟩ := hv
    obtain ⟨_, rfl⟩ : some ⟨g, off, none⟩ = a' ∧ cap = cap' := by simpa using e
    unfold maxLen at h2
    exact ⟨h1, by omega⟩
  obtain ⟨hcap1, hcap2⟩ := hcap
  obtain ⟨x, hx⟩ : ∃ x, x = st[st.length - 1]'(by omega) := ⟨_, rfl⟩
  rw [← hx] at c0 c1 c2 ⊢
  have RES := hideIt (show StepTold w (some (st.take (st.length - 1), x)) (.returned (.tuple #[V1, .int .i64 x, .bool true])) W1 from ⟨B1, V1, rfl, rowAt_owns (st := st.take (st.length - 1)) O1⟩)
  have HR := hideIt hrun1
  have HT := hideIt (refStart_any 5 w)
  have HS := hideIt (refKnows_any 5 10 w)
  simp only [startV, startW, show oneB 5 = false from rfl] at HT
  rw [show knowsB 5 10 = true from rfl] at HS
  have q := q47
  obtain ⟨n, hn⟩ : ∃ n, st.length = n + 1 := ⟨st.length - 1, by omega⟩
  have k0 : IntKind.i64.wrap (((n + 1 : Nat) : Int) - 1) = (n : Int) := by rw [IntKind.wrap_i64]; omega
  have k6 : IntKind.i64.wrap (n : Int) = (n : Int) := by rw [IntKind.wrap_i64]; omega
  have k7 : (n : Int) < (n : Int) + 1 := by omega
  have k1 : (0 : Int) ≤ (n : Int) := by omega
  have k2 : (n : Int) < ((n + 1 : Nat) : Int) := by omega
  have k3 : (n : Int) ≤ (cap : Int) := by omega
  have k4 : (((n + 1 : Nat) : Int) == 0) = false := beq_false_of_ne (by omega)
  rw [hn] at c0 c1 c2 HR RES ⊢
  rw [Nat.add_sub_cancel] at c0 c1 c2 HR RES ⊢
  clear hn
  clear hv G0 G1 B1 O1 hrun1 hx
  go_enter Tryd.func39, Tryd.ntmps39
  go_wp2_with (first | (go_at_call 16; refine HS.out.mono ?_; rintro e w1 ⟨rfl, rfl⟩) | (go_at_call 38; refine HT.out.mono ?_; rintro e w2 ⟨rfl, rfl⟩) | fail)
  go_region_law (refine step_append_run (by rfl) _ _ 23 (by rfl) _ _ V1 W1 (by rfl) (by rfl) HR.out ?_)
  all_goals
    go_wp2
    go_ret3
    exact RES.out

end Go.Proofs.YtndogemgjjgbgaaDoor
