/-
  The document's Step of a queue, of a stack: walked.
  A set's state, put into and dropped from, the document's way: the same where the state rises.
  The document's Step of a set: walked.
-/
import Derived.Test.YtkbjaneekblgmaaGreatDoorCallWZ
import Derived.Laws.OwnMore
import Derived.Deep.RegionLaw
import Derived.Test.YtkbjaneekblgmaaGreatDoorSetAZ
namespace Go.Proofs.YtkbjaneekblgmaaGreatDoor
open Go.RowKit

/-- append in a region that draws, out of the equation of its run. -/
theorem step_append_run {P : Program} {ops : Array Oper} {o : Oper} {a : Act} {w : World} {K : Act → World → Prop} {Q : Exit → Act → World → Prop} {E : Prop} (hgd : o.guard = none) (s x : Operand) (t : TypeId)
    (ho : o.op = .call { callee := .builtin .append, args := #[s, x], argTypes := #[t, t] }) (v xv v' : Value) (w' : World) (hs : a.eval s = v) (hx : a.eval x = xv) (hr : (Builtin.append_ #[t, t] o.type #[v, xv]).run P w = .ok v' w')
    (hK : K (a.put o.dst v') w') : if Region.wanted o (yielded ops a.tmps) = true then Oper.wp P o a w K Q else E := by
  have hw : Region.wanted o (yielded ops a.tmps) = true := by simp [Region.wanted, hgd]
  rw [if_pos hw]
  unfold Oper.wp execOp
  simp only [ho, resolve, invoke, builtin, Sem.run_bind, Sem.run_pure, Result.andThen_ok, List.map_toArray, List.map_cons, List.map_nil, hs, hx, hr]
  exact hK

/-- A row of one's own that begins its block. -/
abbrev Own (w : World) (base : Nat) (v : Value) (st : List Int) : Prop := w.ownsRow base 3 1 v st.length (st.map (Value.int .i64))

theorem run_app {w : World} {base : Nat} {v x : Value} {st zs : List Int} (hown : Own w base v st) (hx : HasInts w x zs) (hb : base ≤ w.heap.size) (hlen : st.length + zs.length ≤ 100000) (ty : TypeId) :
    ∃ v' w', (Builtin.append_ #[24, 24] ty #[v, x]).run Tryz.prog w = .ok v' w' ∧ Own w' base v' (st ++ zs) ∧ w.grownBy w' v.ownBlock := by
  obtain ⟨a, cap, rfl, h1, h2, hn, h⟩ := hx
  obtain ⟨i, hi, hz, hsz, hby⟩ := info_parts info3
  cases a with
  | none =>
    obtain rfl := hn rfl
    obtain rfl : zs = [] := List.length_eq_zero_iff.1 (by omega)
    exact ⟨v, w, run_append_owned_none w base 24 ty 3 i 1 Tryz.underlying24 hi v _ _ hown, by simpa using hown, grown_refl _ _⟩
  | some A =>
    have hnews : ∀ j u, (zs.map (Value.int .i64))[j]? = some u → w.cell? (A.add j) = some u := by
      intro j u hu
      obtain ⟨hj, rfl⟩ := map_getElem? hu
      obtain h | ⟨b, off, e, hc⟩ := h
      · subst h; simp at hj
      · obtain rfl := Option.some.inj e
        rw [Addr.add_lit]; exact hc j hj
    obtain ⟨v', w', hr, ho, hg, _⟩ := run_append_own w base 24 ty 3 i _ 1 8 Tryz.underlying24 hi hz hsz hby rfl (by decide) v _ _ hown A zs.length cap (zs.map (Value.int .i64)) (by simp) hnews (one_cells zs) (by unfold maxLen; omega) (by omega) hb
    exact ⟨v', w', hr, by show w'.ownsRow base 3 1 v' (st ++ zs).length ((st ++ zs).map _); rw [List.length_append, List.map_append]; exact ho, hg⟩

theorem own_empty (w : World) (base : Nat) (hb : base ≤ w.heap.size) : Own (w.alloc (.cells #[] 3)) base (.slice (some ⟨w.heap.size, 0, none⟩) 0 0) [] := World.ownsRow_made w #[] 0 hb (by decide) (by simp)
theorem Own.kept {w w' : World} {base : Nat} {v : Value} {st : List Int} (h : Own w base v st) (hg : w.grownBy w' none) : Own w' base v st := World.ownsRow.kept h hg (Classical.em _)
theorem own_lt {w : World} {base : Nat} {v : Value} {st : List Int} (h : Own w base v st) : ∀ k, v.ownBlock = some k → base ≤ k := fun k hk => (World.ownsRow.lt h k hk).1

theorem hasInts_one (w : World) (x : Int) : HasInts (w.alloc (.cells #[.int .i64 x] 3)) (.slice (some ⟨w.heap.size, 0, none⟩) 1 1) [x] := (rowAt_one w x rfl (Nat.le_refl _)).has

set_option maxRecDepth 100000 in
set_option maxHeartbeats 1000000 in
theorem refStep_push (o a b : Int) (st : List Int) (v : Value) (w : World) (ho : o = 4 ∨ o = 5) (hv : HasInts w v st) (hlen : st.length ≤ 1000) :
    Calls Tryz.prog 37 #[.int .i64 o, v, .int .i64 9, .int .i64 a, .int .i64 b] w fun e w' => StepTold w (some (st ++ [a], 0)) e w' := by
  have G0 := World.grownBy_alloc w (.cells #[] 3) none
  obtain ⟨V1, W1, hrun1, O1, G1⟩ := run_app (own_empty w w.heap.size (Nat.le_refl _)) (hv.kept G0) G0.size (by simp; omega) 24
  have B1 : Below w.heap.size w W1 := (below_grown G0).grown G1 G0.size (fun k hk => by simp [Value.ownBlock] at hk; omega)
  have G2 := World.grownBy_alloc W1 (.cells #[.int .i64 a] 3) none
  obtain ⟨V2, W2, hrun2, O2, G3⟩ := run_app (O1.kept G2) (hasInts_one W1 a) (Nat.le_trans B1.size G2.size) (by simp; omega) 24
  have B2 : Below w.heap.size w W2 := (B1.grown G2 B1.size (fun k hk => by cases hk)).grown G3 (Nat.le_trans B1.size G2.size) (own_lt (O1.kept G2))
  have RES := hideIt (show StepTold w (some (st ++ [a], 0)) (.returned (.tuple #[V2, .int .i64 0, .bool true])) W2 from ⟨B2, V2, rfl, rowAt_owns (st := st ++ [a]) O2⟩)
  have hrun1' := hideIt hrun1
  have hrun2' := hideIt hrun2
  clear hrun1 hrun2 G0 O1 G1 B1 G2 O2 G3 B2
  have HT := hideIt (refStart_any o w)
  have HS := hideIt (refKnows_any o 9 w)
  have e1 : oneB o = false := by rcases ho with rfl | rfl <;> rfl
  have e2 : knowsB o 9 = true := by rcases ho with rfl | rfl <;> rfl
  simp only [startV, startW, e1] at HT
  rw [e2] at HS
  have q := q47
  obtain ⟨A, cap, rfl, hv'⟩ := hv
  clear ho e1 e2 hv'
  go_enter Tryz.func37, Tryz.ntmps37
  go_wp2_with (first | (go_at_call 20; refine HS.out.mono ?_; rintro e w1 ⟨rfl, rfl⟩) | (go_at_call 21; refine HT.out.mono ?_; rintro e w2 ⟨rfl, rfl⟩) | (at_builtin; refine Lib.wpList_append_run _ rfl _ _ 24 24 rfl _ _ rfl rfl V1 W1 hrun1'.out ?_) | (at_builtin; refine Lib.wpList_append_run _ rfl _ _ 24 24 rfl _ _ rfl rfl V2 W2 hrun2'.out ?_))
  go_ret3
  exact RES.out

set_option maxRecDepth 100000 in
set_option maxHeartbeats 1000000 in
theorem refStep_none (o a b : Int) (A : Option Addr) (cap : Nat) (w : World) (ho : o = 4 ∨ o = 5) :
    Calls Tryz.prog 37 #[.int .i64 o, .slice A 0 cap, .int .i64 10, .int .i64 a, .int .i64 b] w fun e w' => StepTold w (some ([], -1)) e w' := by
  have HT := hideIt (refStart_any o w)
  have HS := hideIt (refKnows_any o 10 w)
  have e1 : oneB o = false := by rcases ho with rfl | rfl <;> rfl
  have e2 : knowsB o 10 = true := by rcases ho with rfl | rfl <;> rfl
  simp only [startV, startW, e1] at HT
  rw [e2] at HS
  have q := q47
  clear ho e1 e2
  go_enter Tryz.func37, Tryz.ntmps37
  go_wp2_with (first | (go_at_call 20; refine HS.out.mono ?_; rintro e w1 ⟨rfl, rfl⟩) | (go_at_call 21; refine HT.out.mono ?_; rintro e w2 ⟨rfl, rfl⟩))
  go_ret3
  exact ⟨Below.refl _ _, _, rfl, rowAt_nil _ _⟩

theorem HasInts.drop1 {w : World} {g off cap : Nat} {st : List Int} (h : HasInts w (.slice (some ⟨g, off, none⟩) st.length cap) st) (h0 : 0 < st.length) :
    HasInts w (.slice (if cap = 1 then some ⟨g, off, none⟩ else some ⟨g, off + 1, none⟩) (st.length - 1) (cap - 1)) (st.drop 1) := by
  obtain ⟨a, cap', e, h1, h2, _, h | ⟨g', off', e', h⟩⟩ := h
  · subst h; simp at h0
  · subst e'
    obtain ⟨⟨rfl, rfl⟩, rfl⟩ : (g = g' ∧ off = off') ∧ cap = cap' := by simpa using e
    by_cases hc : cap = 1
    · rw [if_pos hc]
      exact ⟨some ⟨g, off, none⟩, cap - 1, by simp, by simp; omega, by omega, fun e => (by cases e), .inl (by apply List.drop_eq_nil_of_le; omega)⟩
    · rw [if_neg hc]
      refine ⟨_, cap - 1, by simp, by simp; omega, by omega, fun e => (by cases e), .inr ⟨g, off + 1, rfl, fun j hj => ?_⟩⟩
      have := h (1 + j) (by simp at hj; omega)
      rw [List.getElem_drop, show off + 1 + j = off + (1 + j) by omega]
      exact this

theorem HasInts.init {w : World} {g off cap : Nat} {st : List Int} (h : HasInts w (.slice (some ⟨g, off, none⟩) st.length cap) st) :
    HasInts w (.slice (some ⟨g, off, none⟩) (st.length - 1) cap) (st.take (st.length - 1)) := by
  obtain ⟨a, cap', e, h1, h2, _, h | ⟨g', off', e', h⟩⟩ := h
  · obtain ⟨_, rfl⟩ : some ⟨g, off, none⟩ = a ∧ cap = cap' := by simpa using e
    exact ⟨some ⟨g, off, none⟩, cap, by simp, by simp; omega, by omega, fun e => (by cases e), .inl (by simp [h])⟩
  · subst e'
    obtain ⟨⟨rfl, rfl⟩, rfl⟩ : (g = g' ∧ off = off') ∧ cap = cap' := by simpa using e
    refine ⟨_, cap, by simp, by simp; omega, by omega, fun e => (by cases e), .inr ⟨g, off, rfl, fun j hj => ?_⟩⟩
    rw [List.getElem_take]
    exact h j (by simp at hj; omega)

set_option maxRecDepth 100000 in
set_option maxHeartbeats 1000000 in
theorem refStep_queue (a b : Int) (st : List Int) (g off cap : Nat) (w : World) (hv : HasInts w (.slice (some ⟨g, off, none⟩) st.length cap) st) (hpos : 0 < st.length) (hlen : st.length ≤ 1000) (hc : ¬ cap = 1) :
    Calls Tryz.prog 37 #[.int .i64 4, .slice (some ⟨g, off, none⟩) st.length cap, .int .i64 10, .int .i64 a, .int .i64 b] w fun e w' => StepTold w (some (st.drop 1, st[0])) e w' := by
  have G0 := (World.grownBy_alloc w (.cells #[] 3) none).trans (grown_drew _ _)
  obtain ⟨V1, W1, hrun1, O1, G1⟩ := run_app ((own_empty w w.heap.size (Nat.le_refl _)).kept (grown_drew _ _)) ((hv.drop1 hpos).kept G0) G0.size (by simp; omega) 24
  have B1 : Below w.heap.size w W1 := (below_grown G0).grown G1 G0.size (fun k hk => by simp [Value.ownBlock] at hk; omega)
  have c0 : w.cell? ⟨g, off, none⟩ = some (.int .i64 st[0]) := by
    obtain ⟨a', cap', e, h1, h2, _, h | ⟨g', off', e', h⟩⟩ := hv
    · subst h; simp at hpos
    · subst e'
      obtain ⟨⟨rfl, rfl⟩, rfl⟩ : (g = g' ∧ off = off') ∧ cap = cap' := by simpa using e
      exact h 0 hpos
  have c1 := G0.cell c0 (by simp)
  have c2 := (B1.cell (World.block_lt_of_cell? w _ c0)).trans c0
  have hcap : st.length ≤ cap ∧ cap ≤ 9223372036854775807 := by
    obtain ⟨a', cap', e, h1, h2, _⟩ := hv
    obtain ⟨_, rfl⟩ : some ⟨g, off, none⟩ = a' ∧ cap = cap' := by simpa using e
    unfold maxLen at h2
    exact ⟨h1, by omega⟩
  obtain ⟨hcap1, hcap2⟩ := hcap
  obtain ⟨x, hx⟩ : ∃ x, x = st[0] := ⟨_, rfl⟩
  rw [← hx] at c0 c1 c2 ⊢
  have RES := hideIt (show StepTold w (some (st.drop 1, x)) (.returned (.tuple #[V1, .int .i64 x, .bool true])) W1 from ⟨B1, V1, rfl, rowAt_owns (st := st.drop 1) O1⟩)
  have HR := hideIt hrun1
  have HT := hideIt (refStart_any 4 w)
  have HS := hideIt (refKnows_any 4 10 w)
  simp only [startV, startW, show oneB 4 = false from rfl] at HT
  rw [show knowsB 4 10 = true from rfl] at HS
  have q := q47
  have k1 : (1 : Int) ≤ (st.length : Int) := by omega
  have k2 : (st.length : Int) ≤ (cap : Int) := by omega
  have k3 : (0 : Int) < (st.length : Int) := by omega
  have k4 : ((st.length : Int) == 0) = false := beq_false_of_ne (by omega)
  have k5 : (1 : Int) ≤ (cap : Int) := by omega
  clear hv G0 G1 B1 O1 hrun1 hx
  rw [if_neg hc] at HR
  go_enter Tryz.func37, Tryz.ntmps37
  go_wp2_with (first | (go_at_call 20; refine HS.out.mono ?_; rintro e w1 ⟨rfl, rfl⟩) | (go_at_call 21; refine HT.out.mono ?_; rintro e w2 ⟨rfl, rfl⟩) | fail)
  go_region_law (refine step_append_run (by rfl) _ _ 24 (by rfl) _ _ V1 W1 (by rfl) (by rfl) HR.out ?_)
  all_goals
    go_wp2
    go_ret3
    exact RES.out

set_option maxRecDepth 100000 in
set_option maxHeartbeats 1000000 in
theorem refStep_queue1 (a b x : Int) (g off : Nat) (w : World) (c0 : w.cell? ⟨g, off, none⟩ = some (.int .i64 x)) :
    Calls Tryz.prog 37 #[.int .i64 4, .slice (some ⟨g, off, none⟩) 1 1, .int .i64 10, .int .i64 a, .int .i64 b] w fun e w' => StepTold w (some ([], x)) e w' := by
  have G0 := (World.grownBy_alloc w (.cells #[] 3) none).trans (grown_drew _ _)
  have hv : HasInts (w.alloc (.cells #[] 3)).drew (.slice (some ⟨g, off, none⟩) 0 0) [] := ⟨_, 0, rfl, by decide, by decide, fun _ => rfl, .inl rfl⟩
  obtain ⟨V1, W1, hrun1, O1, G1⟩ := run_app ((own_empty w w.heap.size (Nat.le_refl _)).kept (grown_drew _ _)) hv G0.size (by simp) 24
  have B1 : Below w.heap.size w W1 := (below_grown G0).grown G1 G0.size (fun k hk => by simp [Value.ownBlock] at hk; omega)
  have c1 := G0.cell c0 (by simp)
  have c2 := (B1.cell (World.block_lt_of_cell? w _ c0)).trans c0
  have RES := hideIt (show StepTold w (some ([], x)) (.returned (.tuple #[V1, .int .i64 x, .bool true])) W1 from ⟨B1, V1, rfl, rowAt_owns (st := []) O1⟩)
  have HR := hideIt hrun1
  have HT := hideIt (refStart_any 4 w)
  have HS := hideIt (refKnows_any 4 10 w)
  simp only [startV, startW, show oneB 4 = false from rfl] at HT
  rw [show knowsB 4 10 = true from rfl] at HS
  have q := q47
  clear hv G0 G1 B1 O1 hrun1
  go_enter Tryz.func37, Tryz.ntmps37
  go_wp2_with (first | (go_at_call 20; refine HS.out.mono ?_; rintro e w1 ⟨rfl, rfl⟩) | (go_at_call 21; refine HT.out.mono ?_; rintro e w2 ⟨rfl, rfl⟩) | fail)
  go_region_law (refine step_append_run (by rfl) _ _ 24 (by rfl) _ _ V1 W1 (by rfl) (by rfl) HR.out ?_)
  all_goals
    go_wp2
    go_ret3
    exact RES.out

set_option maxRecDepth 100000 in
set_option maxHeartbeats 1000000 in
theorem refStep_stack (a b : Int) (st : List Int) (g off cap : Nat) (w : World) (hv : HasInts w (.slice (some ⟨g, off, none⟩) st.length cap) st) (hpos : 0 < st.length) (hlen : st.length ≤ 1000) :
    Calls Tryz.prog 37 #[.int .i64 5, .slice (some ⟨g, off, none⟩) st.length cap, .int .i64 10, .int .i64 a, .int .i64 b] w fun e w' => StepTold w (some (st.take (st.length - 1), st[st.length - 1]'(by omega))) e w' := by
  have G0 := (World.grownBy_alloc w (.cells #[] 3) none).trans (grown_drew _ _)
  obtain ⟨V1, W1, hrun1, O1, G1⟩ := run_app ((own_empty w w.heap.size (Nat.le_refl _)).kept (grown_drew _ _)) ((hv.init).kept G0) G0.size (by simp; omega) 24
  have B1 : Below w.heap.size w W1 := (below_grown G0).grown G1 G0.size (fun k hk => by simp [Value.ownBlock] at hk; omega)
  have c0 : w.cell? ⟨g, off + (st.length - 1), none⟩ = some (.int .i64 (st[st.length - 1]'(by omega))) := by
    obtain ⟨a', cap', e, h1, h2, _, h | ⟨g', off', e', h⟩⟩ := hv
    · subst h; simp at hpos
    · subst e'
      obtain ⟨⟨rfl, rfl⟩, rfl⟩ : (g = g' ∧ off = off') ∧ cap = cap' := by simpa using e
      exact h (st.length - 1) (by omega)
  have c1 := G0.cell c0 (by simp)
  have c2 := (B1.cell (World.block_lt_of_cell? w _ c0)).trans c0
  have hcap : st.length ≤ cap ∧ cap ≤ 9223372036854775807 := by
    obtain ⟨a', cap', e, h1, h2, _⟩ := hv
    obtain ⟨_, rfl⟩ : some ⟨g, off, none⟩ = a' ∧ cap = cap' := by simpa using e
    unfold maxLen at h2
    exact ⟨h1, by omega⟩
  obtain ⟨hcap1, hcap2⟩ := hcap
  obtain ⟨x, hx⟩ : ∃ x, x = st[st.length - 1]'(by omega) := ⟨_, rfl⟩
  rw [← hx] at c0 c1 c2 ⊢
  have RES := hideIt (show StepTold w (some (st.take (st.length - 1), x)) (.returned (.tuple #[V1, .int .i64 x, .bool true])) W1 from ⟨B1, V1, rfl, rowAt_owns (st := st.take (st.length - 1)) O1⟩)
  have HR := hideIt hrun1
  have HT := hideIt (refStart_any 5 w)
  have HS := hideIt (refKnows_any 5 10 w)
  simp only [startV, startW, show oneB 5 = false from rfl] at HT
  rw [show knowsB 5 10 = true from rfl] at HS
  have q := q47
  obtain ⟨n, hn⟩ : ∃ n, st.length = n + 1 := ⟨st.length - 1, by omega⟩
  have k0 : IntKind.i64.wrap (((n + 1 : Nat) : Int) - 1) = (n : Int) := by rw [IntKind.wrap_i64]; omega
  have k6 : IntKind.i64.wrap (n : Int) = (n : Int) := by rw [IntKind.wrap_i64]; omega
  have k7 : (n : Int) < (n : Int) + 1 := by omega
  have k1 : (0 : Int) ≤ (n : Int) := by omega
  have k2 : (n : Int) < ((n + 1 : Nat) : Int) := by omega
  have k3 : (n : Int) ≤ (cap : Int) := by omega
  have k4 : (((n + 1 : Nat) : Int) == 0) = false := beq_false_of_ne (by omega)
  rw [hn] at c0 c1 c2 HR RES ⊢
  rw [Nat.add_sub_cancel] at c0 c1 c2 HR RES ⊢
  clear hn
  clear hv G0 G1 B1 O1 hrun1 hx
  go_enter Tryz.func37, Tryz.ntmps37
  go_wp2_with (first | (go_at_call 20; refine HS.out.mono ?_; rintro e w1 ⟨rfl, rfl⟩) | (go_at_call 21; refine HT.out.mono ?_; rintro e w2 ⟨rfl, rfl⟩) | fail)
  go_region_law (refine step_append_run (by rfl) _ _ 24 (by rfl) _ _ V1 W1 (by rfl) (by rfl) HR.out ?_)
  all_goals
    go_wp2
    go_ret3
    exact RES.out

end Go.Proofs.YtkbjaneekblgmaaGreatDoor

namespace Go.Proofs.YtkbjaneekblgmaaGreatDoor
open Go.RowKit

/-- The document's way of putting in: ahead of the first that is greater. -/
def putL (a : Int) : List Int → List Int
  | [] => [a]
  | x :: r => if a < x then a :: x :: r else x :: putL a r

theorem place_cons (x : Int) (r : List Int) (a : Int) : placeOf (x :: r) a = if x < a then placeOf r a + 1 else placeOf r a := by
  unfold placeOf
  rw [List.countP_cons]
  by_cases h : x < a <;> simp [h]

theorem place_zero {st : List Int} {a : Int} (h : ∀ x ∈ st, a ≤ x) : placeOf st a = 0 := by
  unfold placeOf
  rw [List.countP_eq_zero]
  intro x hx
  have := h x hx
  simp; omega

theorem put_ins : ∀ {st : List Int} {a : Int}, st.Pairwise (· < ·) → a ∉ st → putL a st = insL st (placeOf st a) a
  | [], a, _, _ => rfl
  | x :: r, a, hs, ha => by
    rw [List.pairwise_cons] at hs
    have hx : a ≠ x := fun e => ha (by simp [e])
    have hr : a ∉ r := fun e => ha (by simp [e])
    unfold putL
    by_cases h : a < x
    · rw [if_pos h, place_zero (fun y hy => by
        rcases List.mem_cons.1 hy with rfl | hy
        · omega
        · have := hs.1 y hy; omega)]
      rfl
    · rw [if_neg h, place_cons, if_pos (by omega), put_ins hs.2 hr]
      rfl

theorem filter_del : ∀ {st : List Int} {a : Int}, st.Pairwise (· < ·) → a ∈ st → st.filter (fun x => x != a) = delL st (placeOf st a)
  | [], a, _, ha => by simp at ha
  | x :: r, a, hs, ha => by
    rw [List.pairwise_cons] at hs
    by_cases h : x = a
    · subst h
      rw [place_zero (fun y hy => by
        rcases List.mem_cons.1 hy with rfl | hy
        · omega
        · have := hs.1 y hy; omega)]
      have : r.filter (fun y => y != x) = r := List.filter_eq_self.2 fun y hy => by have := hs.1 y hy; simp; omega
      simp [delL, this]
    · have hr : a ∈ r := by rcases List.mem_cons.1 ha with e | e; exact absurd e.symm h; exact e
      have hlt : x < a := hs.1 a hr
      rw [place_cons, if_pos hlt, List.filter_cons_of_pos (by simpa using h), filter_del hs.2 hr]
      rfl

theorem filter_none {st : List Int} {a : Int} (h : a ∉ st) : st.filter (fun x => x != a) = st :=
  List.filter_eq_self.2 fun y hy => by
    have : y ≠ a := fun e => h (e ▸ hy)
    simpa using this

/-- The document's second loop, so far: what is out, and whether it was put in. -/
theorem putL_rises : ∀ {st : List Int} {a : Int}, st.Pairwise (· < ·) → a ∉ st → (putL a st).Pairwise (· < ·)
  | [], a, _, _ => by simp [putL]
  | x :: r, a, hs, ha => by
    have hx : a ≠ x := fun e => ha (by simp [e])
    have hr : a ∉ r := fun e => ha (by simp [e])
    have hs' := List.pairwise_cons.1 hs
    unfold putL
    by_cases h : a < x
    · rw [if_pos h]
      refine List.pairwise_cons.2 ⟨fun y hy => ?_, hs⟩
      rcases List.mem_cons.1 hy with rfl | hy
      · exact h
      · have := hs'.1 y hy; omega
    · rw [if_neg h]
      refine List.pairwise_cons.2 ⟨fun y hy => ?_, putL_rises hs'.2 hr⟩
      have : ∀ (l : List Int), y ∈ putL a l → y = a ∨ y ∈ l := by
        intro l
        induction l with
        | nil => intro h; simpa [putL] using h
        | cons z l ih =>
          intro h
          unfold putL at h
          split at h
          · rcases List.mem_cons.1 h with h | h
            · exact .inl h
            · exact .inr h
          · rcases List.mem_cons.1 h with h | h
            · exact .inr (by simp [h])
            · rcases ih h with h | h
              · exact .inl h
              · exact .inr (by simp [h])
      rcases this r hy with rfl | hy
      · omega
      · exact hs'.1 y hy

end Go.Proofs.YtkbjaneekblgmaaGreatDoor

namespace Go.Proofs.YtkbjaneekblgmaaGreatDoor
open Go.RowKit

/-- What the first loop has kept. -/
def restTo (st : List Int) (a : Int) (n : Nat) : List Int := (st.take n).filter fun x => x != a
def wasTo (st : List Int) (a : Int) (n : Nat) : Int := if (st.take n).contains a then 1 else 0

theorem take_at {st : List Int} {n : Nat} (h : n < st.length) : st.take (n + 1) = st.take n ++ [st[n]] := by
  rw [List.take_add_one, List.getElem?_eq_getElem h]; rfl
theorem restTo_same {st : List Int} {a : Int} {n : Nat} (h : n < st.length) (e : st[n] = a) : restTo st a (n + 1) = restTo st a n := by
  simp [restTo, take_at h, List.filter_append, e]
theorem restTo_other {st : List Int} {a : Int} {n : Nat} (h : n < st.length) (e : st[n] ≠ a) : restTo st a (n + 1) = restTo st a n ++ [st[n]] := by
  unfold restTo
  rw [take_at h, List.filter_append, List.filter_cons_of_pos (by simpa using e)]
  rfl
theorem wasTo_same {st : List Int} {a : Int} {n : Nat} (h : n < st.length) (e : st[n] = a) : wasTo st a (n + 1) = 1 := by
  simp [wasTo, take_at h, e]
theorem wasTo_other {st : List Int} {a : Int} {n : Nat} (h : n < st.length) (e : st[n] ≠ a) : wasTo st a (n + 1) = wasTo st a n := by
  unfold wasTo
  rw [take_at h]
  generalize st[n] = x at e
  simp [Ne.symm e]
theorem restTo_len (st : List Int) (a : Int) (n : Nat) : (restTo st a n).length ≤ st.length :=
  Nat.le_trans (List.length_filter_le _ _) (by simp; omega)

/-- What the second loop has made, and whether it was put in. -/
def doneTo (st : List Int) (a : Int) (n : Nat) : Bool := (st.take n).any fun x => decide (a < x)
def outTo (st : List Int) (a : Int) (n : Nat) : List Int := if doneTo st a n then putL a (st.take n) else st.take n
theorem doneTo_succ {st : List Int} {a : Int} {n : Nat} (h : n < st.length) : doneTo st a (n + 1) = (doneTo st a n || decide (a < st[n])) := by
  unfold doneTo
  rw [take_at h, List.any_append]
  generalize st[n] = x
  simp
theorem putL_none : ∀ {l : List Int} {a : Int}, (l.any fun x => decide (a < x)) = false → putL a l = l ++ [a]
  | [], _, _ => rfl
  | x :: r, a, h => by
    simp only [List.any_cons, Bool.or_eq_false_iff, decide_eq_false_iff_not] at h
    unfold putL
    rw [if_neg h.1, putL_none h.2]; rfl
theorem putL_new : ∀ {l : List Int} {a x : Int}, (l.any fun x => decide (a < x)) = false → a < x → putL a (l ++ [x]) = (l ++ [a]) ++ [x]
  | [], a, x, _, hx => by simp [putL, hx]
  | y :: r, a, x, h, hx => by
    simp only [List.any_cons, Bool.or_eq_false_iff, decide_eq_false_iff_not] at h
    rw [List.cons_append, putL, if_neg h.1, putL_new h.2 hx]; rfl
theorem putL_add : ∀ {l : List Int} {a x : Int}, (l.any fun x => decide (a < x)) = true → putL a (l ++ [x]) = putL a l ++ [x]
  | [], a, x, h => by simp at h
  | y :: r, a, x, h => by
    rw [List.cons_append, putL, putL]
    by_cases hy : a < y
    · rw [if_pos hy, if_pos hy]; rfl
    · rw [if_neg hy, if_neg hy, putL_add (by simpa [hy] using h)]; rfl
theorem outTo_new {st : List Int} {a : Int} {n : Nat} (h : n < st.length) (hd : doneTo st a n = false) (hx : a < st[n]) : outTo st a (n + 1) = (outTo st a n ++ [a]) ++ [st[n]] := by
  unfold outTo
  rw [doneTo_succ h, hd]
  simp only [hx, decide_true, Bool.or_true, if_true, Bool.false_eq_true, if_false]
  rw [take_at h]
  exact putL_new hd hx
theorem outTo_done {st : List Int} {a : Int} {n : Nat} (h : n < st.length) (hd : doneTo st a n = true) : outTo st a (n + 1) = outTo st a n ++ [st[n]] := by
  unfold outTo
  rw [doneTo_succ h, hd]
  simp only [Bool.true_or, if_true]
  rw [take_at h]
  exact putL_add hd
theorem outTo_less {st : List Int} {a : Int} {n : Nat} (h : n < st.length) (hd : doneTo st a n = false) (hx : ¬ a < st[n]) : outTo st a (n + 1) = outTo st a n ++ [st[n]] := by
  unfold outTo
  rw [doneTo_succ h, hd]
  simp only [hx, decide_false, Bool.or_false, Bool.false_eq_true, if_false]
  rw [take_at h]
theorem outTo_len (st : List Int) (a : Int) (n : Nat) : (outTo st a n).length ≤ st.length + 1 := by
  have hl : ∀ l : List Int, (putL a l).length = l.length + 1 := by
    intro l
    induction l with
    | nil => rfl
    | cons x r ih => unfold putL; split <;> simp [ih]
  unfold outTo
  split
  · rw [hl]; simp; omega
  · simp; omega
theorem outTo_end_done {st : List Int} {a : Int} (h : doneTo st a st.length = true) : outTo st a st.length = putL a st := by
  unfold outTo; rw [h, if_pos rfl, List.take_length]
theorem outTo_end_none {st : List Int} {a : Int} (h : doneTo st a st.length = false) : outTo st a st.length ++ [a] = putL a st := by
  unfold outTo
  rw [h, if_neg (by decide), putL_none (by unfold doneTo at h; rw [List.take_length] at h; exact h), List.take_length]

set_option maxRecDepth 100000 in
set_option maxHeartbeats 2000000 in
theorem refStep_drop (a b : Int) (st : List Int) (v : Value) (w : World) (hv : HasInts w v st) (hs : st.Pairwise (· < ·)) (hlen : st.length ≤ 1000) :
    Calls Tryz.prog 37 #[.int .i64 3, v, .int .i64 7, .int .i64 a, .int .i64 b] w fun e w' => StepTold w (some (setM st 7 a)) e w' := by
  have HT := hideIt (refStart_any 3 w)
  have HS := hideIt (refKnows_any 3 7 w)
  simp only [startV, startW, show oneB 3 = false from rfl, Bool.false_eq_true, if_false] at HT
  rw [show knowsB 3 7 = true from rfl] at HS
  have q := q47
  have HV := hideIt hv
  have HP := hideIt hs
  obtain ⟨A, cap, rfl, _, _, _, hcell⟩ := hv
  have HC : Hid (∀ n, (hn : n < st.length) → ∃ g off, A = some ⟨g, off, none⟩ ∧ ∀ wr, Below w.heap.size w wr → wr.cell? ⟨g, off + n, none⟩ = some (.int .i64 st[n])) := fun n hn => by
    obtain h | ⟨g, off, e, hc⟩ := hcell
    · subst h; simp at hn
    · exact ⟨g, off, e, fun wr hW => (hW.cell (World.block_lt_of_cell? w _ (hc n hn))).trans (hc n hn)⟩
  obtain ⟨w0, hw0⟩ : ∃ w0, w0 = w := ⟨_, rfl⟩
  rw [← hw0] at HV HC
  have HB0 : Hid (w0 = w) := hw0
  clear hcell hs hw0
  go_enter Tryz.func37, Tryz.ntmps37
  go_wp2_with (first | (go_at_call 20; refine HS.out.mono ?_; rintro e w1 ⟨rfl, hw1⟩; have hw1 := hw1.symm; subst hw1) | (go_at_call 21; refine HT.out.mono ?_; rintro e w2 ⟨rfl, hw2⟩; have hw2 := hw2.symm; subst hw2) | fail)
  go_loopw [14, 15, 127] (fun r c i wr => ∃ n : Nat, n ≤ st.length ∧ i = .int .i64 n ∧ c = .int .i64 (wasTo st a n) ∧ Own wr w0.heap.size r (restTo st a n) ∧ Below w0.heap.size w0 wr) (fun _ _ i _ => st.length - (intOf i).toNat)
  case atStart => exact ⟨0, by omega, rfl, rfl, World.ownsRow_nil _ _ _ _, by rw [HB0.out]; exact Below.refl _ _⟩
  case round =>
    obtain ⟨n, hn, rfl, rfl, ho, hb⟩ := hrel
    have HO := hideIt ho
    have HB := hideIt hb
    clear ho hb
    by_cases hnl : n < st.length
    · obtain ⟨g, off, hA, hc⟩ := HC.out n hnl
      subst hA
      have hc := hc _ HB.out
      have k1 : (0 : Int) ≤ (n : Int) := by omega
      have k2 : (n : Int) < (st.length : Int) := by omega
      have hwr : IntKind.i64.wrap ((n : Int) + 1) = (n : Int) + 1 := by rw [IntKind.wrap_i64]; omega
      obtain ⟨x, hx⟩ : ∃ x, st[n] = x := ⟨_, rfl⟩
      rw [hx] at hc
      have HX := hideIt hx
      clear hx
      cases hxa : (x == a)
      · have hne : st[n] ≠ a := by rw [HX.out]; simpa using hxa
        have G2 := World.grownBy_alloc wr (.cells #[.int .i64 x] 3) none
        obtain ⟨V1, W1, hrun1, O1, G3⟩ := run_app (HO.out.kept G2) (hasInts_one wr x) (Nat.le_trans HB.out.size G2.size) (by have := restTo_len st a n; simp; omega) 24
        have B1 := hideIt ((HB.out.grown G2 HB.out.size (fun k hk => by cases hk)).grown G3 (Nat.le_trans HB.out.size G2.size) (own_lt (HO.out.kept G2)))
        have R1 := hideIt hrun1
        rw [← HX.out, ← restTo_other hnl hne] at O1
        have OO := hideIt O1
        have WW := hideIt (wasTo_other hnl hne)
        clear hrun1 O1 G3 G2 hne
        go_wp2_with (at_builtin; refine Lib.wpList_append_run _ rfl _ _ 24 24 rfl _ _ rfl rfl V1 W1 R1.out ?_)
        go_roundw
        case rel => exact ⟨n + 1, by omega, by go_num, by rw [WW.out], OO.out, B1.out⟩
        case measure => simp [intOf]; omega
      · have he : st[n] = a := by rw [HX.out]; simpa using hxa
        have OO := hideIt (restTo_same hnl he)
        have WW := hideIt (wasTo_same hnl he)
        clear he
        go_wp2
        go_roundw
        case rel => exact ⟨n + 1, by omega, by go_num, by rw [WW.out], by rw [OO.out]; exact HO.out, HB.out⟩
        case measure => simp [intOf]; omega
    · obtain rfl : n = st.length := by omega
      have e1 : restTo st a st.length = st.filter fun x => x != a := by unfold restTo; rw [List.take_length]
      have e2 : wasTo st a st.length = if st.contains a then 1 else 0 := by unfold wasTo; rw [List.take_length]
      rw [e1] at HO
      rw [e2]
      clear e1 e2
      obtain ⟨c, hc⟩ : ∃ c, st.contains a = c := ⟨_, rfl⟩
      have RES : Hid (∀ r, Own wr w0.heap.size r (st.filter fun x => x != a) → StepTold w (some (setM st 7 a)) (.returned (.tuple #[r, .int .i64 (if c then 1 else 0), .bool true])) wr) := fun r ho => by
        rw [← HB0.out]
        refine ⟨HB.out, ?_⟩
        cases c with
        | false => rw [setM_rest (fun e => absurd e (by decide)) (fun _ => hc) (fun e => absurd e (by decide))]; exact ⟨r, rfl, rowAt_owns (by rw [filter_none (a := a) (by simpa using hc)] at ho; exact ho)⟩
        | true => rw [setM_drop rfl hc, ← filter_del HP.out (by simpa using hc)]; exact ⟨r, rfl, rowAt_owns ho⟩
      rw [hc]
      clear hc
      cases c
      · simp only [Bool.false_eq_true, if_false] at RES ⊢
        go_wp2
        go_ret3
        exact RES.out _ HO.out
      · simp only [if_true] at RES ⊢
        go_wp2
        go_ret3
        exact RES.out _ HO.out

set_option maxRecDepth 100000 in
set_option maxHeartbeats 2000000 in
theorem refStep_has (a b : Int) (st : List Int) (v : Value) (w : World) (hv : HasInts w v st) (hs : st.Pairwise (· < ·)) (hlen : st.length ≤ 1000) :
    Calls Tryz.prog 37 #[.int .i64 3, v, .int .i64 8, .int .i64 a, .int .i64 b] w fun e w' => StepTold w (some (setM st 8 a)) e w' := by
  have HT := hideIt (refStart_any 3 w)
  have HS := hideIt (refKnows_any 3 8 w)
  simp only [startV, startW, show oneB 3 = false from rfl, Bool.false_eq_true, if_false] at HT
  rw [show knowsB 3 8 = true from rfl] at HS
  have q := q47
  have HV := hideIt hv
  have HP := hideIt hs
  obtain ⟨A, cap, rfl, _, _, _, hcell⟩ := hv
  have HC : Hid (∀ n, (hn : n < st.length) → ∃ g off, A = some ⟨g, off, none⟩ ∧ ∀ wr, Below w.heap.size w wr → wr.cell? ⟨g, off + n, none⟩ = some (.int .i64 st[n])) := fun n hn => by
    obtain h | ⟨g, off, e, hc⟩ := hcell
    · subst h; simp at hn
    · exact ⟨g, off, e, fun wr hW => (hW.cell (World.block_lt_of_cell? w _ (hc n hn))).trans (hc n hn)⟩
  obtain ⟨w0, hw0⟩ : ∃ w0, w0 = w := ⟨_, rfl⟩
  rw [← hw0] at HV HC
  have HB0 : Hid (w0 = w) := hw0
  clear hcell hs hw0
  go_enter Tryz.func37, Tryz.ntmps37
  go_wp2_with (first | (go_at_call 20; refine HS.out.mono ?_; rintro e w1 ⟨rfl, hw1⟩; have hw1 := hw1.symm; subst hw1) | (go_at_call 21; refine HT.out.mono ?_; rintro e w2 ⟨rfl, hw2⟩; have hw2 := hw2.symm; subst hw2) | fail)
  go_loopw [14, 15, 127] (fun r c i wr => ∃ n : Nat, n ≤ st.length ∧ i = .int .i64 n ∧ c = .int .i64 (wasTo st a n) ∧ Own wr w0.heap.size r (restTo st a n) ∧ Below w0.heap.size w0 wr) (fun _ _ i _ => st.length - (intOf i).toNat)
  case atStart => exact ⟨0, by omega, rfl, rfl, World.ownsRow_nil _ _ _ _, by rw [HB0.out]; exact Below.refl _ _⟩
  case round =>
    obtain ⟨n, hn, rfl, rfl, ho, hb⟩ := hrel
    have HO := hideIt ho
    have HB := hideIt hb
    clear ho hb
    by_cases hnl : n < st.length
    · obtain ⟨g, off, hA, hc⟩ := HC.out n hnl
      subst hA
      have hc := hc _ HB.out
      have k1 : (0 : Int) ≤ (n : Int) := by omega
      have k2 : (n : Int) < (st.length : Int) := by omega
      have hwr : IntKind.i64.wrap ((n : Int) + 1) = (n : Int) + 1 := by rw [IntKind.wrap_i64]; omega
      obtain ⟨x, hx⟩ : ∃ x, st[n] = x := ⟨_, rfl⟩
      rw [hx] at hc
      have HX := hideIt hx
      clear hx
      cases hxa : (x == a)
      · have hne : st[n] ≠ a := by rw [HX.out]; simpa using hxa
        have G2 := World.grownBy_alloc wr (.cells #[.int .i64 x] 3) none
        obtain ⟨V1, W1, hrun1, O1, G3⟩ := run_app (HO.out.kept G2) (hasInts_one wr x) (Nat.le_trans HB.out.size G2.size) (by have := restTo_len st a n; simp; omega) 24
        have B1 := hideIt ((HB.out.grown G2 HB.out.size (fun k hk => by cases hk)).grown G3 (Nat.le_trans HB.out.size G2.size) (own_lt (HO.out.kept G2)))
        have R1 := hideIt hrun1
        rw [← HX.out, ← restTo_other hnl hne] at O1
        have OO := hideIt O1
        have WW := hideIt (wasTo_other hnl hne)
        clear hrun1 O1 G3 G2 hne
        go_wp2_with (at_builtin; refine Lib.wpList_append_run _ rfl _ _ 24 24 rfl _ _ rfl rfl V1 W1 R1.out ?_)
        go_roundw
        case rel => exact ⟨n + 1, by omega, by go_num, by rw [WW.out], OO.out, B1.out⟩
        case measure => simp [intOf]; omega
      · have he : st[n] = a := by rw [HX.out]; simpa using hxa
        have OO := hideIt (restTo_same hnl he)
        have WW := hideIt (wasTo_same hnl he)
        clear he
        go_wp2
        go_roundw
        case rel => exact ⟨n + 1, by omega, by go_num, by rw [WW.out], by rw [OO.out]; exact HO.out, HB.out⟩
        case measure => simp [intOf]; omega
    · obtain rfl : n = st.length := by omega
      have e1 : restTo st a st.length = st.filter fun x => x != a := by unfold restTo; rw [List.take_length]
      have e2 : wasTo st a st.length = if st.contains a then 1 else 0 := by unfold wasTo; rw [List.take_length]
      rw [e1] at HO
      rw [e2]
      clear e1 e2
      cases hc : st.contains a
      · simp only [Bool.false_eq_true, if_false]
        have HE := hideIt (setM_rest (k := 8) (st := st) (a := a) (fun e => absurd e (by decide)) (fun e => absurd e (by decide)) (fun _ => hc))
        clear hc
        have G2 := World.grownBy_alloc wr (.cells #[] 3) none
        obtain ⟨V1, W1, hrun1, O1, G3⟩ := run_app (own_empty wr w0.heap.size HB.out.size) ((HV.out.below HB.out).kept G2) (Nat.le_trans HB.out.size G2.size) (by simp; omega) 24
        have B1 := (HB.out.grown G2 HB.out.size (fun k hk => by cases hk)).grown G3 (Nat.le_trans HB.out.size G2.size) (fun k hk => by have := HB.out.size; simp [Value.ownBlock] at hk; omega)
        have R1 := hideIt hrun1
        have RES : Hid (StepTold w (some (setM st 8 a)) (.returned (.tuple #[V1, .int .i64 0, .bool true])) W1) := by
          rw [← HB0.out, HE.out]
          exact ⟨B1, V1, rfl, rowAt_owns O1⟩
        clear hrun1 O1 G3 G2 B1
        go_wp2_with (at_builtin; refine Lib.wpList_append_run _ rfl _ _ 24 24 rfl _ _ rfl rfl V1 W1 R1.out ?_)
        go_ret3
        exact RES.out

      · simp only [if_true]
        have HE := hideIt (setM_has (k := 8) (st := st) (a := a) rfl hc)
        clear hc
        have G2 := World.grownBy_alloc wr (.cells #[] 3) none
        obtain ⟨V1, W1, hrun1, O1, G3⟩ := run_app (own_empty wr w0.heap.size HB.out.size) ((HV.out.below HB.out).kept G2) (Nat.le_trans HB.out.size G2.size) (by simp; omega) 24
        have B1 := (HB.out.grown G2 HB.out.size (fun k hk => by cases hk)).grown G3 (Nat.le_trans HB.out.size G2.size) (fun k hk => by have := HB.out.size; simp [Value.ownBlock] at hk; omega)
        have R1 := hideIt hrun1
        have RES : Hid (StepTold w (some (setM st 8 a)) (.returned (.tuple #[V1, .int .i64 1, .bool true])) W1) := by
          rw [← HB0.out, HE.out]
          exact ⟨B1, V1, rfl, rowAt_owns O1⟩
        clear hrun1 O1 G3 G2 B1
        go_wp2_with (at_builtin; refine Lib.wpList_append_run _ rfl _ _ 24 24 rfl _ _ rfl rfl V1 W1 R1.out ?_)
        go_ret3
        exact RES.out

set_option maxRecDepth 100000 in
set_option maxHeartbeats 2000000 in
theorem refStep_put (a b : Int) (st : List Int) (v : Value) (w : World) (hv : HasInts w v st) (hs : st.Pairwise (· < ·)) (hlen : st.length ≤ 1000) :
    Calls Tryz.prog 37 #[.int .i64 3, v, .int .i64 6, .int .i64 a, .int .i64 b] w fun e w' => StepTold w (some (setM st 6 a)) e w' := by
  have HT := hideIt (refStart_any 3 w)
  have HS := hideIt (refKnows_any 3 6 w)
  simp only [startV, startW, show oneB 3 = false from rfl, Bool.false_eq_true, if_false] at HT
  rw [show knowsB 3 6 = true from rfl] at HS
  have q := q47
  have HV := hideIt hv
  have HP := hideIt hs
  obtain ⟨A, cap, rfl, _, _, _, hcell⟩ := hv
  have HC : Hid (∀ n, (hn : n < st.length) → ∃ g off, A = some ⟨g, off, none⟩ ∧ ∀ wr, Below w.heap.size w wr → wr.cell? ⟨g, off + n, none⟩ = some (.int .i64 st[n])) := fun n hn => by
    obtain h | ⟨g, off, e, hc⟩ := hcell
    · subst h; simp at hn
    · exact ⟨g, off, e, fun wr hW => (hW.cell (World.block_lt_of_cell? w _ (hc n hn))).trans (hc n hn)⟩
  obtain ⟨w0, hw0⟩ : ∃ w0, w0 = w := ⟨_, rfl⟩
  rw [← hw0] at HV HC
  have HB0 : Hid (w0 = w) := hw0
  clear hcell hs hw0
  go_enter Tryz.func37, Tryz.ntmps37
  go_wp2_with (first | (go_at_call 20; refine HS.out.mono ?_; rintro e w1 ⟨rfl, hw1⟩; have hw1 := hw1.symm; subst hw1) | (go_at_call 21; refine HT.out.mono ?_; rintro e w2 ⟨rfl, hw2⟩; have hw2 := hw2.symm; subst hw2) | fail)
  go_loopw [14, 15, 127] (fun r c i wr => ∃ n : Nat, n ≤ st.length ∧ i = .int .i64 n ∧ c = .int .i64 (wasTo st a n) ∧ Own wr w0.heap.size r (restTo st a n) ∧ Below w0.heap.size w0 wr) (fun _ _ i _ => st.length - (intOf i).toNat)
  case atStart => exact ⟨0, by omega, rfl, rfl, World.ownsRow_nil _ _ _ _, by rw [HB0.out]; exact Below.refl _ _⟩
  case round =>
    obtain ⟨n, hn, rfl, rfl, ho, hb⟩ := hrel
    have HO := hideIt ho
    have HB := hideIt hb
    clear ho hb
    by_cases hnl : n < st.length
    · obtain ⟨g, off, hA, hc⟩ := HC.out n hnl
      subst hA
      have hc := hc _ HB.out
      have k1 : (0 : Int) ≤ (n : Int) := by omega
      have k2 : (n : Int) < (st.length : Int) := by omega
      have hwr : IntKind.i64.wrap ((n : Int) + 1) = (n : Int) + 1 := by rw [IntKind.wrap_i64]; omega
      obtain ⟨x, hx⟩ : ∃ x, st[n] = x := ⟨_, rfl⟩
      rw [hx] at hc
      have HX := hideIt hx
      clear hx
      cases hxa : (x == a)
      · have hne : st[n] ≠ a := by rw [HX.out]; simpa using hxa
        have G2 := World.grownBy_alloc wr (.cells #[.int .i64 x] 3) none
        obtain ⟨V1, W1, hrun1, O1, G3⟩ := run_app (HO.out.kept G2) (hasInts_one wr x) (Nat.le_trans HB.out.size G2.size) (by have := restTo_len st a n; simp; omega) 24
        have B1 := hideIt ((HB.out.grown G2 HB.out.size (fun k hk => by cases hk)).grown G3 (Nat.le_trans HB.out.size G2.size) (own_lt (HO.out.kept G2)))
        have R1 := hideIt hrun1
        rw [← HX.out, ← restTo_other hnl hne] at O1
        have OO := hideIt O1
        have WW := hideIt (wasTo_other hnl hne)
        clear hrun1 O1 G3 G2 hne
        go_wp2_with (at_builtin; refine Lib.wpList_append_run _ rfl _ _ 24 24 rfl _ _ rfl rfl V1 W1 R1.out ?_)
        go_roundw
        case rel => exact ⟨n + 1, by omega, by go_num, by rw [WW.out], OO.out, B1.out⟩
        case measure => simp [intOf]; omega
      · have he : st[n] = a := by rw [HX.out]; simpa using hxa
        have OO := hideIt (restTo_same hnl he)
        have WW := hideIt (wasTo_same hnl he)
        clear he
        go_wp2
        go_roundw
        case rel => exact ⟨n + 1, by omega, by go_num, by rw [WW.out], by rw [OO.out]; exact HO.out, HB.out⟩
        case measure => simp [intOf]; omega
    · obtain rfl : n = st.length := by omega
      have e1 : restTo st a st.length = st.filter fun x => x != a := by unfold restTo; rw [List.take_length]
      have e2 : wasTo st a st.length = if st.contains a then 1 else 0 := by unfold wasTo; rw [List.take_length]
      rw [e1] at HO
      rw [e2]
      clear e1 e2
      cases hc : st.contains a
      · simp only [Bool.false_eq_true, if_false]
        have HN : Hid (a ∉ st) := hideIt (by simpa using hc)
        have HE := hideIt ((setM_put (k := 6) (st := st) (a := a) rfl hc).trans (by rw [← put_ins HP.out HN.out]))
        clear hc HO
        obtain ⟨wa, hwa⟩ : ∃ wa, wa = wr := ⟨_, rfl⟩
        subst hwa
        go_wp2_with fail
        go_loopw [18, 19, 161] (fun r d i wr => ∃ n : Nat, n ≤ st.length ∧ i = .int .i64 n ∧ d = .bool (doneTo st a n) ∧ Own wr w0.heap.size r (outTo st a n) ∧ Below w0.heap.size w0 wr) (fun _ _ i _ => st.length - (intOf i).toNat)
        case atStart => exact ⟨0, by omega, rfl, rfl, World.ownsRow_nil _ _ _ _, HB.out⟩
        case round =>
          obtain ⟨n, hn, rfl, rfl, ho, hb⟩ := hrel
          have HO := hideIt ho
          have HB := hideIt hb
          clear ho hb
          by_cases hnl : n < st.length
          · obtain ⟨g, off, hA, hc⟩ := HC.out n hnl
            subst hA
            have hc := hc _ HB.out
            have k1 : (0 : Int) ≤ (n : Int) := by omega
            have k2 : (n : Int) < (st.length : Int) := by omega
            have hwr : IntKind.i64.wrap ((n : Int) + 1) = (n : Int) + 1 := by rw [IntKind.wrap_i64]; omega
            obtain ⟨x, hx⟩ : ∃ x, st[n] = x := ⟨_, rfl⟩
            rw [hx] at hc
            have HX := hideIt hx
            clear hx
            have hol := outTo_len st a n
            cases hd : doneTo st a n
            · cases hxa : decide (a < x)
              · have hlt : ¬ a < st[n] := by rw [HX.out]; simpa using hxa
                have DD := hideIt ((doneTo_succ (a := a) hnl).trans (show (doneTo st a n || decide (a < st[n])) = false by rw [hd]; simpa using hlt))
                have G2 := World.grownBy_alloc wr (.cells #[.int .i64 x] 3) none
                obtain ⟨V1, W1, hrun1, O1, G3⟩ := run_app (HO.out.kept G2) (hasInts_one wr x) (Nat.le_trans HB.out.size G2.size) (by simp; omega) 24
                have B1 := hideIt ((HB.out.grown G2 HB.out.size (fun k hk => by cases hk)).grown G3 (Nat.le_trans HB.out.size G2.size) (own_lt (HO.out.kept G2)))
                have R1 := hideIt hrun1
                rw [← HX.out, ← outTo_less hnl hd hlt] at O1
                have OO := hideIt O1
                clear hrun1 O1 G3 G2 hlt hol
                go_wp2_with (at_builtin; refine Lib.wpList_append_run _ rfl _ _ 24 24 rfl _ _ rfl rfl V1 W1 R1.out ?_)
                go_roundw
                case rel => exact ⟨n + 1, by omega, by go_num, by rw [DD.out], OO.out, B1.out⟩
                case measure => simp [intOf]; omega
              · have hlt : a < st[n] := by rw [HX.out]; simpa using hxa
                have DD := hideIt ((doneTo_succ (a := a) hnl).trans (show (doneTo st a n || decide (a < st[n])) = true by rw [hd]; simpa using hlt))
                have G2 := World.grownBy_alloc wr (.cells #[.int .i64 a] 3) none
                obtain ⟨V1, W1, hrun1, O1, G3⟩ := run_app (HO.out.kept G2) (hasInts_one wr a) (Nat.le_trans HB.out.size G2.size) (by simp; omega) 24
                have B1 := (HB.out.grown G2 HB.out.size (fun k hk => by cases hk)).grown G3 (Nat.le_trans HB.out.size G2.size) (own_lt (HO.out.kept G2))
                have R1 := hideIt hrun1
                have G4 := World.grownBy_alloc W1 (.cells #[.int .i64 x] 3) none
                obtain ⟨V2, W2, hrun2, O2, G5⟩ := run_app (O1.kept G4) (hasInts_one W1 x) (Nat.le_trans B1.size G4.size) (by simp; omega) 24
                have B2 := hideIt ((B1.grown G4 B1.size (fun k hk => by cases hk)).grown G5 (Nat.le_trans B1.size G4.size) (own_lt (O1.kept G4)))
                have R2 := hideIt hrun2
                rw [← HX.out, ← outTo_new hnl hd hlt] at O2
                have OO := hideIt O2
                clear hrun1 hrun2 O1 O2 G3 G2 G4 G5 hlt hol B1
                go_wp2_with (first | (at_builtin; refine Lib.wpList_append_run _ rfl _ _ 24 24 rfl _ _ rfl rfl V1 W1 R1.out ?_) | (at_builtin; refine Lib.wpList_append_run _ rfl _ _ 24 24 rfl _ _ rfl rfl V2 W2 R2.out ?_))
                go_roundw
                case rel => exact ⟨n + 1, by omega, by go_num, by rw [DD.out], OO.out, B2.out⟩
                case measure => simp [intOf]; omega
            · have DD := hideIt ((doneTo_succ (a := a) hnl).trans (show (doneTo st a n || decide (a < st[n])) = true by rw [hd]; rfl))
              have G2 := World.grownBy_alloc wr (.cells #[.int .i64 x] 3) none
              obtain ⟨V1, W1, hrun1, O1, G3⟩ := run_app (HO.out.kept G2) (hasInts_one wr x) (Nat.le_trans HB.out.size G2.size) (by simp; omega) 24
              have B1 := hideIt ((HB.out.grown G2 HB.out.size (fun k hk => by cases hk)).grown G3 (Nat.le_trans HB.out.size G2.size) (own_lt (HO.out.kept G2)))
              have R1 := hideIt hrun1
              rw [← HX.out, ← outTo_done hnl hd] at O1
              have OO := hideIt O1
              clear hrun1 O1 G3 G2 hol
              cases hxa : decide (a < x)
              · go_wp2_with (at_builtin; refine Lib.wpList_append_run _ rfl _ _ 24 24 rfl _ _ rfl rfl V1 W1 R1.out ?_)
                go_roundw
                case rel => exact ⟨n + 1, by omega, by go_num, by rw [DD.out], OO.out, B1.out⟩
                case measure => simp [intOf]; omega
              · go_wp2_with (at_builtin; refine Lib.wpList_append_run _ rfl _ _ 24 24 rfl _ _ rfl rfl V1 W1 R1.out ?_)
                go_roundw
                case rel => exact ⟨n + 1, by omega, by go_num, by rw [DD.out], OO.out, B1.out⟩
                case measure => simp [intOf]; omega
          · obtain rfl : n = st.length := by omega
            have hol := outTo_len st a st.length
            cases hd : doneTo st a st.length
            · have G2 := World.grownBy_alloc wr (.cells #[.int .i64 a] 3) none
              obtain ⟨V1, W1, hrun1, O1, G3⟩ := run_app (HO.out.kept G2) (hasInts_one wr a) (Nat.le_trans HB.out.size G2.size) (by simp; omega) 24
              have B1 := ((HB.out.grown G2 HB.out.size (fun k hk => by cases hk)).grown G3 (Nat.le_trans HB.out.size G2.size) (own_lt (HO.out.kept G2)))
              rw [outTo_end_none hd] at O1
              have R1 := hideIt hrun1
              have RES : Hid (StepTold w (some (setM st 6 a)) (.returned (.tuple #[V1, .int .i64 1, .bool true])) W1) := by
                rw [← HB0.out, HE.out]
                exact ⟨B1, V1, rfl, rowAt_owns O1⟩
              clear hrun1 O1 G3 G2 B1 hol
              go_wp2_with (at_builtin; refine Lib.wpList_append_run _ rfl _ _ 24 24 rfl _ _ rfl rfl V1 W1 R1.out ?_)
              go_ret3
              exact RES.out
            · have RES : Hid (∀ r, Own wr w0.heap.size r (putL a st) → StepTold w (some (setM st 6 a)) (.returned (.tuple #[r, .int .i64 1, .bool true])) wr) := fun r ho => by
                rw [← HB0.out, HE.out]
                exact ⟨HB.out, r, rfl, rowAt_owns ho⟩
              rw [outTo_end_done hd] at HO
              go_wp2
              go_ret3
              exact RES.out _ HO.out
      · simp only [if_true]
        have HE := hideIt (setM_rest (k := 6) (st := st) (a := a) (fun _ => hc) (fun e => absurd e (by decide)) (fun e => absurd e (by decide)))
        clear hc
        have G2 := World.grownBy_alloc wr (.cells #[] 3) none
        obtain ⟨V1, W1, hrun1, O1, G3⟩ := run_app (own_empty wr w0.heap.size HB.out.size) ((HV.out.below HB.out).kept G2) (Nat.le_trans HB.out.size G2.size) (by simp; omega) 24
        have B1 := (HB.out.grown G2 HB.out.size (fun k hk => by cases hk)).grown G3 (Nat.le_trans HB.out.size G2.size) (fun k hk => by have := HB.out.size; simp [Value.ownBlock] at hk; omega)
        have R1 := hideIt hrun1
        have RES : Hid (StepTold w (some (setM st 6 a)) (.returned (.tuple #[V1, .int .i64 0, .bool true])) W1) := by
          rw [← HB0.out, HE.out]
          exact ⟨B1, V1, rfl, rowAt_owns O1⟩
        clear hrun1 O1 G3 G2 B1
        go_wp2_with (at_builtin; refine Lib.wpList_append_run _ rfl _ _ 24 24 rfl _ _ rfl rfl V1 W1 R1.out ?_)
        go_ret3
        exact RES.out

end Go.Proofs.YtkbjaneekblgmaaGreatDoor
