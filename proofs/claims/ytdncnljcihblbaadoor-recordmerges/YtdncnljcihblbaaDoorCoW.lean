/-
  slices.Grow of nil, slices.Concat of two rows of bytes: walked.
-/
import Derived.Test.YtdncnljcihblbaaDoorFrW
import Derived.Lib.AppendZerosOnto
namespace Go.Proofs.YtdncnljcihblbaaDoor
open Go.RowKit

theorem wpList_append_run {P : Program} {w : World} {ops : Array Oper} {rest : List Oper} {o : Oper} {a : Act} {Q : Exit → Act → World → Prop} (hgd : o.guard = none) (s x : Operand) (t1 t2 : TypeId)
    (ho : o.op = .call { callee := .builtin .append, args := #[s, x], argTypes := #[t1, t2] }) (v1 v2 v' : Value) (w' : World) (hs : a.eval s = v1) (hx : a.eval x = v2)
    (hrun : ∀ ty, (Builtin.append_ #[t1, t2] ty #[v1, v2]).run P w = .ok v' w') (h : wpList P ops Q rest (a.put o.dst v') w') : wpList P ops Q (o :: rest) a w := by
  refine wpList_plain hgd fun K hK => ?_
  have hr := hrun o.type
  unfold Oper.wp
  simp [execOp, ho, resolve, invoke, builtin, hs, hx, hr, Result.andThen]
  exact hK _ _ h

set_option maxHeartbeats 1000000 in
set_option maxRecDepth 100000 in
theorem grow_any (n : Nat) (w : World) (hn : n ≤ 1000000) :
    Calls Tryd.prog 41 #[.slice none 0 0, .int .i64 n] w fun e w' => ∃ v, e = .returned v ∧ w'.ownsRow w.heap.size 5 1 v 0 [] ∧ Below w.heap.size w w' := by
  by_cases h0 : n = 0
  · subst h0
    go_enter Tryd.func41, Tryd.ntmps41
    go_wp2
    go_ret
    exact ⟨_, rfl, World.ownsRow_nil _ _ _ _, Below.refl _ _⟩
  · have h1 : (0 : Int) < (n : Int) := by omega
    obtain ⟨i0, hi, hz0, hz1, hz2⟩ := info_parts' infoB
    have hold : (Builtin.firstCells i0.size 0 (.slice none 0 0)).run Tryd.prog w.drew = .ok #[] w.drew := run_firstCells_none w.drew i0.size 0 0 0
    have hrz := fun ty => Lib.run_append_grow_zeros w 30 3 ty 5 i0 _ .i64 .i64 Tryd.underlying30 Tryd.underlying3 hi hz0 none 0 0 [] hold n (by omega) (by omega) (by omega) (by omega) (by rw [hz2]; omega) (growslice_fits (by omega) (by rw [hz2]; omega))
    rw [Nat.zero_add] at hrz
    have hGn : n ≤ grownCap w n 0 5 := grownCap_ge w _ _ _
    have hGm : grownCap w n 0 5 ≤ maxLen := grownCap_le_maxLen w n 0 5 (by unfold maxLen; omega)
    have hsz : ((#[] : Array Value) ++ Builtin.zeroCells (Value.int .u8 0).cells n ++ Builtin.zeroCells (Value.int .u8 0).cells (grownCap w n 0 5 - n)).size = grownCap w n 0 5 * 1 := by
      simp [Builtin.zeroCells, Value.cells]; omega
    generalize grownCap w n 0 5 = G at *
    generalize ((#[] : Array Value) ++ Builtin.zeroCells (Value.int .u8 0).cells n ++ Builtin.zeroCells (Value.int .u8 0).cells (G - n)) = C at *
    have HO := hideIt (World.ownsRow_made (base := w.heap.size) (e := 5) (size := 1) w.drew C G (Nat.le_refl _) hGm hsz)
    unfold maxLen at hGm
    have HR := hideIt hrz
    clear hold hsz hi hz0 hz1 hz2 hrz
    go_enter Tryd.func41, Tryd.ntmps41
    go_wp2_with (at_builtin; refine wpList_append_run rfl _ _ 30 3 rfl _ _ _ _ rfl rfl HR.out ?_)
    go_ret
    exact ⟨_, rfl, HO.out, below_alloc (below_drewN (Below.refl _ _) 1) _⟩

/-- A slice of bytes by its parts. -/
theorem ByQ.form {w : World} {v : Value} {l : List Nat} (h : ByQ w v l) : ∃ a c, v = .slice a l.length c := by
  obtain ⟨_, ⟨rfl, a, c, rfl, _⟩ | ⟨b, o, c, rfl, _⟩⟩ := h
  · exact ⟨a, c, rfl⟩
  · exact ⟨some ⟨b, o, none⟩, c, rfl⟩
/-- Bytes appended to a row of one's own, whatever slice they come by. -/
theorem wpList_append_by {w : World} {ops : Array Oper} {rest : List Oper} {o : Oper} {a : Act} {Q : Exit → Act → World → Prop} (hgd : o.guard = none) (s x : Operand)
    (ho : o.op = .call { callee := .builtin .append, args := #[s, x], argTypes := #[30, 30] }) (base : Nat) (v vx : Value) (l m : List Nat) (hs : a.eval s = v) (hx : a.eval x = vx)
    (hown : w.ownsRow base 5 1 v l.length (byCs l)) (hq : ByQ w vx m) (hn : l.length + m.length ≤ 1000000) (hbase : base ≤ w.heap.size)
    (h : ∀ v' w', w'.ownsRow base 5 1 v' (l ++ m).length (byCs (l ++ m)) → Below base w w' → wpList Tryd.prog ops Q rest (a.put o.dst v') w') : wpList Tryd.prog ops Q (o :: rest) a w := by
  obtain ⟨i0, hi, hz0, hz1, hz2⟩ := info_parts' infoB
  obtain ⟨_, ⟨rfl, ax, cx, rfl, hnx⟩ | ⟨b, of, c, rfl, hc, hb, hA⟩⟩ := hq
  · cases ax with
    | some ad =>
      refine wpList_append_own w hgd s x 30 ho base 5 i0 _ 1 1 Tryd.underlying30 hi hz0 hz1 hz2 rfl (by decide) v l.length (byCs l) hs hown ad 0 cx [] hx rfl (fun j u hj => by simp at hj) (fun u hu => (List.not_mem_nil hu).elim) (by unfold maxLen; omega) (by omega) hbase ?_
      intro v' w' h1 h2 _
      exact h v' w' (by simpa using h1) ((Below.refl _ _).grown h2 hbase (fun g hg => (hown.lt g hg).1))
    | none =>
    obtain rfl := hnx rfl
    refine wpList_append_own_none hgd s x 30 ho base 5 i0 1 Tryd.underlying30 hi v l.length (byCs l) hs hown hx ?_
    exact h v w (by simpa using hown) (Below.refl _ _)
  · refine wpList_append_own w hgd s x 30 ho base 5 i0 _ 1 1 Tryd.underlying30 hi hz0 hz1 hz2 rfl (by decide) v l.length (byCs l) hs hown ⟨b, of, none⟩ m.length c (byCs m) hx (by simp [byCs]) hA.cells byCs_one (by unfold maxLen; omega) (by omega) hbase ?_
    intro v' w' h1 h2 _
    refine h v' w' (by rw [byCs_append, List.length_append]; exact h1) ((Below.refl _ _).grown h2 hbase (fun g hg => (hown.lt g hg).1))

set_option maxHeartbeats 1000000 in
set_option maxRecDepth 100000 in
theorem concat_any (A : Nat) (v1 v2 : Value) (l1 l2 : List Nat) (w : World) (hA : A < w.heap.size) (c0 : w.cell? ⟨A, 0, none⟩ = some v1) (c1 : w.cell? ⟨A, 1, none⟩ = some v2) (h1 : ByQ w v1 l1) (h2 : ByQ w v2 l2) (hn1 : l1.length ≤ 100000) (hn2 : l2.length ≤ 100000) :
    Calls Tryd.prog 30 #[.slice (some ⟨A, 0, none⟩) 2 2] w fun e w' => ∃ v', e = .returned v' ∧ w'.ownsRow w.heap.size 5 1 v' (l1 ++ l2).length (byCs (l1 ++ l2)) ∧ Below w.heap.size w w' := by
  obtain ⟨a1, k1, e1⟩ := h1.form
  obtain ⟨a2, k2, e2⟩ := h2.form
  subst e1 e2
  have HQ1 := hideIt h1
  have HQ2 := hideIt h2
  have HC0 := hideIt c0
  have HC1 := hideIt c1
  clear h1 h2
  have hg := grow_any (l1.length + l2.length) w (by omega)
  rw [show ((l1.length + l2.length : Nat) : Int) = (l1.length : Int) + (l2.length : Int) from by omega] at hg
  have HG := hideIt hg
  clear hg
  go_enter Tryd.func30, Tryd.ntmps30
  go_wp2
  go_loop [3, 11] (fun t i => (i = .int .i64 0 ∧ t = .int .i64 0) ∨ (i = .int .i64 1 ∧ t = .int .i64 (l1.length : Nat)) ∨ (i = .int .i64 2 ∧ t = .int .i64 ((l1.length : Int) + (l2.length : Int)))) (fun _ i => 2 - (intOf i).toNat)
  case atStart => exact Or.inl ⟨rfl, rfl⟩
  case round =>
    rcases hrel with ⟨rfl, rfl⟩ | ⟨rfl, rfl⟩ | ⟨rfl, rfl⟩
    · go_wp2
      go_round
      case rel => exact Or.inr (Or.inl ⟨rfl, rfl⟩)
      case measure => simp [intOf]
    · go_wp2
      go_round
      case rel => exact Or.inr (Or.inr ⟨rfl, rfl⟩)
      case measure => simp [intOf]
    · go_wp2_with fail
      refine HG.out.mono ?_
      rintro x w1 ⟨v0, rfl, ho, hb⟩
      have HO := hideIt (show w1.ownsRow w.heap.size 5 1 v0 ([] : List Nat).length (byCs []) from ho)
      have HB := hideIt hb
      clear ho hb c0 c1
      go_wp2
      go_loopw [6, 27] (fun v i wr => ∃ j : Nat, j ≤ 2 ∧ i = .int .i64 j ∧ wr.ownsRow w.heap.size 5 1 v (match j with | 0 => [] | 1 => l1 | _ => l1 ++ l2).length (byCs (match j with | 0 => [] | 1 => l1 | _ => l1 ++ l2)) ∧ Below w.heap.size w wr) (fun _ i _ => 2 - (intOf i).toNat)
      case atStart => exact ⟨0, by omega, rfl, HO.out, HB.out⟩
      case round =>
        obtain ⟨j, hj, rfl, hown, hnx⟩ := hrel
        have HN := hideIt hnx
        have c0 := (hnx.cell (p := ⟨A, 0, none⟩) hA).trans HC0.out
        have c1 := (hnx.cell (p := ⟨A, 1, none⟩) hA).trans HC1.out
        have hj3 : j = 0 ∨ j = 1 ∨ j = 2 := by omega
        rcases hj3 with rfl | rfl | rfl
        · have HO2 := hideIt (show wr.ownsRow w.heap.size 5 1 _ ([] : List Nat).length (byCs []) from hown)
          clear hown hnx HO HB
          go_wp2_with (at_builtin; refine wpList_append_by rfl _ _ rfl w.heap.size _ _ [] l1 rfl rfl HO2.out (HQ1.out.below HN.out) (by simp; omega) HN.out.size ?_)
          intro v' w' ho hb
          have H1 := hideIt ho
          have H2 := hideIt (HN.out.trans hb)
          clear ho hb
          go_wp2
          go_roundw
          case rel => exact ⟨1, by omega, rfl, H1.out, H2.out⟩
          case measure => simp [intOf]
        · have HO2 := hideIt (show wr.ownsRow w.heap.size 5 1 _ l1.length (byCs l1) from hown)
          clear hown hnx HO HB
          go_wp2_with (at_builtin; refine wpList_append_by rfl _ _ rfl w.heap.size _ _ l1 l2 rfl rfl HO2.out (HQ2.out.below HN.out) (by omega) HN.out.size ?_)
          intro v' w' ho hb
          have H1 := hideIt ho
          have H2 := hideIt (HN.out.trans hb)
          clear ho hb
          go_wp2
          go_roundw
          case rel => exact ⟨2, by omega, rfl, by have := H1.out; rw [← List.length_append] at this; exact this, H2.out⟩
          case measure => simp [intOf]
        · have HO2 := hideIt (show wr.ownsRow w.heap.size 5 1 _ (l1 ++ l2).length (byCs (l1 ++ l2)) from hown)
          clear hown hnx HO HB
          go_wp2
          go_ret
          exact ⟨_, rfl, HO2.out, HN.out⟩

end Go.Proofs.YtdncnljcihblbaaDoor
