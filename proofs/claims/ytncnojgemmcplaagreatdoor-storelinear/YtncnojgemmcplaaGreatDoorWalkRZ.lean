/-
  A call of a register, of a counter, of a mutex: the number is one's own, and is written in place.
  A call of a queue, of a stack: what is one's own is appended to, or shortened, in place.
  Four functions of package slices laid at this program: numbers of its functions and types, and a fact a field.
  The library's search, insert and delete over a state that is one's own.
  A call of a set: looked for by halves; put in, or taken out, in place.
  What a call makes of a state that is one's own, whatever the object: walked.
  What Step of package model tells, and the world that it leaves: walked.
-/
import Derived.Test.YtncnojgemmcplaaGreatDoorPlainSZ
import Derived.Test.YtncnojgemmcplaaGreatDoorWalkCZ
import Derived.Deep.QuietTactic
import Derived.BigQuiet
import Derived.ArgAppend
import Derived.Lib.JoinLaws
import Derived.Shelf.Slices.SearchI
import Derived.Shelf.Slices.Clone
import Derived.Shelf.Slices.Delete
import Derived.Shelf.Slices.Empties
import Derived.Shelf.Spec.SlicesInsertGrow
import Derived.Test.YtncnojgemmcplaaGreatDoorProg
import Derived.Deep.RegionHeld3
import Derived.Deep.RegionWith
namespace Go.Proofs.YtncnojgemmcplaaGreatDoor
open Go.RowKit


/-- A number that may be written into. -/
structure NumAt (w : World) (g off : Nat) (x : Int) : Prop where
  cell : w.cell? ⟨g, off, none⟩ = some (.int .i64 x)
  fz : w.frozen? ⟨g, off, none⟩ = false
  lt : g < w.heap.size

theorem NumAt.alloc {w : World} {g off : Nat} {x : Int} (h : NumAt w g off x) (o : Obj) : NumAt (w.alloc o) g off x :=
  ⟨(World.grownBy_alloc w o none).cell h.cell (by simp), by
    have e := (World.grownBy_alloc w o none).block g h.lt (by simp)
    exact (World.frozen?_of_block (a := ⟨g, off, none⟩) e).trans h.fz, Nat.lt_of_lt_of_le h.lt (World.grownBy_alloc w o none).size⟩

theorem RowAt.num {w : World} {base g off cap : Nat} {x : Int} (h : RowAt w base (.slice (some ⟨g, off, none⟩) 1 cap) [x]) : NumAt w g off x := by
  rcases h with ⟨h, _⟩ | ⟨g', off', cap', cur, e, hb, hg, h1, h2, h3, h4⟩
  · cases h
  · obtain ⟨⟨rfl, rfl⟩, _, rfl⟩ : (g = g' ∧ off = off') ∧ 1 = [x].length ∧ cap = cap' := by simpa using e
    exact ⟨by simpa using h4 0 (by simp), unfrozen_of_heap hg _, lt_of_heap hg⟩

theorem RowAt.write {w : World} {base g off cap : Nat} {x : Int} (h : RowAt w base (.slice (some ⟨g, off, none⟩) 1 cap) [x]) (y : Int) : RowAt (w.setCell ⟨g, off, none⟩ (.int .i64 y)) base (.slice (some ⟨g, off, none⟩) 1 cap) [y] := by
  have hn := h.num
  rcases h with ⟨h, _⟩ | ⟨g', off', cap', cur, e, hb, hg, h1, h2, h3, h4⟩
  · cases h
  · obtain ⟨⟨rfl, rfl⟩, _, rfl⟩ : (g = g' ∧ off = off') ∧ 1 = [x].length ∧ cap = cap' := by simpa using e
    refine rowAt_put hb (heap_setCell hg _ _) (by simpa using h1) h2 h3 (fun j hj => ?_) rfl
    obtain rfl : j = 0 := by simp at hj; omega
    simpa using World.cell?_setCell_same _ _ _ hn.cell

set_option maxHeartbeats 1000000 in
theorem callRegister_any (x : Int) (op : Opn) (g off : Nat) (w : World) (h : NumAt w g off x) :
    Calls Tryz.prog 173 #[.pointer (some ⟨g, off, none⟩), op.agg] w fun e w' => e = .returned (.int .i64 (regM x op.d op.a op.b).2) ∧
      ∃ w1, w.grownBy w1 none ∧ ((regM x op.d op.a op.b).1 = x ∧ w' = w1 ∨ w' = w1.setCell ⟨g, off, none⟩ (.int .i64 (regM x op.d op.a op.b).1)) := by
  obtain ⟨c1, f1, _⟩ := h.alloc op.obj
  have hgr := World.grownBy_alloc w op.obj none
  unfold Opn.obj at c1 f1 hgr
  unfold Opn.agg
  cases h2 : (op.d == 2)
  · have n2 : op.d ≠ 2 := by simpa using h2
    cases h3 : (op.d == 3)
    · have n3 : op.d ≠ 3 := by simpa using h3
      have e : regM x op.d op.a op.b = (x, x) := by simp [regM, n2, n3]
      rw [e]; clear e h n2 n3
      go_enter Tryz.func173, Tryz.ntmps173
      go_wp2
      go_ret
      exact ⟨rfl, _, hgr, .inl ⟨trivial, rfl⟩⟩
    · have n3 : op.d = 3 := by simpa using h3
      cases h4 : (x != op.a)
      · have n4 : x = op.a := by simpa using h4
        have e : regM x op.d op.a op.b = (op.b, 1) := by simp [regM, n3, n4]
        rw [e]; clear e h n2 n3 n4
        go_enter Tryz.func173, Tryz.ntmps173
        go_wp2_with fail
        go_region
        go_wp2
        go_ret
        exact ⟨rfl, _, hgr.trans (grown_drew _ _), .inr rfl⟩
      · have n4 : x ≠ op.a := by simpa using h4
        have e : regM x op.d op.a op.b = (x, 0) := by simp [regM, n3, n4]
        rw [e]; clear e h n2 n3 n4
        go_enter Tryz.func173, Tryz.ntmps173
        go_wp2_with fail
        go_region
        go_wp2
        go_ret
        exact ⟨rfl, _, hgr.trans (grown_drew _ _), .inl ⟨trivial, rfl⟩⟩
  · have n2 : op.d = 2 := by simpa using h2
    have e : regM x op.d op.a op.b = (op.a, 0) := by simp [regM, n2]
    rw [e]; clear e h n2
    go_enter Tryz.func173, Tryz.ntmps173
    go_wp2
    go_ret
    exact ⟨rfl, _, hgr, .inr rfl⟩

set_option maxHeartbeats 1000000 in
theorem callCounter_any (x : Int) (op : Opn) (g off : Nat) (w : World) (h : NumAt w g off x) :
    Calls Tryz.prog 174 #[.pointer (some ⟨g, off, none⟩), op.agg] w fun e w' => e = .returned (.int .i64 (cntM x op.d op.a).2) ∧
      ∃ w1, w.grownBy w1 none ∧ ((cntM x op.d op.a).1 = x ∧ w' = w1 ∨ w' = w1.setCell ⟨g, off, none⟩ (.int .i64 (cntM x op.d op.a).1)) := by
  obtain ⟨c1, f1, _⟩ := h.alloc op.obj
  have hgr := World.grownBy_alloc w op.obj none
  unfold Opn.obj at c1 f1 hgr
  unfold Opn.agg
  cases h2 : (op.d == 4)
  · have n2 : op.d ≠ 4 := by simpa using h2
    have e : cntM x op.d op.a = (x, x) := by simp [cntM, n2]
    rw [e]; clear e h n2
    go_enter Tryz.func174, Tryz.ntmps174
    go_wp2
    go_ret
    exact ⟨rfl, _, hgr, .inl ⟨trivial, rfl⟩⟩
  · have n2 : op.d = 4 := by simpa using h2
    have e : cntM x op.d op.a = (wrap64 (x + op.a), wrap64 (x + op.a)) := by simp [cntM, n2]
    rw [e]; clear e h n2
    go_enter Tryz.func174, Tryz.ntmps174
    go_wp2_with fail
    go_region
    have c2 := World.cell?_setCell_same _ ⟨g, off, none⟩ (.int .i64 (wrap64 (x + op.a))) (show (w.alloc (.cells #[.int .i64 op.p, .int .i64 op.k, .int .i64 op.d, .int .i64 op.a, .int .i64 op.b, .int .i64 op.r, .int .i64 op.c, .int .i64 op.e] 154)).drew.cell? _ = _ from c1)
    go_wp2
    go_ret
    exact ⟨rfl, _, hgr.trans (grown_drew _ _), .inr rfl⟩

set_option maxHeartbeats 1000000 in
theorem callMutex_any (x : Int) (op : Opn) (g off : Nat) (w : World) (h : NumAt w g off x) :
    Calls Tryz.prog 178 #[.pointer (some ⟨g, off, none⟩), op.agg] w fun e w' => e = .returned (.bool (mutM x op.d).isSome) ∧
      ∃ w1, w.grownBy w1 none ∧ (mutM x op.d = none ∧ w' = w1 ∨ ∃ y, mutM x op.d = some y ∧ w' = w1.setCell ⟨g, off, none⟩ (.int .i64 y)) := by
  obtain ⟨c1, f1, _⟩ := h.alloc op.obj
  have hgr := World.grownBy_alloc w op.obj none
  unfold Opn.obj at c1 f1 hgr
  unfold Opn.agg
  cases h2 : (op.d == 12)
  · have n2 : op.d ≠ 12 := by simpa using h2
    cases h3 : (x != 0)
    · have n3 : x = 0 := by simpa using h3
      have e : mutM x op.d = some 1 := by simp [mutM, n2, n3]
      rw [e]; clear e h n2 n3
      go_enter Tryz.func178, Tryz.ntmps178
      go_wp2
      go_ret
      exact ⟨rfl, _, hgr, .inr ⟨1, rfl, rfl⟩⟩
    · have n3 : x ≠ 0 := by simpa using h3
      have e : mutM x op.d = none := by simp [mutM, n2, n3]
      rw [e]; clear e h n2 n3
      go_enter Tryz.func178, Tryz.ntmps178
      go_wp2
      go_ret
      exact ⟨rfl, _, hgr, .inl ⟨trivial, rfl⟩⟩
  · have n2 : op.d = 12 := by simpa using h2
    cases h3 : (x != 1)
    · have n3 : x = 1 := by simpa using h3
      have e : mutM x op.d = some 0 := by simp [mutM, n2, n3]
      rw [e]; clear e h n2 n3
      go_enter Tryz.func178, Tryz.ntmps178
      go_wp2
      go_ret
      exact ⟨rfl, _, hgr, .inr ⟨0, rfl, rfl⟩⟩
    · have n3 : x ≠ 1 := by simpa using h3
      have e : mutM x op.d = none := by simp [mutM, n2, n3]
      rw [e]; clear e h n2 n3
      go_enter Tryz.func178, Tryz.ntmps178
      go_wp2
      go_ret
      exact ⟨rfl, _, hgr, .inl ⟨trivial, rfl⟩⟩

end Go.Proofs.YtncnojgemmcplaaGreatDoor

namespace Go.Proofs.YtncnojgemmcplaaGreatDoor
open Go.RowKit

/-- What a call leaves: the state that it made, in the same block or in one that is new; all else as it was. -/
structure Turned (w : World) (base : Nat) (v : Value) (w' : World) (v' : Value) (st' : List Int) : Prop where
  row : RowAt w' base v' st'
  grown : w.grownBy w' v.ownBlock
  own : ∀ k, v'.ownBlock = some k → v.ownBlock = some k ∨ w.heap.size ≤ k


/-- One ahead of it that makes new blocks alone. -/
theorem Turned.behind {w w1 : World} {base : Nat} {v : Value} {w' : World} {v' : Value} {st' : List Int} (h : Turned w1 base v w' v' st') (hg : w.grownBy w1 none) : Turned w base v w' v' st' :=
  ⟨h.row, (hg.but _).trans h.grown, fun k hk => (h.own k hk).imp id (fun e => Nat.le_trans hg.size e)⟩

theorem RowAt.new {w w' : World} {base : Nat} {v : Value} {st : List Int} (h : RowAt w base v st) (hg : w.grownBy w' none) : RowAt w' base v st := h.kept hg (Classical.em _)
theorem turned_same {w : World} {base : Nat} {v : Value} {st : List Int} (h : RowAt w base v st) : Turned w base v w v st := ⟨h, grown_refl _ _, fun _ hk => .inl hk⟩

theorem info3 : (Tryz.prog.info? 3).map (fun i => (i.zero, i.size, i.bytes)) = some (some (Value.int .i64 0), 1, 8) := by kernel_rfl

section
variable {w : World}
theorem wpList_append_row {ops : Array Oper} {rest : List Oper} {o : Oper} {a : Act} {Q : Exit → Act → World → Prop} (hgd : o.guard = none) (s x : Operand)
    (ho : o.op = .call { callee := .builtin .append, args := #[s, x], argTypes := #[69, 69] })
    (base : Nat) (v : Value) (st : List Int) (hs : a.eval s = v) (hrow : RowAt w base v st)
    (B c : Nat) (n : Int) (hx : a.eval x = .slice (some ⟨B, 0, none⟩) 1 c) (hn : w.cell? ⟨B, 0, none⟩ = some (.int .i64 n))
    (hlen : st.length ≤ 100000) (hbase : base ≤ w.heap.size)
    (h : ∀ v' w', Turned w base v w' v' (st ++ [n]) → wpList Tryz.prog ops Q rest (a.put o.dst v') w') : wpList Tryz.prog ops Q (o :: rest) a w := by
  obtain ⟨i, hi, hz, hsz, hby⟩ := info_parts info3
  have hnews : ∀ j u, [Value.int .i64 n][j]? = some u → w.cell? ((⟨B, 0, none⟩ : Addr).add j) = some u := by
    intro j u hj
    match j, hj with
    | 0, hj => simp at hj; subst hj; simpa [Addr.add] using hn
  have hmk : ∀ v' w', w'.ownsRow w.heap.size 3 1 v' (st.length + 1) (st.map (Value.int .i64) ++ [.int .i64 n]) → w.grownBy w' none → Turned w base v w' v' (st ++ [n]) := by
    intro v' w' ho' hg
    have hr : RowAt w' w.heap.size v' (st ++ [n]) := rowAt_owns (by simpa using ho')
    exact ⟨hr.base hbase, hg.but _, fun k hk => .inr (hr.lt k hk).1⟩
  rcases hrow with ⟨rfl, rfl⟩ | ⟨g, off, cap, cur, rfl, hb, hg, h1, h2, h3, h4⟩
  · refine wpList_append_grows w hgd s x 69 ho 3 i _ 1 8 Tryz.underlying69 hi hz hsz hby rfl (by decide) none 0 0 [] hs (fun _ => ⟨rfl, rfl⟩) rfl (fun b hb => by cases hb) ⟨B, 0, none⟩ 1 c [.int .i64 n] hx rfl hnews (by simp [Value.oneCell']) (by decide) (by decide) (by decide) ?_
    intro v' w' ho' hg'
    exact h v' w' (hmk v' w' ho' hg')
  · by_cases hroom : st.length + 1 ≤ cap
    · refine wpList_append_room1 w hgd s x 69 69 ho 3 (.int .i64 0) 8 Tryz.underlying69 info3 g off st.length cap hs _ hx 1 [.int .i64 n]
        (Src.ofSlice w Tryz.underlying69 ⟨B, 0, none⟩ 1 c [.int .i64 n] (by simp) hnews (by simp [Value.oneCell'])) hroom
        (fun j hj => some_of_heap hg (by simp at hj; omega)) (fun j _ => unfrozen_of_heap hg _) ?_
      have hc : (w.setCells g (off + st.length) [.int .i64 n]).cell? ⟨g, off + st.length, none⟩ = some (.int .i64 n) := by
        simpa using World.cell?_setCells_in g [.int .i64 n] (off + st.length) w (fun j hj => some_of_heap hg (by simp at hj; omega)) 0 (by simp)
      refine h _ _ ⟨rowAt_put hb (heap_setCells _ _ _ _ hg) (by simpa using hroom) h2 h3 (fun j hj => ?_) (by simp), grown_setCells _ _ _ _, fun k hk => .inl hk⟩
      by_cases hj' : j < st.length
      · rw [List.getElem_append_left hj', World.cell?_setCells_out g _ _ _ _ (fun _ _ => .inl (by show off + j < off + st.length; omega))]
        exact h4 j hj'
      · obtain rfl : j = st.length := by simp at hj; omega
        rw [hc]; simp
    · refine wpList_append_grows w hgd s x 69 ho 3 i _ 1 8 Tryz.underlying69 hi hz hsz hby rfl (by decide) (some ⟨g, off, none⟩) st.length cap (st.map (Value.int .i64)) hs (fun e => by cases e) (by simp) (fun b hb j u hu => ?_) ⟨B, 0, none⟩ 1 c [.int .i64 n] hx rfl hnews (by simp [Value.oneCell']) (by omega) (by unfold maxLen; omega) (by omega) ?_
      · obtain rfl := Option.some.inj hb
        have hj : j < st.length := by
          have := (List.getElem?_eq_some_iff.1 hu).1
          simpa using this
        rw [List.getElem?_map, List.getElem?_eq_getElem hj] at hu
        simp at hu
        subst hu
        rw [Addr.add_lit]
        exact h4 j hj
      · intro v' w' ho' hg'
        exact h v' w' (hmk v' w' ho' hg')
end


theorem queM_push {st : List Int} {k a : Int} (h : k = 9) : queM st k a = (st ++ [a], 0) := by simp [queM, h]
theorem queM_none {k a : Int} (h : k ≠ 9) : queM [] k a = ([], -1) := by simp [queM, h]
theorem queM_pop {st : List Int} {k a : Int} (h : k ≠ 9) (h0 : 0 < st.length) : queM st k a = (st.drop 1, st[0]) := by
  cases st with
  | nil => simp at h0
  | cons x r => simp [queM, h]
theorem staM_push {st : List Int} {k a : Int} (h : k = 9) : staM st k a = (st ++ [a], 0) := by simp [staM, h]
theorem staM_none {k a : Int} (h : k ≠ 9) : staM [] k a = ([], -1) := by simp [staM, h]
theorem staM_pop {st : List Int} {k a : Int} (h : k ≠ 9) (h0 : 0 < st.length) : staM st k a = (st.take (st.length - 1), st[st.length - 1]) := by
  have : st ≠ [] := fun e => by simp [e] at h0
  simp [staM, h, this, List.getD_eq_getElem?_getD, List.getElem?_eq_getElem (show st.length - 1 < st.length by omega)]

theorem RowAt.drop1 {w : World} {base g off cap : Nat} {st : List Int} (h : RowAt w base (.slice (some ⟨g, off, none⟩) st.length cap) st) (h0 : 0 < st.length) :
    RowAt w base (.slice (if cap = 1 then some ⟨g, off, none⟩ else some ⟨g, off + 1, none⟩) (st.length - 1) (cap - 1)) (st.drop 1) := by
  rcases h with ⟨h, _⟩ | ⟨g', off', cap', cur, e, hb, hg, h1, h2, h3, h4⟩
  · cases h
  · obtain ⟨⟨rfl, rfl⟩, rfl⟩ : (g = g' ∧ off = off') ∧ cap = cap' := by simpa using e
    by_cases hc : cap = 1
    · rw [if_pos hc]
      refine rowAt_put hb ⟨cur, hg, rfl⟩ (by simp; omega) (by omega) (by omega) (fun j hj => ?_) (by simp)
      simp at hj; omega
    · rw [if_neg hc]
      refine rowAt_put hb ⟨cur, hg, rfl⟩ (by simp; omega) (by omega) (by omega) (fun j hj => ?_) (by simp)
      have := h4 (1 + j) (by simp at hj; omega)
      rw [List.getElem_drop, show off + 1 + j = off + (1 + j) by omega]
      exact this

theorem RowAt.init {w : World} {base g off cap : Nat} {st : List Int} (h : RowAt w base (.slice (some ⟨g, off, none⟩) st.length cap) st) :
    RowAt w base (.slice (some ⟨g, off, none⟩) (st.length - 1) cap) (st.take (st.length - 1)) := by
  rcases h with ⟨h, _⟩ | ⟨g', off', cap', cur, e, hb, hg, h1, h2, h3, h4⟩
  · cases h
  · obtain ⟨⟨rfl, rfl⟩, rfl⟩ : (g = g' ∧ off = off') ∧ cap = cap' := by simpa using e
    refine rowAt_put hb ⟨cur, hg, rfl⟩ (by simp; omega) (by omega) (by omega) (fun j hj => ?_) (by simp)
    rw [List.getElem_take]
    exact h4 j (by simp at hj; omega)

set_option maxRecDepth 100000 in
set_option maxHeartbeats 1000000 in
theorem callQueue_push (st : List Int) (op : Opn) (v : Value) (base : Nat) (w : World) (h : RowAt w base v st) (hlen : st.length ≤ 100000) (hbase : base ≤ w.heap.size) (hd : op.d = 9) :
    Calls Tryz.prog 176 #[v, op.agg] w fun e w' => ∃ v', e = .returned (.tuple #[v', .int .i64 (queM st op.d op.a).2]) ∧ Turned w base v w' v' (queM st op.d op.a).1 := by
  rw [queM_push hd]
  have h2 : (op.d == 9) = true := by simpa using hd
  have hgr := World.grownBy_alloc w op.obj none
  unfold Opn.obj at hgr
  unfold Opn.agg
  have H := hideIt h
  clear h hd
  go_enter Tryz.func176, Tryz.ntmps176
  go_wp2_with (at_builtin; refine wpList_append_row rfl _ _ rfl base v st rfl ((H.out.new hgr).new (World.grownBy_alloc _ (.cells #[.int .i64 op.a] 3) none)) (w.heap.size + 1) 1 op.a rfl ?c1 hlen ?c2 ?_)
  case c1 => simp
  case c2 => simp; omega
  intro v' w' ht
  have HT := hideIt (ht.behind (hgr.trans (World.grownBy_alloc _ _ none)))
  clear ht
  go_wp2
  go_ret2
  exact ⟨_, rfl, HT.out⟩

set_option maxRecDepth 100000 in
set_option maxHeartbeats 1000000 in
theorem callStack_push (st : List Int) (op : Opn) (v : Value) (base : Nat) (w : World) (h : RowAt w base v st) (hlen : st.length ≤ 100000) (hbase : base ≤ w.heap.size) (hd : op.d = 9) :
    Calls Tryz.prog 177 #[v, op.agg] w fun e w' => ∃ v', e = .returned (.tuple #[v', .int .i64 (staM st op.d op.a).2]) ∧ Turned w base v w' v' (staM st op.d op.a).1 := by
  rw [staM_push hd]
  have h2 : (op.d == 9) = true := by simpa using hd
  have hgr := World.grownBy_alloc w op.obj none
  unfold Opn.obj at hgr
  unfold Opn.agg
  have H := hideIt h
  clear h hd
  go_enter Tryz.func177, Tryz.ntmps177
  go_wp2_with (at_builtin; refine wpList_append_row rfl _ _ rfl base v st rfl ((H.out.new hgr).new (World.grownBy_alloc _ (.cells #[.int .i64 op.a] 3) none)) (w.heap.size + 1) 1 op.a rfl ?c1 hlen ?c2 ?_)
  case c1 => simp
  case c2 => simp; omega
  intro v' w' ht
  have HT := hideIt (ht.behind (hgr.trans (World.grownBy_alloc _ _ none)))
  clear ht
  go_wp2
  go_ret2
  exact ⟨_, rfl, HT.out⟩

set_option maxHeartbeats 1000000 in
theorem callQueue_pop (st : List Int) (op : Opn) (v : Value) (base : Nat) (w : World) (h : RowAt w base v st) (hd : op.d ≠ 9) (hlen : st.length ≤ 100000) :
    Calls Tryz.prog 176 #[v, op.agg] w fun e w' => ∃ v', e = .returned (.tuple #[v', .int .i64 (queM st op.d op.a).2]) ∧ Turned w base v w' v' (queM st op.d op.a).1 := by
  have h2 : (op.d == 9) = false := by simpa using hd
  have hgr := World.grownBy_alloc w op.obj none
  have HR := hideIt (h.new hgr)
  have HG := hideIt hgr
  unfold Opn.obj at HR HG
  clear hgr
  by_cases h0 : st = []
  · subst h0
    rw [queM_none hd]
    obtain ⟨a, cap, rfl, _⟩ := h.has
    unfold Opn.agg
    clear h hd
    go_enter Tryz.func176, Tryz.ntmps176
    go_wp2
    go_ret2
    exact ⟨_, rfl, (turned_same HR.out).behind HG.out⟩
  · have hpos : 0 < st.length := List.length_pos_iff.2 h0
    rw [queM_pop hd hpos]
    rcases h with ⟨_, h⟩ | ⟨g, off, cap, cur, rfl, hb, hg, h1, h2', h3, h4⟩
    · exact absurd h h0
    have c1 : (w.alloc op.obj).cell? ⟨g, off, none⟩ = some (.int .i64 st[0]) := HG.out.cell (h4 0 hpos) (by simp)
    have hT : Hid (Turned w base (.slice (some ⟨g, off, none⟩) st.length cap) ((w.alloc op.obj).drew) (.slice (if cap = 1 then some ⟨g, off, none⟩ else some ⟨g, off + 1, none⟩) (st.length - 1) (cap - 1)) (st.drop 1)) := by
      refine ⟨(HR.out.drop1 hpos).new (grown_drew _ _), (HG.out.trans (grown_drew _ _)).but _, fun k hk => .inl ?_⟩
      revert hk
      split <;> exact fun hk => hk
    have k1 : (1 : Int) ≤ (st.length : Int) := by omega
    have k2 : (st.length : Int) ≤ (cap : Int) := by omega
    have k3 : (0 : Int) < (st.length : Int) := by omega
    have k4 : ((st.length : Int) == 0) = false := by simp; omega
    have k5 : (1 : Int) ≤ (cap : Int) := by omega
    have hcap : cap ≤ 9223372036854775807 := by unfold maxLen at h3; omega
    unfold Opn.obj at c1 hT
    unfold Opn.agg
    clear hd h0 h4 hg h2' HR HG h3 hb
    by_cases hc : cap = 1
    · subst hc
      go_enter Tryz.func176, Tryz.ntmps176
      go_wp2_with fail
      go_region
      go_wp2
      go_ret2
      exact ⟨_, rfl, by simpa [show st.length = 1 by omega] using hT.out⟩
    · go_enter Tryz.func176, Tryz.ntmps176
      go_wp2_with fail
      go_region
      go_wp2
      go_ret2
      exact ⟨_, rfl, by simpa [hc] using hT.out⟩

set_option maxHeartbeats 1000000 in
theorem callStack_pop (st : List Int) (op : Opn) (v : Value) (base : Nat) (w : World) (h : RowAt w base v st) (hd : op.d ≠ 9) (hlen : st.length ≤ 100000) :
    Calls Tryz.prog 177 #[v, op.agg] w fun e w' => ∃ v', e = .returned (.tuple #[v', .int .i64 (staM st op.d op.a).2]) ∧ Turned w base v w' v' (staM st op.d op.a).1 := by
  have h2 : (op.d == 9) = false := by simpa using hd
  have hgr := World.grownBy_alloc w op.obj none
  have HR := hideIt (h.new hgr)
  have HG := hideIt hgr
  unfold Opn.obj at HR HG
  clear hgr
  by_cases h0 : st = []
  · subst h0
    rw [staM_none hd]
    obtain ⟨a, cap, rfl, _⟩ := h.has
    unfold Opn.agg
    clear h hd
    go_enter Tryz.func177, Tryz.ntmps177
    go_wp2
    go_ret2
    exact ⟨_, rfl, (turned_same HR.out).behind HG.out⟩
  · have hpos : 0 < st.length := List.length_pos_iff.2 h0
    rw [staM_pop hd hpos]
    rcases h with ⟨_, h⟩ | ⟨g, off, cap, cur, rfl, hb, hg, h1, h2', h3, h4⟩
    · exact absurd h h0
    have c1 : (w.alloc op.obj).cell? ⟨g, off + (st.length - 1), none⟩ = some (.int .i64 (st[st.length - 1]'(by omega))) := HG.out.cell (h4 (st.length - 1) (by omega)) (by simp)
    have hT : Hid (Turned w base (.slice (some ⟨g, off, none⟩) st.length cap) ((w.alloc op.obj).drew) (.slice (some ⟨g, off, none⟩) (st.length - 1) cap) (st.take (st.length - 1))) :=
      ⟨HR.out.init.new (grown_drew _ _), (HG.out.trans (grown_drew _ _)).but _, fun k hk => .inl hk⟩
    obtain ⟨z, hz⟩ : ∃ z, z = st[st.length - 1]'(by omega) := ⟨_, rfl⟩
    rw [← hz] at c1 ⊢
    obtain ⟨n, hn⟩ : ∃ n, st.length = n + 1 := ⟨st.length - 1, by omega⟩
    rw [hn] at c1 hT ⊢
    rw [Nat.add_sub_cancel] at c1 hT ⊢
    have k0 : IntKind.i64.wrap (((n + 1 : Nat) : Int) - 1) = (n : Int) := by rw [IntKind.wrap_i64]; omega
    have k1 : (0 : Int) ≤ (n : Int) := by omega
    have k2 : (n : Int) < ((n + 1 : Nat) : Int) := by omega
    have k3 : (n : Int) ≤ (cap : Int) := by omega
    have k4 : decide ((n : Int) < 0) = false := by simp
    have hcap : cap ≤ 9223372036854775807 := by unfold maxLen at h3; omega
    unfold Opn.obj at c1 hT
    unfold Opn.agg
    clear hd h0 h4 hg h2' HR HG h3 hb hz
    go_enter Tryz.func177, Tryz.ntmps177
    go_wp2_with fail
    go_region
    go_wp2
    go_ret2
    exact ⟨_, rfl, by simpa using hT.out⟩

end Go.Proofs.YtncnojgemmcplaaGreatDoor

namespace Go.Proofs.YtncnojgemmcplaaGreatDoor
open Go.Shelf
def sl_ren : Go.Shelf.Ren := ⟨fun | 25 => 183 | 31 => 188 | 32 => 189 | 37 => 110 | 21 => 184 | 27 => 190 | 28 => 191 | 35 => 192 | 39 => 193 | 23 => 185 | 15 => 168 | n => n, fun | 22 => 69 | 40 => 193 | 0 => 0 | 3 => 3 | 4 => 4 | n => n, fun | n => n⟩
theorem laySearch : Go.Proofs.Lays2.n25 Tryz.prog sl_ren := {
  mixed := by kernel_rfl
  f25 := Tryz.func183.trans (congrArg some (by kernel_rfl))
  f31 := Tryz.func188.trans (congrArg some (by kernel_rfl))
  f32 := Tryz.func189.trans (congrArg some (by kernel_rfl))
  f37 := Tryz.func110.trans (congrArg some (by kernel_rfl))
  t0 := Tryz.underlying0
  a0 := Tryz.isAgg0
  z0 := Tryz.sizeOf0
  v0 := Tryz.zeroValue0
  t3 := Tryz.underlying3
  a3 := Tryz.isAgg3
  z3 := Tryz.sizeOf3
  v3 := Tryz.zeroValue3
  t4 := Tryz.underlying4
  a4 := Tryz.isAgg4
  z4 := Tryz.sizeOf4
  v4 := Tryz.zeroValue4
  t22 := Tryz.underlying69
  a22 := Tryz.isAgg69
  z22 := Tryz.sizeOf69
  v22 := Tryz.zeroValue69
  t40 := Tryz.underlying193
  a40 := Tryz.isAgg193
  z40 := Tryz.sizeOf193
  v40 := Tryz.zeroValue193
}
theorem layInsert : Go.Proofs.Lays2.n21 Tryz.prog sl_ren := {
  mixed := by kernel_rfl
  f21 := Tryz.func184.trans (congrArg some (by kernel_rfl))
  f27 := Tryz.func190.trans (congrArg some (by kernel_rfl))
  f28 := Tryz.func191.trans (congrArg some (by kernel_rfl))
  f35 := Tryz.func192.trans (congrArg some (by kernel_rfl))
  f39 := Tryz.func193.trans (congrArg some (by kernel_rfl))
  t0 := Tryz.underlying0
  a0 := Tryz.isAgg0
  z0 := Tryz.sizeOf0
  v0 := Tryz.zeroValue0
  t3 := Tryz.underlying3
  a3 := Tryz.isAgg3
  z3 := Tryz.sizeOf3
  v3 := Tryz.zeroValue3
  t4 := Tryz.underlying4
  a4 := Tryz.isAgg4
  z4 := Tryz.sizeOf4
  v4 := Tryz.zeroValue4
  t22 := Tryz.underlying69
  a22 := Tryz.isAgg69
  z22 := Tryz.sizeOf69
  v22 := Tryz.zeroValue69
  i3 := by kernel_rfl
}
theorem layDelete : Go.Proofs.Lays2.n23 Tryz.prog sl_ren := {
  mixed := by kernel_rfl
  f23 := Tryz.func185.trans (congrArg some (by kernel_rfl))
  t0 := Tryz.underlying0
  a0 := Tryz.isAgg0
  z0 := Tryz.sizeOf0
  v0 := Tryz.zeroValue0
  t3 := Tryz.underlying3
  a3 := Tryz.isAgg3
  z3 := Tryz.sizeOf3
  v3 := Tryz.zeroValue3
  t4 := Tryz.underlying4
  a4 := Tryz.isAgg4
  z4 := Tryz.sizeOf4
  v4 := Tryz.zeroValue4
  t22 := Tryz.underlying69
  a22 := Tryz.isAgg69
  z22 := Tryz.sizeOf69
  v22 := Tryz.zeroValue69
  i3 := by kernel_rfl
}
theorem layClone : Go.Proofs.Lays2.n15 Tryz.prog sl_ren := {
  mixed := by kernel_rfl
  f15 := Tryz.func168.trans (congrArg some (by kernel_rfl))
  t3 := Tryz.underlying3
  a3 := Tryz.isAgg3
  z3 := Tryz.sizeOf3
  v3 := Tryz.zeroValue3
  t4 := Tryz.underlying4
  a4 := Tryz.isAgg4
  z4 := Tryz.sizeOf4
  v4 := Tryz.zeroValue4
  t22 := Tryz.underlying69
  a22 := Tryz.isAgg69
  z22 := Tryz.sizeOf69
  v22 := Tryz.zeroValue69
  i3 := by kernel_rfl
}
end Go.Proofs.YtncnojgemmcplaaGreatDoor

namespace Go.Proofs.YtncnojgemmcplaaGreatDoor
open Go.RowKit Go.Sort

theorem getD_at {st : List Int} {j : Nat} (h : j < st.length) : st.getD j 0 = st[j] := by
  rw [List.getD_eq_getElem?_getD, List.getElem?_eq_getElem h]; rfl

theorem search_any (st : List Int) (a : Int) (v : Value) (base : Nat) (w : World) (h : RowAt w base v st) (hs : st.Pairwise (· ≤ ·)) (hlen : st.length ≤ 100000) :
    Calls Tryz.prog 183 #[v, .int .i64 a] w fun e w' => e = .returned (.tuple #[.int .i64 (placeOf st a : Nat), .bool (st.contains a)]) ∧ ∃ q, w' = w.drewN q := by
  rcases h with ⟨rfl, rfl⟩ | ⟨g, off, cap, cur, rfl, hb, hg, h1, h2, h3, h4⟩
  · exact (Any.slices_BinarySearch_int_empty laySearch none 0 a w).mono fun e w' ⟨he, hw⟩ => ⟨he, 0, hw⟩
  · have := Any.slices_BinarySearch_int laySearch g off st.length cap st a w (Nat.le_refl _) (by omega) (fun j hj => by rw [getD_at hj]; exact h4 j hj) (by rw [List.take_length]; exact hs)
    rw [List.take_length] at this
    exact this

theorem map_getElem? {st : List Int} {j : Nat} {u : Value} (h : (st.map (Value.int .i64))[j]? = some u) : ∃ hj : j < st.length, u = .int .i64 st[j] := by
  have hj : j < st.length := by
    have := (List.getElem?_eq_some_iff.1 h).1
    simpa using this
  rw [List.getElem?_map, List.getElem?_eq_getElem hj] at h
  exact ⟨hj, by simpa using h.symm⟩

theorem one_cells (st : List Int) : ∀ u ∈ st.map (Value.int .i64), u.oneCell' = true := by
  intro u hu
  obtain ⟨x, _, rfl⟩ := List.mem_map.1 hu
  rfl

/-- What an insert makes. -/
def insL (st : List Int) (i : Nat) (a : Int) : List Int := st.take i ++ a :: st.drop i
theorem insL_len {st : List Int} {i : Nat} {a : Int} (h : i ≤ st.length) : (insL st i a).length = st.length + 1 := by simp [insL]; omega
theorem insL_lo {st : List Int} {i j : Nat} {a : Int} (h : i ≤ st.length) (hj : j < i) : (insL st i a)[j]? = st[j]? := by
  unfold insL
  rw [List.getElem?_append_left (by simp; omega), List.getElem?_take_of_lt hj]
theorem insL_at {st : List Int} {i : Nat} {a : Int} (h : i ≤ st.length) : (insL st i a)[i]? = some a := by
  unfold insL
  rw [List.getElem?_append_right (by simp; omega)]
  simp [Nat.min_eq_left h]
theorem insL_hi {st : List Int} {i j : Nat} {a : Int} (h : i ≤ st.length) (hj : i ≤ j) : (insL st i a)[j + 1]? = st[j]? := by
  unfold insL
  rw [List.getElem?_append_right (by simp; omega)]
  simp only [List.length_take, Nat.min_eq_left h, show j + 1 - i = (j - i) + 1 by omega, List.getElem?_cons_succ, List.getElem?_drop]
  congr 1; omega
theorem insL_end {st : List Int} {a : Int} : insL st st.length a = st ++ [a] := by simp [insL]

/-- A block that holds one number. -/
def OneAt (w : World) (vb : Nat) (a : Int) : Prop := w.heap[vb]? = some (.cells #[.int .i64 a] 3 (0, 0))

theorem size_zero (n : Nat) : (Builtin.zeroCells (Value.int .i64 0).cells n).size = n := by rw [size_zeroCells]; simp [Value.cells]

theorem insL_cell {st : List Int} {i j : Nat} {a : Int} (hj : j < (insL st i a).length) {u : Int} (h : (insL st i a)[j]? = some u) : (insL st i a)[j] = u := by
  rw [List.getElem?_eq_getElem hj] at h
  exact Option.some.inj h

theorem insert_end_grow (st : List Int) (a : Int) (base vb vc : Nat) (w : World) (hlen : st.length ≤ 100000) (hbase : base ≤ w.heap.size) (hv : OneAt w vb a) (b : Option Addr) (cap : Nat) (hnc : st.length ≤ cap) (hroom : cap < st.length + 1)
    (hb0 : b = none → st.length = 0) (hcs : ∀ A, b = some A → ∀ j u, (st.map (Value.int .i64))[j]? = some u → w.cell? (A.add j) = some u) :
    Calls Tryz.prog 184 #[.slice b st.length cap, .int .i64 st.length, .slice (some ⟨vb, 0, none⟩) 1 vc] w fun e w' => ∃ v', e = .returned v' ∧ ∀ v0, Turned w base v0 w' v' (insL st st.length a) := by
  have hvs : ∀ j u, [Value.int .i64 a][j]? = some u → w.cell? ⟨vb, 0 + j, none⟩ = some u := by
    intro j u hj
    match j, hj with
    | 0, hj =>
      simp at hj; subst hj
      rw [cell_of_row w vb _ _ _ _ hv]; rfl
  refine (Any2.slices_Insert_int_end_grow layInsert b st.length cap vb 0 1 vc (st.map (Value.int .i64)) [.int .i64 a] w (by decide) hnc hroom (by omega) (by simp) rfl hb0 hcs hvs (by simp [Value.oneCell'])).mono ?_
  rintro e w' ⟨he, rfl⟩
  refine ⟨_, he, fun v0 => ?_⟩
  have hge := grownCap_ge w (st.length + 1) cap 3
  refine ⟨.inr ⟨w.heap.size, 0, grownCap w (st.length + 1) cap 3, _, by rw [insL_end, List.length_append]; rfl, hbase, heap_alloc_new w.drew _, by rw [insL_end]; simpa using hge, ?_, grownCap_le_maxLen _ _ _ _ (by unfold maxLen; omega), fun j hj => ?_⟩, ((grown_drew w none).trans (World.grownBy_alloc _ _ _)).but _, fun k hk => .inr ?_⟩
  · rw [Array.size_append, size_zeroCells]
    simp [Value.cells]
    show grownCap w (st.length + 1) cap 3 ≤ st.length + 1 + (grownCap w (st.length + 1) cap 3 - (st.length + 1))
    omega
  · refine (cell_of_row _ w.heap.size (0 + j) _ _ _ (heap_alloc_new w.drew _)).trans ?_
    have hj' : j < st.length + 1 := by rw [insL_end] at hj; simpa using hj
    rw [Array.getElem?_append_left (by simp; omega)]
    have e : (insL st st.length a).map (Value.int .i64) = st.map (Value.int .i64) ++ [.int .i64 a] := by rw [insL_end]; simp
    rw [← e, Nat.zero_add]
    simp [List.getElem?_eq_getElem hj]
  · obtain rfl : w.heap.size = k := by simpa [Value.ownBlock] using hk
    exact Nat.le_refl _

theorem insert_any (st : List Int) (i : Nat) (a : Int) (v : Value) (base vb vc : Nat) (w : World) (h : RowAt w base v st) (hi : i ≤ st.length) (hlen : st.length ≤ 100000) (hbase : base ≤ w.heap.size)
    (hv : OneAt w vb a) (hne : v.ownBlock ≠ some vb) :
    Calls Tryz.prog 184 #[v, .int .i64 i, .slice (some ⟨vb, 0, none⟩) 1 vc] w fun e w' => ∃ v', e = .returned v' ∧ Turned w base v w' v' (insL st i a) := by
  have hvs : ∀ j u, [Value.int .i64 a][j]? = some u → w.cell? ⟨vb, 0 + j, none⟩ = some u := by
    intro j u hj
    match j, hj with
    | 0, hj =>
      simp at hj; subst hj
      rw [cell_of_row w vb _ _ _ _ hv]; rfl
  have h1v : ∀ u ∈ [Value.int .i64 a], u.oneCell' = true := by simp [Value.oneCell']
  rcases h with ⟨rfl, rfl⟩ | ⟨g, off, cap, cur, rfl, hb, hg, h1, h2, h3, h4⟩
  · obtain rfl : i = 0 := by simpa using hi
    exact (insert_end_grow [] a base vb vc w (by decide) hbase hv none 0 (by decide) (by decide) (fun _ => rfl) (fun A hA => by cases hA)).mono fun e w' ⟨v', he, ht⟩ => ⟨v', he, ht _⟩
  · have hcs : ∀ j u, (st.map (Value.int .i64))[j]? = some u → w.cell? ⟨g, off + j, none⟩ = some u := fun j u hu => by
      obtain ⟨hj, rfl⟩ := map_getElem? hu
      exact h4 j hj
    by_cases hend : i = st.length
    · subst hend
      by_cases hroom : st.length + 1 ≤ cap
      · refine (Any2.slices_Insert_int_end_room layInsert g off st.length cap vb 0 1 vc [.int .i64 a] w (by decide) hroom (by unfold maxLen at h3; omega) rfl (fun j hj => some_of_heap hg (by omega)) (fun j _ => unfrozen_of_heap hg _) hvs h1v).mono ?_
        rintro e w' ⟨he, rfl⟩
        refine ⟨_, he, rowAt_put hb (heap_setCells _ _ _ _ hg) (by rw [insL_len (Nat.le_refl _)]; exact hroom) h2 h3 (fun j hj => ?_) (insL_len (Nat.le_refl _)).symm, grown_setCells _ _ _ _, fun k hk => .inl hk⟩
        by_cases hj' : j < st.length
        · rw [insL_cell hj ((insL_lo (Nat.le_refl _) hj').trans (List.getElem?_eq_getElem hj')), World.cell?_setCells_out g _ _ _ _ (fun _ _ => .inl (by show off + j < off + st.length; omega))]
          exact h4 j hj'
        · obtain rfl : j = st.length := by rw [insL_len (Nat.le_refl _)] at hj; omega
          rw [insL_cell hj (insL_at (Nat.le_refl _))]
          simpa using World.cell?_setCells_in g [.int .i64 a] (off + st.length) w (fun j hj => some_of_heap hg (by simp at hj; omega)) 0 (by simp)
      · exact (insert_end_grow st a base vb vc w hlen hbase hv (some ⟨g, off, none⟩) cap h1 (by omega) (fun hA => by cases hA) (fun A hA j u hu => by obtain rfl := Option.some.inj hA; rw [Addr.add_lit]; exact hcs j u hu)).mono fun e w' ⟨v', he, ht⟩ => ⟨v', he, ht _⟩
    · have hlt : i < st.length := by omega
      by_cases hroom : st.length + 1 ≤ cap
      · refine (Any2.slices_Insert_int_shift layInsert g off st.length cap i vb 0 1 vc (st.map (Value.int .i64)) [.int .i64 a] w hlt (by decide) hroom (by unfold maxLen at h3; omega) (fun e => hne (by rw [e]; rfl)) (by simp) rfl hcs (fun j hj => some_of_heap hg (by omega)) (fun j _ => unfrozen_of_heap hg _) hvs (one_cells st) h1v 3 3 1 cur.size (by simp [World.shape?, OneAt] at hv ⊢; rw [hv]; simp) (shape_of_heap hg) (by omega) (frozen_of_row w vb _ _ _ hv) (frozen_of_row w vb _ _ _ hv)).mono ?_
        rintro e w' ⟨he, rfl⟩
        obtain ⟨c1, e1, z1⟩ := heap_setCells ((st.map (Value.int .i64)).drop i) (off + (i + 1)) w.drew cur hg
        refine ⟨_, he, rowAt_put hb (by obtain ⟨c2, e2, z2⟩ := heap_setCells [.int .i64 a] (off + i) _ c1 e1; exact ⟨c2, e2, z2.trans z1⟩) (by rw [insL_len hi]; exact hroom) h2 h3 (fun j hj => ?_) (insL_len hi).symm, ((grown_drew w _).trans (grown_setCells _ _ _ _)).trans (grown_setCells _ _ _ _), fun k hk => .inl hk⟩
        have hin : ∀ t, t < ((st.map (Value.int .i64)).drop i).length → (w.drew.cell? ⟨g, off + (i + 1) + t, none⟩).isSome = true := fun t ht => some_of_heap (w := w) hg (by simp at ht; omega)
        by_cases hj1 : j < i
        · rw [insL_cell hj ((insL_lo hi hj1).trans (List.getElem?_eq_getElem (by omega))), World.cell?_setCells_out g _ _ _ _ (fun _ _ => .inl (by show off + j < off + i; omega)), World.cell?_setCells_out g _ _ _ _ (fun _ _ => .inl (by show off + j < off + (i + 1); omega))]
          exact h4 j (by omega)
        · by_cases hj2 : j = i
          · subst hj2
            rw [insL_cell hj (insL_at hi)]
            simpa using World.cell?_setCells_in g [.int .i64 a] (off + j) _ (fun t ht => by rw [cell_of_row _ _ _ _ _ _ e1, Array.getElem?_eq_getElem (by simp at ht; omega)]; rfl) 0 (by simp)
          · obtain ⟨t, rfl⟩ : ∃ t, j = i + t + 1 := ⟨j - i - 1, by omega⟩
            have hjl : i + t < st.length := by rw [insL_len hi] at hj; omega
            rw [insL_cell hj ((insL_hi hi (by omega)).trans (List.getElem?_eq_getElem hjl)), World.cell?_setCells_out g _ _ _ _ (fun _ _ => .inr (by show off + i + 1 ≤ off + (i + t + 1); omega))]
            have := World.cell?_setCells_in g ((st.map (Value.int .i64)).drop i) (off + (i + 1)) w.drew hin t (by simp; omega)
            rw [show off + (i + 1) + t = off + (i + t + 1) by omega] at this
            rw [this]
            simp
      · refine (Any2.slices_Insert_int_grow layInsert g off st.length cap i vb 0 1 vc (st.map (Value.int .i64)) [.int .i64 a] w hlt (by decide) h1 (by omega) (by omega) (by simp) rfl hcs hvs (one_cells st) h1v).mono ?_
        rintro e w' ⟨he, rfl⟩
        refine ⟨_, he, ?_⟩
        have hge := grownCap_ge w (st.length + 1) cap 3
        obtain ⟨c0, hc0⟩ : ∃ c0, c0 = (((st.map (Value.int .i64)).take i).toArray ++ Builtin.zeroCells (Value.int .i64 0).cells (st.length + 1 - i) ++ Builtin.zeroCells (Value.int .i64 0).cells (grownCap w (st.length + 1) cap 3 - (st.length + 1))) := ⟨_, rfl⟩
        have hsz : c0.size = grownCap w (st.length + 1) cap 3 := by
          rw [hc0, Array.size_append, Array.size_append, size_zero, size_zero]
          simp; omega
        have e0 : (w.alloc (.cells c0 3)).drew.heap[w.heap.size]? = some (.cells c0 3 (0, 0)) := heap_alloc_new w _
        have hlow : ∀ t (ht : t < st.length), t < i → (w.alloc (.cells c0 3)).drew.cell? ⟨w.heap.size, t, none⟩ = some (.int .i64 st[t]) := by
          intro t ht hti
          rw [cell_of_row _ _ _ _ _ _ e0, hc0, Array.append_assoc, Array.getElem?_append_left (by simp; omega)]
          simp [List.getElem?_take_of_lt hti, List.getElem?_eq_getElem ht]
        obtain ⟨c1, e1, z1⟩ := heap_setCells [.int .i64 a] i _ c0 e0
        have e1' : ((w.alloc (.cells c0 3)).drew.setCells w.heap.size i [.int .i64 a]).drew.heap[w.heap.size]? = some (.cells c1 3 (0, 0)) := e1
        obtain ⟨c2, e2, z2⟩ := heap_setCells ((st.map (Value.int .i64)).drop i) (i + 1) _ c1 e1'
        show Turned w base _ ((((w.alloc (.cells (((st.map (Value.int .i64)).take i).toArray ++ Builtin.zeroCells (Value.int .i64 0).cells (st.length + 1 - i) ++ Builtin.zeroCells (Value.int .i64 0).cells (grownCap w (st.length + 1) cap 3 - (st.length + 1))) 3)).drew.setCells w.heap.size i [.int .i64 a]).drew).setCells w.heap.size (i + 1) ((st.map (Value.int .i64)).drop i)) (.slice (some ⟨w.heap.size, 0, none⟩) (st.length + 1) (grownCap w (st.length + 1) cap 3)) _
        rw [← hc0]
        refine ⟨rowAt_put (cur := c0) hbase ⟨c2, e2, z2.trans z1⟩ (by rw [insL_len hi]; exact hge) (by omega) (grownCap_le_maxLen _ _ _ _ (by unfold maxLen; omega)) (fun j hj => ?_) (insL_len hi).symm, ?_, fun k hk => .inr ?_⟩
        · rw [Nat.zero_add]
          by_cases hj1 : j < i
          · rw [insL_cell hj ((insL_lo hi hj1).trans (List.getElem?_eq_getElem (by omega))), World.cell?_setCells_out w.heap.size _ _ _ _ (fun _ _ => .inl (by show j < i + 1; omega))]
            refine (World.cell?_setCells_out w.heap.size [.int .i64 a] i (w.alloc (.cells c0 3)).drew ⟨w.heap.size, j, none⟩ (fun _ _ => .inl (by show j < i; omega))).trans ?_
            exact hlow j (by omega) hj1
          · by_cases hj2 : j = i
            · subst hj2
              rw [insL_cell hj (insL_at hi), World.cell?_setCells_out w.heap.size _ _ _ _ (fun _ _ => .inl (by show j < j + 1; omega))]
              exact World.cell?_setCells_in w.heap.size [.int .i64 a] j (w.alloc (.cells c0 3)).drew (fun t ht => by rw [cell_of_row _ _ _ _ _ _ e0, Array.getElem?_eq_getElem (by simp at ht; omega)]; rfl) 0 (by simp)
            · obtain ⟨t, rfl⟩ : ∃ t, j = i + t + 1 := ⟨j - i - 1, by omega⟩
              have hjl : i + t < st.length := by rw [insL_len hi] at hj; omega
              rw [insL_cell hj ((insL_hi hi (by omega)).trans (List.getElem?_eq_getElem hjl))]
              have := World.cell?_setCells_in w.heap.size ((st.map (Value.int .i64)).drop i) (i + 1) _ (fun t ht => by rw [cell_of_row _ _ _ _ _ _ e1', Array.getElem?_eq_getElem (by simp at ht; omega)]; rfl) t (by simp; omega)
              rw [show i + 1 + t = i + t + 1 by omega] at this
              rw [this]
              simp
        · have G := ((((World.grownBy_alloc w (.cells c0 3) none).trans (grown_drew _ _)).but (some w.heap.size)).trans (grown_setCells w.heap.size [.int .i64 a] i _)).trans ((grown_drew _ _).trans (grown_setCells w.heap.size ((st.map (Value.int .i64)).drop i) (i + 1) _))
          exact ⟨G.os, G.tape, G.output, G.size, fun k hk _ => G.block k hk (by simp; omega)⟩
        · obtain rfl : w.heap.size = k := by simpa [Value.ownBlock] using hk
          exact Nat.le_refl _

/-- What a delete makes. -/
def delL (st : List Int) (i : Nat) : List Int := st.take i ++ st.drop (i + 1)

theorem delete_any (st : List Int) (i : Nat) (v : Value) (base : Nat) (w : World) (h : RowAt w base v st) (hi : i < st.length) :
    Calls Tryz.prog 185 #[v, .int .i64 i, .int .i64 ((i + 1 : Nat) : Int)] w fun e w' => ∃ v', e = .returned v' ∧ Turned w base v w' v' (delL st i) := by
  rcases h with ⟨rfl, rfl⟩ | ⟨g, off, cap, cur, rfl, hb, hg, h1, h2, h3, h4⟩
  · simp at hi
  · have hH : Holds (Value.int .i64) w g off st.toArray := fun j hj => by
      have hj' : j < st.length := by simpa using hj
      refine ⟨?_, unfrozen_of_heap hg _⟩
      rw [h4 j hj']
      simp [hj']
    refine (Any.slices_Delete_int layDelete g off cap i (i + 1) st w hH h1 (by unfold maxLen at h3; omega) (by omega) (by omega)).mono ?_
    rintro e w' ⟨he, q, rfl⟩
    have hd : (st.take i ++ st.drop (i + 1) ++ List.replicate (i + 1 - i) 0).toArray.size = st.toArray.size := by simp; omega
    have hgr : w.grownBy (putRow (Value.int .i64) (Sort.ahead w q) g off (st.take i ++ st.drop (i + 1) ++ List.replicate (i + 1 - i) 0).toArray) (some g) :=
      ⟨rfl, rfl, rfl, by simp [Sort.ahead], fun k _ hne => by
        have : g ≠ k := fun e => hne (by rw [e])
        simp [putRow, mapBlock, Sort.ahead, Array.getElem?_modify, this]⟩
    refine ⟨_, he, rowAt_put (cur := cur) hb ⟨putCells (Value.int .i64) off (st.take i ++ st.drop (i + 1) ++ List.replicate (i + 1 - i) 0).toArray cur, ?_, by simp [putCells]⟩ (by simp [delL]; omega) h2 h3 (fun j hj => ?_) (by simp [delL]; omega), hgr, fun k hk => .inl hk⟩
    · simp [putRow, mapBlock, Sort.ahead, Array.getElem?_modify, hg, onCells]
    · have hj' : j < st.length - 1 := by simp [delL] at hj; omega
      have := cell?_putRow (Value.int .i64) (Sort.ahead w q) g off st.toArray (st.take i ++ st.drop (i + 1) ++ List.replicate (i + 1 - i) 0).toArray hH hd j (by simp; omega)
      rw [this]
      congr 2
      rw [getElem!_pos _ j (by simp; omega)]
      simp only [List.getElem_toArray]
      exact List.getElem_append_left (by simp; omega)

end Go.Proofs.YtncnojgemmcplaaGreatDoor

namespace Go.Proofs.YtncnojgemmcplaaGreatDoor
open Go.RowKit

theorem place_le (st : List Int) (a : Int) : placeOf st a ≤ st.length := List.countP_le_length
theorem place_lt {st : List Int} {a : Int} (h : st.contains a = true) : placeOf st a < st.length := by
  unfold placeOf
  have hm : a ∈ st := by simpa using h
  rcases Nat.lt_or_ge (st.countP (· < a)) st.length with h | h
  · exact h
  · have := List.countP_eq_length.1 (Nat.le_antisymm List.countP_le_length h) a hm
    simp at this

theorem oneAt_new (w : World) (a : Int) {n : Nat} (h : n = w.heap.size) : OneAt (w.alloc (.cells #[.int .i64 a] 3)) n a := by subst h; exact heap_alloc_new _ _
theorem setM_put {st : List Int} {k a : Int} (hk : k = 6) (h : st.contains a = false) : setM st k a = (insL st (placeOf st a) a, 1) := by
  simp only [setM, hk, h, insL]; simp
theorem setM_drop {st : List Int} {k a : Int} (hk : k = 7) (h : st.contains a = true) : setM st k a = (delL st (placeOf st a), 1) := by
  simp only [setM, hk, h, delL]; simp
theorem setM_has {st : List Int} {k a : Int} (hk : k = 8) (h : st.contains a = true) : setM st k a = (st, 1) := by
  simp only [setM, hk, h]; simp
theorem setM_rest {st : List Int} {k a : Int} (h6 : k = 6 → st.contains a = true) (h7 : k = 7 → st.contains a = false) (h8 : k = 8 → st.contains a = false) : setM st k a = (st, 0) := by
  unfold setM
  rw [if_neg (fun h => by rw [h6 h.1] at h; simp at h), if_neg (fun h => by rw [h7 h.1] at h; simp at h), if_neg (fun h => by rw [h8 h.1] at h; simp at h)]

set_option maxRecDepth 100000 in
set_option maxHeartbeats 2000000 in
theorem callSet_any (st : List Int) (op : Opn) (v : Value) (base : Nat) (w : World) (h : RowAt w base v st) (hs : st.Pairwise (· ≤ ·)) (hlen : st.length ≤ 100000) (hbase : base ≤ w.heap.size) :
    Calls Tryz.prog 175 #[v, op.agg] w fun e w' => ∃ v', e = .returned (.tuple #[v', .int .i64 (setM st op.d op.a).2]) ∧ Turned w base v w' v' (setM st op.d op.a).1 := by
  have hgr := World.grownBy_alloc w op.obj none
  have HR := hideIt (h.new hgr)
  have HG := hideIt hgr
  have HV := hideIt h.lt
  unfold Opn.obj at HR HG
  unfold Opn.agg
  have hpl := place_le st op.a
  have HP := hideIt (@place_lt st op.a)
  obtain ⟨c, hc⟩ : ∃ c, st.contains op.a = c := ⟨_, rfl⟩
  obtain ⟨pl, hpq⟩ : ∃ pl, placeOf st op.a = pl := ⟨_, rfl⟩
  have HS := hideIt (search_any st op.a v base _ HR.out hs hlen)
  rw [hc, hpq] at HS HP
  rw [hpq] at hpl
  have HC := hideIt hc
  clear hc
  clear h hgr
  cases h6 : (op.d == 6)
  · have n6 : op.d ≠ 6 := by simpa using h6
    cases h7 : (op.d == 7)
    · have n7 : op.d ≠ 7 := by simpa using h7
      cases h8 : (op.d == 8)
      · have n8 : op.d ≠ 8 := by simpa using h8
        rw [setM_rest (fun e => absurd e n6) (fun e => absurd e n7) (fun e => absurd e n8)]
        clear n6 n7 n8
        go_enter Tryz.func175, Tryz.ntmps175
        go_wp2_with (go_at_call 183; refine HS.out.mono ?_; rintro e w1 ⟨rfl, q, rfl⟩)
        go_ret2
        exact ⟨_, rfl, (turned_same (HR.out.new (grown_drewN _ q _))).behind (HG.out.trans (grown_drewN _ _ _))⟩
      · have n8 : op.d = 8 := by simpa using h8
        cases c
        · rw [setM_rest (fun e => absurd e n6) (fun e => absurd e n7) (fun _ => HC.out)]
          clear n6 n7 n8
          go_enter Tryz.func175, Tryz.ntmps175
          go_wp2_with (go_at_call 183; refine HS.out.mono ?_; rintro e w1 ⟨rfl, q, rfl⟩)
          go_ret2
          exact ⟨_, rfl, (turned_same (HR.out.new (grown_drewN _ q _))).behind (HG.out.trans (grown_drewN _ _ _))⟩
        · rw [setM_has n8 HC.out]
          clear n6 n7 n8
          go_enter Tryz.func175, Tryz.ntmps175
          go_wp2_with (go_at_call 183; refine HS.out.mono ?_; rintro e w1 ⟨rfl, q, rfl⟩)
          go_ret2
          exact ⟨_, rfl, (turned_same (HR.out.new (grown_drewN _ q _))).behind (HG.out.trans (grown_drewN _ _ _))⟩
    · have n7 : op.d = 7 := by simpa using h7
      have h8 : (op.d == 8) = false := by rw [n7]; rfl
      cases c
      · rw [setM_rest (fun e => absurd e n6) (fun _ => HC.out) (fun e => absurd (n7.symm.trans e) (by decide))]
        clear n6 n7
        go_enter Tryz.func175, Tryz.ntmps175
        go_wp2_with (go_at_call 183; refine HS.out.mono ?_; rintro e w1 ⟨rfl, q, rfl⟩)
        go_ret2
        exact ⟨_, rfl, (turned_same (HR.out.new (grown_drewN _ q _))).behind (HG.out.trans (grown_drewN _ _ _))⟩
      · rw [setM_drop n7 HC.out, hpq]
        have hpos := HP.out rfl
        have hwr : IntKind.i64.wrap ((pl : Int) + 1) = ((pl + 1 : Nat) : Int) := by rw [IntKind.wrap_i64]; omega
        clear n6 n7
        go_enter Tryz.func175, Tryz.ntmps175
        go_wp2_with (first | (go_at_call 183; refine HS.out.mono ?_; rintro e w1 ⟨rfl, q, rfl⟩) | (go_at_call 185; refine (delete_any st pl v base _ (HR.out.new (grown_drewN _ q _)) hpos).mono ?_; rintro e w2 ⟨v', rfl, ht⟩))
        go_ret2
        exact ⟨_, rfl, ht.behind (HG.out.trans (grown_drewN _ _ _))⟩
  · have n6 : op.d = 6 := by simpa using h6
    have h7 : (op.d == 7) = false := by rw [n6]; rfl
    have h8 : (op.d == 8) = false := by rw [n6]; rfl
    cases c
    · rw [setM_put n6 HC.out, hpq]
      clear n6
      go_enter Tryz.func175, Tryz.ntmps175
      go_wp2_with (first | (go_at_call 183; refine HS.out.mono ?_; rintro e w1 ⟨rfl, q, rfl⟩) | (go_at_call 184; refine (insert_any st pl op.a v base _ _ _ ((HR.out.new (grown_drewN _ q _)).new (World.grownBy_alloc _ _ none)) hpl hlen ?c1 ?c2 ?c3).mono ?_))
      case c1 => simp [World.drewN]; omega
      case c2 => exact oneAt_new _ _ (by simp [World.drewN])
      case c3 =>
        intro e
        have := (HV.out _ e).2
        omega
      rintro e w2 ⟨v', rfl, ht⟩
      have HT := hideIt (ht.behind ((HG.out.trans (grown_drewN _ _ _)).trans (World.grownBy_alloc _ _ none)))
      clear ht
      go_wp2
      go_ret2
      exact ⟨_, rfl, HT.out⟩
    · rw [setM_rest (fun _ => HC.out) (fun e => absurd (n6.symm.trans e) (by decide)) (fun e => absurd (n6.symm.trans e) (by decide))]
      clear n6
      go_enter Tryz.func175, Tryz.ntmps175
      go_wp2_with (go_at_call 183; refine HS.out.mono ?_; rintro e w1 ⟨rfl, q, rfl⟩)
      go_ret2
      exact ⟨_, rfl, (turned_same (HR.out.new (grown_drewN _ q _))).behind (HG.out.trans (grown_drewN _ _ _))⟩

end Go.Proofs.YtncnojgemmcplaaGreatDoor

namespace Go.Proofs.YtncnojgemmcplaaGreatDoor
open Go.RowKit

/-- The eight cells of an op. -/
theorem OpAt.kept {w w' : World} {b off : Nat} {x : Opn} {row : Option Nat} (h : OpAt w b off x) (hg : w.grownBy w' row) (hne : some b ≠ row) : OpAt w' b off x := by
  obtain ⟨h0, h1, h2, h3, h4, h5, h6, h7⟩ := h
  exact ⟨hg.cell h0 hne, hg.cell h1 hne, hg.cell h2 hne, hg.cell h3 hne, hg.cell h4 hne, hg.cell h5 hne, hg.cell h6 hne, hg.cell h7 hne⟩
/-- What a new block of an op holds. -/
theorem opAt_obj (w : World) (x : Opn) : OpAt (w.alloc x.obj) w.heap.size 0 x := by
  unfold Opn.obj
  exact ⟨by simp, by simp, by simp, by simp, by simp, by simp, by simp, by simp⟩


/-- What function call tells. -/
def CallTold (w : World) (base : Nat) (v : Value) (r : Option (List Int × Int)) (e : Ending) (w' : World) : Prop :=
  match r with
  | none => e = .returned (.tuple #[.slice none 0 0, .int .i64 0, .bool false]) ∧ w.grownBy w' v.ownBlock
  | some (st', n) => ∃ v', e = .returned (.tuple #[v', .int .i64 n, .bool true]) ∧ Turned w base v w' v' st'

theorem stepM_unknown {o k a b : Int} {st : List Int} (h : knowsB o k = false) : stepM o st k a b = none := by simp [stepM, h]
theorem stepM_len {o k a b : Int} {st : List Int} (h : oneB o = true) (hl : st.length ≠ 1) : stepM o st k a b = none := by simp [stepM, h, hl]

theorem knows_object {o k : Int} (h : knowsB o k = true) : o = 1 ∨ o = 2 ∨ o = 3 ∨ o = 4 ∨ o = 5 ∨ o = 6 := by
  unfold knowsB at h
  simp at h
  omega

set_option maxRecDepth 100000 in
set_option maxHeartbeats 1000000 in
theorem call_unknown (o : Int) (st : List Int) (op : Opn) (v : Value) (base : Nat) (w : World) (hK : KnownAt w) (hpos : 0 < w.heap.size) (h : knowsB o op.d = false) :
    Calls Tryz.prog 167 #[.int .i64 o, v, op.agg] w fun e w' => CallTold w base v (stepM o st op.d op.a op.b) e w' := by
  rw [stepM_unknown h]
  have hgr := World.grownBy_alloc w op.obj none
  have HK := hideIt (hK.below (Nat.lt_of_lt_of_le hpos (Nat.le_refl _)) (below_grown hgr))
  have HG := hideIt hgr
  unfold Opn.obj at HK HG
  unfold Opn.agg
  have HS := hideIt (knows_any o op.d _ HK.out)
  rw [h] at HS
  clear hgr hK h
  go_enter Tryz.func167, Tryz.ntmps167
  go_wp2_with (go_at_call 114; refine HS.out.mono ?_; rintro e w1 ⟨rfl, rfl⟩)
  go_ret3
  exact ⟨rfl, HG.out.but _⟩

set_option maxRecDepth 100000 in
set_option maxHeartbeats 1000000 in
theorem call_len (o : Int) (st : List Int) (op : Opn) (a : Option Addr) (cap : Nat) (base : Nat) (w : World) (hK : KnownAt w) (hpos : 0 < w.heap.size) (h : knowsB o op.d = true) (h1 : oneB o = true) (hl : st.length ≠ 1) :
    Calls Tryz.prog 167 #[.int .i64 o, .slice a st.length cap, op.agg] w fun e w' => CallTold w base (.slice a st.length cap) (stepM o st op.d op.a op.b) e w' := by
  rw [stepM_len h1 hl]
  have hgr := World.grownBy_alloc w op.obj none
  have HK := hideIt (hK.below (Nat.lt_of_lt_of_le hpos (Nat.le_refl _)) (below_grown hgr))
  have HG := hideIt hgr
  unfold Opn.obj at HK HG
  unfold Opn.agg
  have HS := hideIt (knows_any o op.d _ HK.out)
  have HO := hideIt (one_any o)
  rw [h] at HS
  rw [h1] at HO
  have hn : ((st.length : Int) != 1) = true := by simp; omega
  clear hgr hK h h1 hl
  go_enter Tryz.func167, Tryz.ntmps167
  go_wp2_with (first | (go_at_call 114; refine HS.out.mono ?_; rintro e w1 ⟨rfl, rfl⟩) | (go_at_call 137; refine (HO.out _).mono ?_; rintro e w1 ⟨rfl, rfl⟩))
  go_ret3
  exact ⟨rfl, HG.out.but _⟩

theorem stepM_reg {k a b x : Int} (h : knowsB 1 k = true) : stepM 1 [x] k a b = some ([(regM x k a b).1], (regM x k a b).2) := by simp [stepM, h]
theorem stepM_cnt {k a b x : Int} (h : knowsB 2 k = true) : stepM 2 [x] k a b = some ([(cntM x k a).1], (cntM x k a).2) := by simp [stepM, h]
theorem stepM_mut {k a b x : Int} (h : knowsB 6 k = true) : stepM 6 [x] k a b = (mutM x k).map fun y => ([y], 0) := by simp [stepM, h]
theorem stepM_set {k a b : Int} {st : List Int} (h : knowsB 3 k = true) : stepM 3 st k a b = some (setM st k a) := by simp [stepM, h, oneB]
theorem stepM_que {k a b : Int} {st : List Int} (h : knowsB 4 k = true) : stepM 4 st k a b = some (queM st k a) := by simp [stepM, h, oneB]
theorem stepM_sta {k a b : Int} {st : List Int} (h : knowsB 5 k = true) : stepM 5 st k a b = some (staM st k a) := by simp [stepM, h, oneB]

theorem turned_write {w w1 : World} {base g off cap : Nat} {x y : Int} (h : RowAt w base (.slice (some ⟨g, off, none⟩) 1 cap) [x]) (hg : w.grownBy w1 none) {w' : World} (hw : y = x ∧ w' = w1 ∨ w' = w1.setCell ⟨g, off, none⟩ (.int .i64 y)) :
    Turned w base (.slice (some ⟨g, off, none⟩) 1 cap) w' (.slice (some ⟨g, off, none⟩) 1 cap) [y] := by
  rcases hw with ⟨rfl, rfl⟩ | rfl
  · exact (turned_same (h.new hg)).behind hg
  · exact ⟨(h.new hg).write y, (hg.but _).trans (grown_setCell _ _ _), fun k hk => .inl hk⟩

theorem turned_grown {w w1 w' : World} {g off : Nat} {y : Int} (hg : w.grownBy w1 none) (hw : w' = w1 ∨ w' = w1.setCell ⟨g, off, none⟩ (.int .i64 y)) : w.grownBy w' (some g) := by
  rcases hw with rfl | rfl
  · exact hg.but _
  · exact (hg.but _).trans (grown_setCell _ _ _)

set_option maxRecDepth 100000 in
set_option maxHeartbeats 1000000 in
theorem call_reg (x : Int) (op : Opn) (g off cap : Nat) (base : Nat) (w : World) (hK : KnownAt w) (hpos : 0 < w.heap.size) (h : knowsB 1 op.d = true) (hr : RowAt w base (.slice (some ⟨g, off, none⟩) 1 cap) [x]) :
    Calls Tryz.prog 167 #[.int .i64 1, .slice (some ⟨g, off, none⟩) 1 cap, op.agg] w fun e w' => CallTold w base (.slice (some ⟨g, off, none⟩) 1 cap) (stepM 1 [x] op.d op.a op.b) e w' := by
  rw [stepM_reg h]
  have hgr := World.grownBy_alloc w op.obj none
  have HK := hideIt (hK.below (Nat.lt_of_lt_of_le hpos (Nat.le_refl _)) (below_grown hgr))
  have HG := hideIt (hgr.trans (grown_drew _ _))
  have HR := hideIt hr
  have hn := hr.num
  have HP := hideIt (show some w.heap.size ≠ some g from fun e => by have := hn.lt; simp at e; omega)
  have HD := hideIt (opAt_obj w op)
  obtain ⟨d0, d1, d2, d3, d4, d5, d6, d7⟩ := opAt_obj w op
  have HC := hideIt (callRegister_any x op g off (w.alloc op.obj).drew ⟨(hn.alloc op.obj).cell, (hn.alloc op.obj).fz, (hn.alloc op.obj).lt⟩)
  unfold Opn.obj at HK HG HC HD d0 d1 d2 d3 d4 d5 d6 d7
  unfold Opn.agg at HC
  have HS := hideIt (knows_any 1 op.d _ HK.out)
  have HO := hideIt (one_any 1)
  rw [h] at HS
  rw [show oneB 1 = true from rfl] at HO
  unfold Opn.agg
  clear hgr hK h hr hn
  go_enter Tryz.func167, Tryz.ntmps167
  go_wp2_with (first | (go_at_call 114; refine HS.out.mono ?_; rintro e w1 ⟨rfl, rfl⟩) | (go_at_call 137; refine (HO.out _).mono ?_; rintro e w1 ⟨rfl, rfl⟩) | fail)
  go_region_held3 (fun w' => w'.cell? ⟨w.heap.size, 0, none⟩ = some (.int .i64 op.p) ∧ w'.cell? ⟨w.heap.size, 1, none⟩ = some (.int .i64 op.k) ∧ w'.cell? ⟨w.heap.size, 2, none⟩ = some (.int .i64 op.d) ∧ w'.cell? ⟨w.heap.size, 3, none⟩ = some (.int .i64 op.a) ∧ w'.cell? ⟨w.heap.size, 4, none⟩ = some (.int .i64 op.b) ∧ w'.cell? ⟨w.heap.size, 5, none⟩ = some (.int .i64 op.r) ∧ w'.cell? ⟨w.heap.size, 6, none⟩ = some (.int .i64 op.c) ∧ w'.cell? ⟨w.heap.size, 7, none⟩ = some (.int .i64 op.e)) (go_keep)
    (first | (go_at_call 173; refine HC.out.mono ?_; rintro e w2 ⟨rfl, w1, hg1, hw2⟩; have HW := hideIt hg1; have HX := hideIt hw2; obtain ⟨p0, p1, p2, p3, p4, p5, p6, p7⟩ := (HD.out.kept (row := some g) ((grown_drew _ _).trans (turned_grown hg1 (hw2.imp And.right id))) HP.out); clear hg1 hw2))
  go_wp2
  go_ret3
  exact ⟨_, rfl, (turned_write (HR.out.new HG.out) HW.out HX.out).behind HG.out⟩

set_option maxRecDepth 100000 in
set_option maxHeartbeats 1000000 in
theorem call_cnt (x : Int) (op : Opn) (g off cap : Nat) (base : Nat) (w : World) (hK : KnownAt w) (hpos : 0 < w.heap.size) (h : knowsB 2 op.d = true) (hr : RowAt w base (.slice (some ⟨g, off, none⟩) 1 cap) [x]) :
    Calls Tryz.prog 167 #[.int .i64 2, .slice (some ⟨g, off, none⟩) 1 cap, op.agg] w fun e w' => CallTold w base (.slice (some ⟨g, off, none⟩) 1 cap) (stepM 2 [x] op.d op.a op.b) e w' := by
  rw [stepM_cnt h]
  have hgr := World.grownBy_alloc w op.obj none
  have HK := hideIt (hK.below (Nat.lt_of_lt_of_le hpos (Nat.le_refl _)) (below_grown hgr))
  have HG := hideIt (hgr.trans (grown_drew _ _))
  have HR := hideIt hr
  have hn := hr.num
  have HP := hideIt (show some w.heap.size ≠ some g from fun e => by have := hn.lt; simp at e; omega)
  have HD := hideIt (opAt_obj w op)
  obtain ⟨d0, d1, d2, d3, d4, d5, d6, d7⟩ := opAt_obj w op
  have HC := hideIt (callCounter_any x op g off (w.alloc op.obj).drew ⟨(hn.alloc op.obj).cell, (hn.alloc op.obj).fz, (hn.alloc op.obj).lt⟩)
  unfold Opn.obj at HK HG HC HD d0 d1 d2 d3 d4 d5 d6 d7
  unfold Opn.agg at HC
  have HS := hideIt (knows_any 2 op.d _ HK.out)
  have HO := hideIt (one_any 2)
  rw [h] at HS
  rw [show oneB 2 = true from rfl] at HO
  unfold Opn.agg
  clear hgr hK h hr hn
  go_enter Tryz.func167, Tryz.ntmps167
  go_wp2_with (first | (go_at_call 114; refine HS.out.mono ?_; rintro e w1 ⟨rfl, rfl⟩) | (go_at_call 137; refine (HO.out _).mono ?_; rintro e w1 ⟨rfl, rfl⟩) | fail)
  go_region_held3 (fun w' => w'.cell? ⟨w.heap.size, 0, none⟩ = some (.int .i64 op.p) ∧ w'.cell? ⟨w.heap.size, 1, none⟩ = some (.int .i64 op.k) ∧ w'.cell? ⟨w.heap.size, 2, none⟩ = some (.int .i64 op.d) ∧ w'.cell? ⟨w.heap.size, 3, none⟩ = some (.int .i64 op.a) ∧ w'.cell? ⟨w.heap.size, 4, none⟩ = some (.int .i64 op.b) ∧ w'.cell? ⟨w.heap.size, 5, none⟩ = some (.int .i64 op.r) ∧ w'.cell? ⟨w.heap.size, 6, none⟩ = some (.int .i64 op.c) ∧ w'.cell? ⟨w.heap.size, 7, none⟩ = some (.int .i64 op.e)) (go_keep)
    (first | (go_at_call 174; refine HC.out.mono ?_; rintro e w2 ⟨rfl, w1, hg1, hw2⟩; have HW := hideIt hg1; have HX := hideIt hw2; obtain ⟨p0, p1, p2, p3, p4, p5, p6, p7⟩ := (HD.out.kept (row := some g) ((grown_drew _ _).trans (turned_grown hg1 (hw2.imp And.right id))) HP.out); clear hg1 hw2))
  go_wp2
  go_ret3
  exact ⟨_, rfl, (turned_write (HR.out.new HG.out) HW.out HX.out).behind HG.out⟩

set_option maxRecDepth 100000 in
set_option maxHeartbeats 1000000 in
theorem call_mut (x : Int) (op : Opn) (g off cap : Nat) (base : Nat) (w : World) (hK : KnownAt w) (hpos : 0 < w.heap.size) (h : knowsB 6 op.d = true) (hr : RowAt w base (.slice (some ⟨g, off, none⟩) 1 cap) [x]) :
    Calls Tryz.prog 167 #[.int .i64 6, .slice (some ⟨g, off, none⟩) 1 cap, op.agg] w fun e w' => CallTold w base (.slice (some ⟨g, off, none⟩) 1 cap) (stepM 6 [x] op.d op.a op.b) e w' := by
  rw [stepM_mut h]
  have hgr := World.grownBy_alloc w op.obj none
  have HK := hideIt (hK.below (Nat.lt_of_lt_of_le hpos (Nat.le_refl _)) (below_grown hgr))
  have HG := hideIt (hgr.trans (grown_drew _ _))
  have HR := hideIt hr
  have hn := hr.num
  have HP := hideIt (show some w.heap.size ≠ some g from fun e => by have := hn.lt; simp at e; omega)
  have HD := hideIt (opAt_obj w op)
  obtain ⟨d0, d1, d2, d3, d4, d5, d6, d7⟩ := opAt_obj w op
  have HC := hideIt (callMutex_any x op g off (w.alloc op.obj).drew ⟨(hn.alloc op.obj).cell, (hn.alloc op.obj).fz, (hn.alloc op.obj).lt⟩)
  unfold Opn.obj at HK HG HC HD d0 d1 d2 d3 d4 d5 d6 d7
  unfold Opn.agg at HC
  have HS := hideIt (knows_any 6 op.d _ HK.out)
  have HO := hideIt (one_any 6)
  rw [h] at HS
  rw [show oneB 6 = true from rfl] at HO
  unfold Opn.agg
  clear hgr hK h hr hn
  obtain ⟨m, hm⟩ : ∃ m, mutM x op.d = m := ⟨_, rfl⟩
  rw [hm] at HC ⊢
  clear hm
  cases m with
  | none =>
    go_enter Tryz.func167, Tryz.ntmps167
    go_wp2_with (first | (go_at_call 114; refine HS.out.mono ?_; rintro e w1 ⟨rfl, rfl⟩) | (go_at_call 137; refine (HO.out _).mono ?_; rintro e w1 ⟨rfl, rfl⟩) | fail)
    go_region_held3 (fun w' => w'.cell? ⟨w.heap.size, 0, none⟩ = some (.int .i64 op.p) ∧ w'.cell? ⟨w.heap.size, 1, none⟩ = some (.int .i64 op.k) ∧ w'.cell? ⟨w.heap.size, 2, none⟩ = some (.int .i64 op.d) ∧ w'.cell? ⟨w.heap.size, 3, none⟩ = some (.int .i64 op.a) ∧ w'.cell? ⟨w.heap.size, 4, none⟩ = some (.int .i64 op.b) ∧ w'.cell? ⟨w.heap.size, 5, none⟩ = some (.int .i64 op.r) ∧ w'.cell? ⟨w.heap.size, 6, none⟩ = some (.int .i64 op.c) ∧ w'.cell? ⟨w.heap.size, 7, none⟩ = some (.int .i64 op.e)) (go_keep)
      (first | (go_at_call 178; refine HC.out.mono ?_; rintro e w2 ⟨rfl, w1, hg1, hw2⟩; have HW := hideIt hg1; have HX := hideIt hw2; obtain ⟨p0, p1, p2, p3, p4, p5, p6, p7⟩ := (HD.out.kept (row := some g) ((grown_drew _ _).trans (turned_grown (off := 0) (y := 0) hg1 (hw2.elim (fun h => .inl h.2) (fun h => by obtain ⟨y, e, _⟩ := h; cases e)))) HP.out); clear hg1 hw2))
    go_wp2
    go_ret3
    exact ⟨rfl, (HG.out.but _).trans (turned_grown (off := 0) (y := 0) HW.out (HX.out.elim (fun h => .inl h.2) (fun h => by obtain ⟨y, e, _⟩ := h; cases e)))⟩
  | some y =>
    go_enter Tryz.func167, Tryz.ntmps167
    go_wp2_with (first | (go_at_call 114; refine HS.out.mono ?_; rintro e w1 ⟨rfl, rfl⟩) | (go_at_call 137; refine (HO.out _).mono ?_; rintro e w1 ⟨rfl, rfl⟩) | fail)
    go_region_held3 (fun w' => w'.cell? ⟨w.heap.size, 0, none⟩ = some (.int .i64 op.p) ∧ w'.cell? ⟨w.heap.size, 1, none⟩ = some (.int .i64 op.k) ∧ w'.cell? ⟨w.heap.size, 2, none⟩ = some (.int .i64 op.d) ∧ w'.cell? ⟨w.heap.size, 3, none⟩ = some (.int .i64 op.a) ∧ w'.cell? ⟨w.heap.size, 4, none⟩ = some (.int .i64 op.b) ∧ w'.cell? ⟨w.heap.size, 5, none⟩ = some (.int .i64 op.r) ∧ w'.cell? ⟨w.heap.size, 6, none⟩ = some (.int .i64 op.c) ∧ w'.cell? ⟨w.heap.size, 7, none⟩ = some (.int .i64 op.e)) (go_keep)
      (first | (go_at_call 178; refine HC.out.mono ?_; rintro e w2 ⟨rfl, w1, hg1, hw2⟩; have HW := hideIt hg1; have HX := hideIt hw2; obtain ⟨p0, p1, p2, p3, p4, p5, p6, p7⟩ := (HD.out.kept (row := some g) ((grown_drew _ _).trans (turned_grown (y := y) hg1 (hw2.elim (fun h => by cases h.1) (fun h => by obtain ⟨z, e, hz⟩ := h; obtain rfl := Option.some.inj e; exact .inr hz)))) HP.out); clear hg1 hw2))
    go_wp2
    go_ret3
    exact ⟨_, rfl, (turned_write (HR.out.new HG.out) HW.out (HX.out.elim (fun h => by cases h.1) (fun h => by obtain ⟨z, e, hz⟩ := h; obtain rfl := Option.some.inj e; exact .inr hz))).behind HG.out⟩

set_option maxRecDepth 100000 in
set_option maxHeartbeats 1000000 in
theorem call_set (st : List Int) (op : Opn) (v : Value) (base : Nat) (w : World) (hK : KnownAt w) (hpos : 0 < w.heap.size) (h : knowsB 3 op.d = true)
    (hc : ∀ W, RowAt W base v st → base ≤ W.heap.size → Calls Tryz.prog 175 #[v, op.agg] W fun e w' => ∃ v', e = .returned (.tuple #[v', .int .i64 (setM st op.d op.a).2]) ∧ Turned W base v w' v' (setM st op.d op.a).1)
    (hr : RowAt w base v st) (hbase : base ≤ w.heap.size) :
    Calls Tryz.prog 167 #[.int .i64 3, v, op.agg] w fun e w' => CallTold w base v (stepM 3 st op.d op.a op.b) e w' := by
  rw [stepM_set h]
  have hgr := World.grownBy_alloc w op.obj none
  have HK := hideIt (hK.below (Nat.lt_of_lt_of_le hpos (Nat.le_refl _)) (below_grown hgr))
  have HG := hideIt hgr
  have HC := hideIt (hc _ (hr.new hgr) (Nat.le_trans hbase hgr.size))
  unfold Opn.obj at HK HG HC
  unfold Opn.agg at HC
  have HS := hideIt (knows_any 3 op.d _ HK.out)
  have HO := hideIt (one_any 3)
  rw [h] at HS
  rw [show oneB 3 = false from rfl] at HO
  unfold Opn.agg
  clear hgr hK h hr hc
  go_enter Tryz.func167, Tryz.ntmps167
  go_wp2_with (first | (go_at_call 114; refine HS.out.mono ?_; rintro e w1 ⟨rfl, rfl⟩) | (go_at_call 137; refine (HO.out _).mono ?_; rintro e w1 ⟨rfl, rfl⟩) | (go_at_call 175; refine HC.out.mono ?_; rintro e w1 ⟨v', rfl, ht⟩; have HT := hideIt ht; clear ht))
  go_ret3
  exact ⟨_, rfl, HT.out.behind HG.out⟩

set_option maxRecDepth 100000 in
set_option maxHeartbeats 1000000 in
theorem call_que (st : List Int) (op : Opn) (v : Value) (base : Nat) (w : World) (hK : KnownAt w) (hpos : 0 < w.heap.size) (h : knowsB 4 op.d = true)
    (hc : ∀ W, RowAt W base v st → base ≤ W.heap.size → Calls Tryz.prog 176 #[v, op.agg] W fun e w' => ∃ v', e = .returned (.tuple #[v', .int .i64 (queM st op.d op.a).2]) ∧ Turned W base v w' v' (queM st op.d op.a).1)
    (hr : RowAt w base v st) (hbase : base ≤ w.heap.size) :
    Calls Tryz.prog 167 #[.int .i64 4, v, op.agg] w fun e w' => CallTold w base v (stepM 4 st op.d op.a op.b) e w' := by
  rw [stepM_que h]
  have hgr := World.grownBy_alloc w op.obj none
  have HK := hideIt (hK.below (Nat.lt_of_lt_of_le hpos (Nat.le_refl _)) (below_grown hgr))
  have HG := hideIt hgr
  have HC := hideIt (hc _ (hr.new hgr) (Nat.le_trans hbase hgr.size))
  unfold Opn.obj at HK HG HC
  unfold Opn.agg at HC
  have HS := hideIt (knows_any 4 op.d _ HK.out)
  have HO := hideIt (one_any 4)
  rw [h] at HS
  rw [show oneB 4 = false from rfl] at HO
  unfold Opn.agg
  clear hgr hK h hr hc
  go_enter Tryz.func167, Tryz.ntmps167
  go_wp2_with (first | (go_at_call 114; refine HS.out.mono ?_; rintro e w1 ⟨rfl, rfl⟩) | (go_at_call 137; refine (HO.out _).mono ?_; rintro e w1 ⟨rfl, rfl⟩) | (go_at_call 176; refine HC.out.mono ?_; rintro e w1 ⟨v', rfl, ht⟩; have HT := hideIt ht; clear ht))
  go_ret3
  exact ⟨_, rfl, HT.out.behind HG.out⟩

set_option maxRecDepth 100000 in
set_option maxHeartbeats 1000000 in
theorem call_sta (st : List Int) (op : Opn) (v : Value) (base : Nat) (w : World) (hK : KnownAt w) (hpos : 0 < w.heap.size) (h : knowsB 5 op.d = true)
    (hc : ∀ W, RowAt W base v st → base ≤ W.heap.size → Calls Tryz.prog 177 #[v, op.agg] W fun e w' => ∃ v', e = .returned (.tuple #[v', .int .i64 (staM st op.d op.a).2]) ∧ Turned W base v w' v' (staM st op.d op.a).1)
    (hr : RowAt w base v st) (hbase : base ≤ w.heap.size) :
    Calls Tryz.prog 167 #[.int .i64 5, v, op.agg] w fun e w' => CallTold w base v (stepM 5 st op.d op.a op.b) e w' := by
  rw [stepM_sta h]
  have hgr := World.grownBy_alloc w op.obj none
  have HK := hideIt (hK.below (Nat.lt_of_lt_of_le hpos (Nat.le_refl _)) (below_grown hgr))
  have HG := hideIt hgr
  have HC := hideIt (hc _ (hr.new hgr) (Nat.le_trans hbase hgr.size))
  unfold Opn.obj at HK HG HC
  unfold Opn.agg at HC
  have HS := hideIt (knows_any 5 op.d _ HK.out)
  have HO := hideIt (one_any 5)
  rw [h] at HS
  rw [show oneB 5 = false from rfl] at HO
  unfold Opn.agg
  clear hgr hK h hr hc
  go_enter Tryz.func167, Tryz.ntmps167
  go_wp2_with (first | (go_at_call 114; refine HS.out.mono ?_; rintro e w1 ⟨rfl, rfl⟩) | (go_at_call 137; refine (HO.out _).mono ?_; rintro e w1 ⟨rfl, rfl⟩) | (go_at_call 177; refine HC.out.mono ?_; rintro e w1 ⟨v', rfl, ht⟩; have HT := hideIt ht; clear ht))
  go_ret3
  exact ⟨_, rfl, HT.out.behind HG.out⟩

theorem call_any (o : Int) (st : List Int) (op : Opn) (v : Value) (base : Nat) (w : World) (hK : KnownAt w) (hr : RowAt w base v st) (hrise : o = 3 → st.Pairwise (· ≤ ·)) (hlen : st.length ≤ 100000) (hbase : base ≤ w.heap.size) (hpos : 0 < w.heap.size) :
    Calls Tryz.prog 167 #[.int .i64 o, v, op.agg] w fun e w' => CallTold w base v (stepM o st op.d op.a op.b) e w' := by
  cases hk : knowsB o op.d
  · exact call_unknown o st op v base w hK hpos hk
  · by_cases h1 : oneB o = true ∧ st.length ≠ 1
    · obtain ⟨a, cap, rfl, _⟩ := hr.has
      exact call_len o st op a cap base w hK hpos hk h1.1 h1.2
    · have hone : oneB o = true → ∃ x, st = [x] := fun e => by
        have : st.length = 1 := by
          by_cases h : st.length = 1
          · exact h
          · exact absurd ⟨e, h⟩ h1
        exact List.length_eq_one_iff.1 this
      rcases knows_object hk with rfl | rfl | rfl | rfl | rfl | rfl
      · obtain ⟨x, rfl⟩ := hone rfl
        rcases hr with ⟨_, h⟩ | ⟨g, off, cap, cur, rfl, h⟩
        · cases h
        · exact call_reg x op g off cap base w hK hpos hk (.inr ⟨g, off, cap, cur, rfl, h⟩)
      · obtain ⟨x, rfl⟩ := hone rfl
        rcases hr with ⟨_, h⟩ | ⟨g, off, cap, cur, rfl, h⟩
        · cases h
        · exact call_cnt x op g off cap base w hK hpos hk (.inr ⟨g, off, cap, cur, rfl, h⟩)
      · exact call_set st op v base w hK hpos hk (fun W h hb => callSet_any st op v base W h (hrise rfl) hlen hb) hr hbase
      · refine call_que st op v base w hK hpos hk (fun W h hb => ?_) hr hbase
        by_cases h9 : op.d = 9
        · exact callQueue_push st op v base W h hlen hb h9
        · exact callQueue_pop st op v base W h h9 hlen
      · refine call_sta st op v base w hK hpos hk (fun W h hb => ?_) hr hbase
        by_cases h9 : op.d = 9
        · exact callStack_push st op v base W h hlen hb h9
        · exact callStack_pop st op v base W h h9 hlen
      · obtain ⟨x, rfl⟩ := hone rfl
        rcases hr with ⟨_, h⟩ | ⟨g, off, cap, cur, rfl, h⟩
        · cases h
        · exact call_mut x op g off cap base w hK hpos hk (.inr ⟨g, off, cap, cur, rfl, h⟩)

end Go.Proofs.YtncnojgemmcplaaGreatDoor

namespace Go.Proofs.YtncnojgemmcplaaGreatDoor
open Go.RowKit

theorem clone_any (st : List Int) (v : Value) (w : World) (h : HasInts w v st) (hlen : st.length ≤ 100000) :
    Calls Tryz.prog 168 #[v] w fun e w' => ∃ v', e = .returned v' ∧ RowAt w' w.heap.size v' st ∧ Below w.heap.size w w' := by
  obtain ⟨a, cap, rfl, h1, h2, hn, h⟩ := h
  by_cases h0 : st = []
  · subst h0
    cases a with
    | none => exact (Any.slices_Clone_int_nil layClone 0 cap w).mono fun e w' ⟨he, hw⟩ => ⟨_, he, rowAt_nil _ _, by rw [hw]; exact Below.refl _ _⟩
    | some A => exact (Any.slices_Clone_int_zero layClone A cap w).mono fun e w' ⟨v', he, ho, _, hb⟩ => ⟨v', he, rowAt_owns ho, hb⟩
  · obtain h | ⟨b, off, rfl, hc⟩ := h
    · exact absurd h h0
    refine (Any.slices_Clone_int layClone b off st.length cap st w (Nat.le_refl _) (by omega) (fun j hj => by rw [getD_at hj]; exact hc j hj)).mono ?_
    rintro e w' ⟨v', he, ho, _, hb⟩
    rw [List.take_length] at ho
    exact ⟨v', he, rowAt_owns ho, hb⟩

/-- What Step tells, the program's or the document's. -/
def StepTold (w : World) (r : Option (List Int × Int)) (e : Ending) (w' : World) : Prop :=
  Below w.heap.size w w' ∧ match r with
  | none => e = .returned (.tuple #[.slice none 0 0, .int .i64 0, .bool false])
  | some (st', n) => ∃ v', e = .returned (.tuple #[v', .int .i64 n, .bool true]) ∧ RowAt w' w.heap.size v' st'

set_option maxRecDepth 100000 in
set_option maxHeartbeats 1000000 in
theorem step_any (o k a b : Int) (st : List Int) (v : Value) (w : World) (hK : KnownAt w) (hv : HasInts w v st) (hrise : o = 3 → st.Pairwise (· ≤ ·)) (hlen : st.length ≤ 100000) (hpos : 0 < w.heap.size) :
    Calls Tryz.prog 159 #[.int .i64 o, v, .int .i64 k, .int .i64 a, .int .i64 b] w fun e w' => StepTold w (stepM o st k a b) e w' := by
  have HC := hideIt (clone_any st v w hv hlen)
  have HA : Hid (∀ v1 w1, RowAt w1 w.heap.size v1 st → Below w.heap.size w w1 → Calls Tryz.prog 167 #[.int .i64 o, v1, (Opn.mk 0 0 k a b 0 0 0).agg] w1 fun e w' => StepTold w (stepM o st k a b) e w') := fun v1 w1 hr hb => by
    refine (call_any o st ⟨0, 0, k, a, b, 0, 0, 0⟩ v1 w.heap.size w1 (hK.below hpos hb) hr hrise hlen hb.size (Nat.lt_of_lt_of_le hpos hb.size)).mono ?_
    intro e w' ht
    have hbel : ∀ {x : Value}, w1.grownBy w' v1.ownBlock → Below w.heap.size w w' := fun hg => hb.grown hg hb.size (fun k hk => (hr.lt k hk).1)
    simp only [CallTold] at ht
    revert ht
    cases stepM o st k a b with
    | none => exact fun ht => ⟨hbel (x := v1) ht.2, ht.1⟩
    | some p => exact fun ⟨v', he, ht⟩ => ⟨hbel (x := v1) ht.grown, v', he, ht.row⟩
  unfold Opn.agg at HA
  clear hK hv hrise
  obtain ⟨r, hr⟩ : ∃ r, stepM o st k a b = r := ⟨_, rfl⟩
  rw [hr] at HA ⊢
  clear hr
  cases r with
  | none =>
    go_enter Tryz.func159, Tryz.ntmps159
    go_wp2_with (first | (go_at_call 168; refine HC.out.mono ?_; rintro e w1 ⟨v1, rfl, hr1, hb1⟩; have HR1 := hideIt hr1; have HB1 := hideIt hb1; clear hr1 hb1) | (go_at_call 167; refine (HA.out _ _ HR1.out HB1.out).mono ?_; rintro e w2 ⟨hb2, rfl⟩; have HB2 := hideIt hb2; clear hb2))
    go_ret3
    exact ⟨HB2.out, rfl⟩
  | some p =>
    obtain ⟨st', n⟩ := p
    go_enter Tryz.func159, Tryz.ntmps159
    go_wp2_with (first | (go_at_call 168; refine HC.out.mono ?_; rintro e w1 ⟨v1, rfl, hr1, hb1⟩; have HR1 := hideIt hr1; have HB1 := hideIt hb1; clear hr1 hb1) | (go_at_call 167; refine (HA.out _ _ HR1.out HB1.out).mono ?_; rintro e w2 ⟨hb2, v', rfl, hr2⟩; have HB2 := hideIt hb2; have HR2 := hideIt hr2; clear hb2 hr2))
    go_ret3
    exact ⟨HB2.out, _, rfl, HR2.out⟩

end Go.Proofs.YtncnojgemmcplaaGreatDoor
