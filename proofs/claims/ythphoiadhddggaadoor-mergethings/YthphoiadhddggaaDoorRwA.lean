/-
  What is one's own is appended to, in place or anew.
-/
import Derived.Test.YthphoiadhddggaaDoorRowS
import Derived.Deep.QuietTactic
import Derived.BigQuiet
import Derived.ArgAppend
import Derived.Lib.JoinLaws
namespace Go.Proofs.YthphoiadhddggaaDoor
open Go.RowKit

theorem info3 : (Tryd.prog.info? 3).map (fun i => (i.zero, i.size, i.bytes)) = some (some (Value.int .i64 0), 1, 8) := by kernel_rfl
theorem RowAt.belowR {w w' : World} {base : Nat} {v : Value} {st : List Int} (h : RowAt w base v st) (hb : Below w.heap.size w w') : RowAt w' base v st := by
  rcases h with h | ⟨g, off, cap, cur, rfl, h0, hh, h1, h2, h4, h5⟩
  · exact .inl h
  · have e := hb.block g (lt_of_heap hh)
    exact .inr ⟨g, off, cap, cur, rfl, h0, e.trans hh, h1, h2, h4, fun j hj => (World.cell?_of_block (a := ⟨g, off + j, none⟩) e).trans (h5 j hj)⟩
theorem RowAt.setOther {w : World} {base : Nat} {v : Value} {st : List Int} (h : RowAt w base v st) {p : Addr} (hp : p.block < base) (u : Value) : RowAt (w.setCell p u) base v st :=
  h.kept (grown_setCell w p u) (.inr fun e => by have := (h.lt p.block e).1; omega)
theorem RowAt.slice {w : World} {base : Nat} {v : Value} {st : List Int} (h : RowAt w base v st) : ∃ a cap, v = .slice a st.length cap := by
  rcases h with ⟨rfl, rfl⟩ | ⟨g, off, cap, cur, rfl, _⟩
  · exact ⟨none, 0, rfl⟩
  · exact ⟨_, _, rfl⟩

/-- What a call leaves: the state that it made, in the same block or in one that is new; all else as it was. -/
structure Turned (w : World) (base : Nat) (v : Value) (w' : World) (v' : Value) (st' : List Int) : Prop where
  row : RowAt w' base v' st'
  grown : w.grownBy w' v.ownBlock
  own : ∀ k, v'.ownBlock = some k → v.ownBlock = some k ∨ w.heap.size ≤ k

theorem Turned.base_le {w : World} {base : Nat} {v : Value} {st : List Int} (h : RowAt w base v st) : ∀ k, v.ownBlock = some k → base ≤ k := fun k hk => (h.lt k hk).1

/-- One ahead of it that makes new blocks alone. -/
theorem Turned.behind {w w1 : World} {base : Nat} {v : Value} {w' : World} {v' : Value} {st' : List Int} (h : Turned w1 base v w' v' st') (hg : w.grownBy w1 none) : Turned w base v w' v' st' :=
  ⟨h.row, (hg.but _).trans h.grown, fun k hk => (h.own k hk).imp id (fun e => Nat.le_trans hg.size e)⟩

theorem RowAt.new {w w' : World} {base : Nat} {v : Value} {st : List Int} (h : RowAt w base v st) (hg : w.grownBy w' none) : RowAt w' base v st := h.kept hg (Classical.em _)
theorem turned_same {w : World} {base : Nat} {v : Value} {st : List Int} (h : RowAt w base v st) : Turned w base v w v st := ⟨h, grown_refl _ _, fun _ hk => .inl hk⟩


section
variable {w : World}
theorem wpList_append_row {ops : Array Oper} {rest : List Oper} {o : Oper} {a : Act} {Q : Exit → Act → World → Prop} (hgd : o.guard = none) (s x : Operand)
    (ho : o.op = .call { callee := .builtin .append, args := #[s, x], argTypes := #[22, 22] })
    (base : Nat) (v : Value) (st : List Int) (hs : a.eval s = v) (hrow : RowAt w base v st)
    (B c : Nat) (n : Int) (hx : a.eval x = .slice (some ⟨B, 0, none⟩) 1 c) (hn : w.cell? ⟨B, 0, none⟩ = some (.int .i64 n))
    (hlen : st.length ≤ 100000) (hbase : base ≤ w.heap.size)
    (h : ∀ v' w', Turned w base v w' v' (st ++ [n]) → wpList Tryd.prog ops Q rest (a.put o.dst v') w') : wpList Tryd.prog ops Q (o :: rest) a w := by
  obtain ⟨i, hi, hz, hsz, hby⟩ := info_parts' info3
  have hnews : ∀ j u, [Value.int .i64 n][j]? = some u → w.cell? ((⟨B, 0, none⟩ : Addr).add j) = some u := by
    intro j u hj
    match j, hj with
    | 0, hj => simp at hj; subst hj; simpa [Addr.add] using hn
  have hmk : ∀ v' w', w'.ownsRow w.heap.size 3 1 v' (st.length + 1) (st.map (Value.int .i64) ++ [.int .i64 n]) → w.grownBy w' none → Turned w base v w' v' (st ++ [n]) := by
    intro v' w' ho' hg
    have hr : RowAt w' w.heap.size v' (st ++ [n]) := rowAt_owns (by simpa using ho')
    exact ⟨hr.base hbase, hg.but _, fun k hk => .inr (hr.lt k hk).1⟩
  rcases hrow with ⟨rfl, rfl⟩ | ⟨g, off, cap, cur, rfl, hb, hg, h1, h2, h3, h4⟩
  · refine wpList_append_grows w hgd s x 22 ho 3 i _ 1 8 Tryd.underlying22 hi hz hsz hby rfl (by decide) none 0 0 [] hs (fun _ => ⟨rfl, rfl⟩) rfl (fun b hb => by cases hb) ⟨B, 0, none⟩ 1 c [.int .i64 n] hx rfl hnews (by simp [Value.oneCell']) (by decide) (by decide) (by decide) ?_
    intro v' w' ho' hg'
    exact h v' w' (hmk v' w' ho' hg')
  · by_cases hroom : st.length + 1 ≤ cap
    · refine wpList_append_room1 w hgd s x 22 22 ho 3 (.int .i64 0) 8 Tryd.underlying22 info3 g off st.length cap hs _ hx 1 [.int .i64 n]
        (Src.ofSlice w Tryd.underlying22 ⟨B, 0, none⟩ 1 c [.int .i64 n] (by simp) hnews (by simp [Value.oneCell'])) hroom
        (fun j hj => some_of_heap hg (by simp at hj; omega)) (fun j _ => unfrozen_of_heap hg _) ?_
      have hc : (w.setCells g (off + st.length) [.int .i64 n]).cell? ⟨g, off + st.length, none⟩ = some (.int .i64 n) := by
        simpa using World.cell?_setCells_in g [.int .i64 n] (off + st.length) w (fun j hj => some_of_heap hg (by simp at hj; omega)) 0 (by simp)
      refine h _ _ ⟨rowAt_put hb (heap_setCells _ _ _ _ hg) (by simpa using hroom) h2 h3 (fun j hj => ?_) (by simp), grown_setCells _ _ _ _, fun k hk => .inl hk⟩
      by_cases hj' : j < st.length
      · rw [List.getElem_append_left hj', World.cell?_setCells_out g _ _ _ _ (fun _ _ => .inl (by show off + j < off + st.length; omega))]
        exact h4 j hj'
      · obtain rfl : j = st.length := by simp at hj; omega
        rw [hc]; simp
    · refine wpList_append_grows w hgd s x 22 ho 3 i _ 1 8 Tryd.underlying22 hi hz hsz hby rfl (by decide) (some ⟨g, off, none⟩) st.length cap (st.map (Value.int .i64)) hs (fun e => by cases e) (by simp) (fun b hb j u hu => ?_) ⟨B, 0, none⟩ 1 c [.int .i64 n] hx rfl hnews (by simp [Value.oneCell']) (by omega) (by unfold maxLen; omega) (by omega) ?_
      · obtain rfl := Option.some.inj hb
        have hj : j < st.length := by
          have := (List.getElem?_eq_some_iff.1 hu).1
          simpa using this
        rw [List.getElem?_map, List.getElem?_eq_getElem hj] at hu
        simp at hu
        subst hu
        rw [Addr.add_lit]
        exact h4 j hj
      · intro v' w' ho' hg'
        exact h v' w' (hmk v' w' ho' hg')
end

end Go.Proofs.YthphoiadhddggaaDoor
