/-
  A row of rows in memory that is appended to: what a walk over roads leaves.
-/
import Derived.Test.YtibdchahallbjaaDoorMatP
import Derived.Test.YtibdchahallbjaaDoorWalkQ
namespace Go.Proofs.YtibdchahallbjaaDoor
open Go.RowKit

/-- A row of one-cell values of type 46 (slices of bools) that is one's own. -/
def RowG (w : World) (base : Nat) (v : Value) (xs : List Value) : Prop :=
  (v = .slice none 0 0 ∧ xs = []) ∨
  ∃ g off cap cur, v = .slice (some ⟨g, off, none⟩) xs.length cap ∧ base ≤ g ∧ w.heap[g]? = some (.cells cur 43 (0, 0)) ∧ xs.length ≤ cap ∧ off + cap ≤ cur.size ∧ cap ≤ maxLen ∧
    ∀ j, (hj : j < xs.length) → w.cell? ⟨g, off + j, none⟩ = some xs[j]
theorem RowG.lt {w : World} {base : Nat} {v : Value} {xs : List Value} (h : RowG w base v xs) : ∀ k, v.ownBlock = some k → base ≤ k ∧ k < w.heap.size := by
  intro k hk
  rcases h with ⟨rfl, _⟩ | ⟨g, off, cap, cur, rfl, hb, hg, _⟩
  · cases hk
  · obtain rfl : g = k := by simpa [Value.ownBlock] using hk
    exact ⟨hb, lt_of_heap hg⟩
theorem RowG.block {w w' : World} {base : Nat} {v : Value} {xs : List Value} (h : RowG w base v xs) (hb : ∀ k, v.ownBlock = some k → w'.heap[k]? = w.heap[k]?) : RowG w' base v xs := by
  rcases h with h | ⟨g, off, cap, cur, rfl, h0, hh, h1, h2, h4, h5⟩
  · exact .inl h
  · have e := hb g rfl
    exact .inr ⟨g, off, cap, cur, rfl, h0, e.trans hh, h1, h2, h4, fun j hj => (World.cell?_of_block (a := ⟨g, off + j, none⟩) e).trans (h5 j hj)⟩
theorem RowG.base {w : World} {base base' : Nat} {v : Value} {xs : List Value} (h : RowG w base v xs) (hb : base' ≤ base) : RowG w base' v xs := by
  rcases h with h | ⟨g, off, cap, cur, rfl, h0, h⟩
  · exact .inl h
  · exact .inr ⟨g, off, cap, cur, rfl, by omega, h⟩
theorem rowG_owns {w : World} {base : Nat} {v : Value} {xs : List Value} {n : Nat} (hn : n = xs.length) (h : w.ownsRow base 43 1 v n xs) : RowG w base v xs := by
  subst hn
  obtain ⟨_, ⟨rfl, h0⟩ | ⟨g, cap, cur, rfl, hb, hg, h1, h2, h3, h4⟩⟩ := h
  · exact .inl ⟨rfl, List.length_eq_zero_iff.1 h0⟩
  · refine .inr ⟨g, 0, cap, cur, rfl, hb, hg, h1, by omega, h2, fun j hj => ?_⟩
    rw [cell_of_row w g _ cur 43 (0, 0) hg, Nat.zero_add]
    have := congrArg (·[j]?) h4
    simp only [Nat.mul_one] at this
    rw [List.getElem?_take_of_lt hj, List.getElem?_eq_getElem hj] at this
    simpa using this
theorem some_of_heapG {w : World} {g : Nat} {cur : Array Value} {t : TypeId} (h : w.heap[g]? = some (.cells cur t (0, 0))) {i : Nat} (hi : i < cur.size) : (w.cell? ⟨g, i, none⟩).isSome = true := by
  rw [cell_of_row w g i cur t (0, 0) h, Array.getElem?_eq_getElem hi]; rfl

/-- What an append leaves. -/
structure TurnedG (w : World) (base : Nat) (v : Value) (w' : World) (v' : Value) (xs' : List Value) : Prop where
  row : RowG w' base v' xs'
  grown : w.grownBy w' v.ownBlock
  own : ∀ k, v'.ownBlock = some k → v.ownBlock = some k ∨ w.heap.size ≤ k

theorem wpList_append_rowG {w : World} {ops : Array Oper} {rest : List Oper} {o : Oper} {a : Act} {Q : Exit → Act → World → Prop} (hgd : o.guard = none) (s x : Operand)
    (ho : o.op = .call { callee := .builtin .append, args := #[s, x], argTypes := #[22, 22] })
    (base : Nat) (v : Value) (xs : List Value) (hs : a.eval s = v) (hrow : RowG w base v xs)
    (B c : Nat) (n : Value) (h1c : n.oneCell' = true) (hx : a.eval x = .slice (some ⟨B, 0, none⟩) 1 c) (hn : w.cell? ⟨B, 0, none⟩ = some n)
    (hlen : xs.length ≤ 100000) (hbase : base ≤ w.heap.size)
    (h : ∀ v' w', TurnedG w base v w' v' (xs ++ [n]) → wpList Tryd.prog ops Q rest (a.put o.dst v') w') : wpList Tryd.prog ops Q (o :: rest) a w := by
  obtain ⟨i, hi, hz, hsz, hby⟩ := info_parts' info46
  have hnews : ∀ j u, [n][j]? = some u → w.cell? ((⟨B, 0, none⟩ : Addr).add j) = some u := by
    intro j u hj
    match j, hj with
    | 0, hj => simp at hj; subst hj; simpa [Addr.add] using hn
  have h1s : ∀ u ∈ [n], u.oneCell' = true := by simpa using h1c
  have hmk : ∀ v' w', w'.ownsRow w.heap.size 43 1 v' (xs.length + 1) (xs ++ [n]) → w.grownBy w' none → TurnedG w base v w' v' (xs ++ [n]) := by
    intro v' w' ho' hg
    have hr : RowG w' w.heap.size v' (xs ++ [n]) := rowG_owns (by simp) ho'
    exact ⟨hr.base hbase, hg.but _, fun k hk => .inr (hr.lt k hk).1⟩
  rcases hrow with ⟨rfl, rfl⟩ | ⟨g, off, cap, cur, rfl, hb, hg, h1, h2, h3, h4⟩
  · refine wpList_append_grows w hgd s x 22 ho 43 i _ 1 24 Tryd.underlying22 hi hz hsz hby rfl (by decide) none 0 0 [] hs (fun _ => ⟨rfl, rfl⟩) rfl (fun b hb => by cases hb) ⟨B, 0, none⟩ 1 c [n] hx rfl hnews h1s (by decide) (by decide) (by decide) ?_
    intro v' w' ho' hg'
    exact h v' w' (hmk v' w' ho' hg')
  · by_cases hroom : xs.length + 1 ≤ cap
    · refine wpList_append_room1 w hgd s x 22 22 ho 43 (.slice none 0 0) 24 Tryd.underlying22 info46 g off xs.length cap hs _ hx 1 [n]
        (Src.ofSlice w Tryd.underlying22 ⟨B, 0, none⟩ 1 c [n] (by simp) hnews h1s) hroom
        (fun j hj => some_of_heapG hg (by simp at hj; omega)) (fun j _ => frozen_of_row w g _ cur 43 hg) ?_
      have hc : (w.setCells g (off + xs.length) [n]).cell? ⟨g, off + xs.length, none⟩ = some n := by
        simpa using World.cell?_setCells_in g [n] (off + xs.length) w (fun j hj => some_of_heapG hg (by simp at hj; omega)) 0 (by simp)
      obtain ⟨cur', e1, e2⟩ := heap_setCells [n] (off + xs.length) w cur hg
      have hcell : ∀ j, (hj : j < (xs ++ [n]).length) → (w.setCells g (off + xs.length) [n]).cell? ⟨g, off + j, none⟩ = some (xs ++ [n])[j] := fun j hj => by
        by_cases hj' : j < xs.length
        · rw [List.getElem_append_left hj', World.cell?_setCells_out g _ _ _ _ (fun _ _ => .inl (by show off + j < off + xs.length; omega))]
          exact h4 j hj'
        · obtain rfl : j = xs.length := by simp at hj; omega
          rw [hc]; simp
      have hlen1 : (xs ++ [n]).length = xs.length + 1 := by simp
      refine h _ _ ⟨.inr ⟨g, off, cap, cur', by rw [hlen1], hb, e1, by rw [hlen1]; exact hroom, by omega, h3, hcell⟩, grown_setCells _ _ _ _, fun k hk => .inl hk⟩
    · refine wpList_append_grows w hgd s x 22 ho 43 i _ 1 24 Tryd.underlying22 hi hz hsz hby rfl (by decide) (some ⟨g, off, none⟩) xs.length cap xs hs (fun e => by cases e) (by simp) (fun b hb j u hu => ?_) ⟨B, 0, none⟩ 1 c [n] hx rfl hnews h1s (by omega) (by unfold maxLen; omega) (by omega) ?_
      · obtain rfl := Option.some.inj hb
        have hj : j < xs.length := (List.getElem?_eq_some_iff.1 hu).1
        rw [List.getElem?_eq_getElem hj] at hu
        obtain rfl := Option.some.inj hu
        rw [Addr.add_lit]
        exact h4 j hj
      · intro v' w' ho' hg'
        exact h v' w' (hmk v' w' ho' hg')

/-- Rows of bools, told one behind the other; all their blocks lie from base on. -/
structure OutAt (w : World) (base n : Nat) (v : Value) (gs : List Nat) (A : Nat → Nat → Bool) : Prop where
  row : RowG w base v (gs.map fun g => .slice (some ⟨g, 0, none⟩) n n)
  bits : ∀ j, (hj : j < gs.length) → BitsAt w gs[j] n (A j) ∧ base ≤ gs[j] ∧ v.ownBlock ≠ some gs[j]
theorem outAt_nil (w : World) (base n : Nat) (A : Nat → Nat → Bool) : OutAt w base n (.slice none 0 0) [] A := ⟨.inl ⟨rfl, rfl⟩, fun j hj => absurd hj (by simp)⟩
theorem OutAt.below {w w' : World} {base n B : Nat} {v : Value} {gs : List Nat} {A : Nat → Nat → Bool} (h : OutAt w base n v gs A) (hb : Below B w w') (hB : w.heap.size ≤ B) : OutAt w' base n v gs A :=
  ⟨h.row.block fun k hk => hb.block k (Nat.lt_of_lt_of_le (h.row.lt k hk).2 hB), fun j hj => ⟨(h.bits j hj).1.below hb (Nat.lt_of_lt_of_le (h.bits j hj).1.lt hB), (h.bits j hj).2⟩⟩
theorem OutAt.same {w : World} {base n : Nat} {v : Value} {gs : List Nat} {A A' : Nat → Nat → Bool} (h : OutAt w base n v gs A) (e : ∀ i k, i < gs.length → k < n → A i k = A' i k) : OutAt w base n v gs A' :=
  ⟨h.row, fun j hj => ⟨(h.bits j hj).1.same fun k hk => e j k hj hk, (h.bits j hj).2⟩⟩
/-- One more row. -/
theorem OutAt.more {w w' : World} {base n g : Nat} {v v' : Value} {gs : List Nat} {A : Nat → Nat → Bool} {S : Nat → Bool} (h : OutAt w base n v gs A) (hg : BitsAt w g n S) (hb : base ≤ g) (hv : v.ownBlock ≠ some g)
    (ht : TurnedG w base v w' v' (gs.map (fun g => .slice (some ⟨g, 0, none⟩) n n) ++ [.slice (some ⟨g, 0, none⟩) n n])) : OutAt w' base n v' (gs ++ [g]) (fun i => if i = gs.length then S else A i) := by
  have hkeep : ∀ {k : Nat} {f : Nat → Bool}, BitsAt w k n f → v.ownBlock ≠ some k → BitsAt w' k n f ∧ v'.ownBlock ≠ some k := fun {k f} hk hne => by
    have hkl := hk.lt
    refine ⟨hk.block (ht.grown.block k hkl (fun e => hne e.symm)), fun e => ?_⟩
    rcases ht.own k e with h1 | h1
    · exact hne h1
    · omega
  refine ⟨by rw [List.map_append]; exact ht.row, fun j hj => ?_⟩
  by_cases e : j < gs.length
  · rw [List.getElem_append_left e]
    obtain ⟨h1, h2, h3⟩ := h.bits j e
    have := hkeep h1 h3
    simp only [if_neg (show ¬ j = gs.length by omega)]
    exact ⟨this.1, h2, this.2⟩
  · obtain rfl : j = gs.length := by simp at hj; omega
    have := hkeep hg hv
    simp only [if_true]
    rw [List.getElem_append_right (Nat.le_refl _)]
    simp only [Nat.sub_self, List.getElem_cons_zero]
    exact ⟨this.1, hb, this.2⟩
/-- How it reads, as a matrix. -/
theorem OutAt.read {w : World} {base n : Nat} {v : Value} {gs : List Nat} {A : Nat → Nat → Bool} (h : OutAt w base n v gs A) (h0 : 0 < gs.length) :
    ∃ g off cap, v = .slice (some ⟨g, off, none⟩) gs.length cap ∧ gs.length ≤ cap ∧ ∀ i, (hi : i < gs.length) → w.cell? ⟨g, off + i, none⟩ = some (.slice (some ⟨gs[i], 0, none⟩) n n) ∧ ∀ k, k < n → w.cell? ⟨gs[i], k, none⟩ = some (.bool (A i k)) := by
  rcases h.row with ⟨_, e⟩ | ⟨g, off, cap, cur, e, hb, hg, h1, h2, h3, h4⟩
  · have := congrArg List.length e; simp at this; subst this; simp at h0
  · rw [List.length_map] at e h1
    refine ⟨g, off, cap, e, h1, fun i hi => ⟨?_, fun k hk => (h.bits i hi).1.bit k hk⟩⟩
    have := h4 i (by simpa using hi)
    simpa using this

/-! ### counting what was not seen, off the memory -/
def seenOf (w : World) (g : Nat) : Nat → Bool := fun k => match w.cell? ⟨g, k, none⟩ with
  | some (.bool b) => b
  | _ => false
def lenOf : Value → Nat
  | .slice _ n _ => n
  | _ => 0
theorem leftN_congr {S S' : Nat → Bool} : ∀ n, (∀ k, k < n → S k = S' k) → leftN S n = leftN S' n
  | 0, _ => rfl
  | n + 1, h => by
    unfold leftN
    rw [leftN_congr n (fun k hk => h k (by omega)), h n (by omega)]
theorem seenOf_bits {w : World} {g n : Nat} {S : Nat → Bool} (h : BitsAt w g n S) : leftN (seenOf w g) n = leftN S n := leftN_congr n fun k hk => by unfold seenOf; rw [h.bit k hk]
theorem RowAt.lenOf {w : World} {base : Nat} {v : Value} {st : List Int} (h : RowAt w base v st) : lenOf v = st.length := by
  rcases h with ⟨rfl, rfl⟩ | ⟨g, off, cap, cur, rfl, _⟩ <;> rfl

end Go.Proofs.YtibdchahallbjaaDoor
