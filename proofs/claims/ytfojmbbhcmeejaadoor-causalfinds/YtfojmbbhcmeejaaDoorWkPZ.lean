/-
  A row of rows in memory that is appended to: what a walk over roads leaves.
  The document's own walks over roads, walked; Ahead7.
  The document's own CausalCheck (of none, too) and Ahead7, walked; two matrices held against each other.
-/
import Derived.Test.YtfojmbbhcmeejaaDoorMapVZ
import Derived.Test.YtfojmbbhcmeejaaDoorWalkQ
import Derived.Test.YtfojmbbhcmeejaaDoorCkRZ
import Derived.Test.YtfojmbbhcmeejaaDoorAhWZ
import Derived.Test.YtfojmbbhcmeejaaDoorAsZ
namespace Go.Proofs.YtfojmbbhcmeejaaDoor
open Go.RowKit

/-- A row of one-cell values of type 46 (slices of bools) that is one's own. -/
def RowG (w : World) (base : Nat) (v : Value) (xs : List Value) : Prop :=
  (v = .slice none 0 0 ∧ xs = []) ∨
  ∃ g off cap cur, v = .slice (some ⟨g, off, none⟩) xs.length cap ∧ base ≤ g ∧ w.heap[g]? = some (.cells cur 46 (0, 0)) ∧ xs.length ≤ cap ∧ off + cap ≤ cur.size ∧ cap ≤ maxLen ∧
    ∀ j, (hj : j < xs.length) → w.cell? ⟨g, off + j, none⟩ = some xs[j]
theorem RowG.lt {w : World} {base : Nat} {v : Value} {xs : List Value} (h : RowG w base v xs) : ∀ k, v.ownBlock = some k → base ≤ k ∧ k < w.heap.size := by
  intro k hk
  rcases h with ⟨rfl, _⟩ | ⟨g, off, cap, cur, rfl, hb, hg, _⟩
  · cases hk
  · obtain rfl : g = k := by simpa [Value.ownBlock] using hk
    exact ⟨hb, lt_of_heap hg⟩
theorem RowG.block {w w' : World} {base : Nat} {v : Value} {xs : List Value} (h : RowG w base v xs) (hb : ∀ k, v.ownBlock = some k → w'.heap[k]? = w.heap[k]?) : RowG w' base v xs := by
  rcases h with h | ⟨g, off, cap, cur, rfl, h0, hh, h1, h2, h4, h5⟩
  · exact .inl h
  · have e := hb g rfl
    exact .inr ⟨g, off, cap, cur, rfl, h0, e.trans hh, h1, h2, h4, fun j hj => (World.cell?_of_block (a := ⟨g, off + j, none⟩) e).trans (h5 j hj)⟩
theorem RowG.base {w : World} {base base' : Nat} {v : Value} {xs : List Value} (h : RowG w base v xs) (hb : base' ≤ base) : RowG w base' v xs := by
  rcases h with h | ⟨g, off, cap, cur, rfl, h0, h⟩
  · exact .inl h
  · exact .inr ⟨g, off, cap, cur, rfl, by omega, h⟩
theorem rowG_owns {w : World} {base : Nat} {v : Value} {xs : List Value} {n : Nat} (hn : n = xs.length) (h : w.ownsRow base 46 1 v n xs) : RowG w base v xs := by
  subst hn
  obtain ⟨_, ⟨rfl, h0⟩ | ⟨g, cap, cur, rfl, hb, hg, h1, h2, h3, h4⟩⟩ := h
  · exact .inl ⟨rfl, List.length_eq_zero_iff.1 h0⟩
  · refine .inr ⟨g, 0, cap, cur, rfl, hb, hg, h1, by omega, h2, fun j hj => ?_⟩
    rw [cell_of_row w g _ cur 46 (0, 0) hg, Nat.zero_add]
    have := congrArg (·[j]?) h4
    simp only [Nat.mul_one] at this
    rw [List.getElem?_take_of_lt hj, List.getElem?_eq_getElem hj] at this
    simpa using this
theorem some_of_heapG {w : World} {g : Nat} {cur : Array Value} {t : TypeId} (h : w.heap[g]? = some (.cells cur t (0, 0))) {i : Nat} (hi : i < cur.size) : (w.cell? ⟨g, i, none⟩).isSome = true := by
  rw [cell_of_row w g i cur t (0, 0) h, Array.getElem?_eq_getElem hi]; rfl

/-- What an append leaves. -/
structure TurnedG (w : World) (base : Nat) (v : Value) (w' : World) (v' : Value) (xs' : List Value) : Prop where
  row : RowG w' base v' xs'
  grown : w.grownBy w' v.ownBlock
  own : ∀ k, v'.ownBlock = some k → v.ownBlock = some k ∨ w.heap.size ≤ k

theorem wpList_append_rowG {w : World} {ops : Array Oper} {rest : List Oper} {o : Oper} {a : Act} {Q : Exit → Act → World → Prop} (hgd : o.guard = none) (s x : Operand)
    (ho : o.op = .call { callee := .builtin .append, args := #[s, x], argTypes := #[30, 30] })
    (base : Nat) (v : Value) (xs : List Value) (hs : a.eval s = v) (hrow : RowG w base v xs)
    (B c : Nat) (n : Value) (h1c : n.oneCell' = true) (hx : a.eval x = .slice (some ⟨B, 0, none⟩) 1 c) (hn : w.cell? ⟨B, 0, none⟩ = some n)
    (hlen : xs.length ≤ 100000) (hbase : base ≤ w.heap.size)
    (h : ∀ v' w', TurnedG w base v w' v' (xs ++ [n]) → wpList Tryd.prog ops Q rest (a.put o.dst v') w') : wpList Tryd.prog ops Q (o :: rest) a w := by
  obtain ⟨i, hi, hz, hsz, hby⟩ := info_parts info46
  have hnews : ∀ j u, [n][j]? = some u → w.cell? ((⟨B, 0, none⟩ : Addr).add j) = some u := by
    intro j u hj
    match j, hj with
    | 0, hj => simp at hj; subst hj; simpa [Addr.add] using hn
  have h1s : ∀ u ∈ [n], u.oneCell' = true := by simpa using h1c
  have hmk : ∀ v' w', w'.ownsRow w.heap.size 46 1 v' (xs.length + 1) (xs ++ [n]) → w.grownBy w' none → TurnedG w base v w' v' (xs ++ [n]) := by
    intro v' w' ho' hg
    have hr : RowG w' w.heap.size v' (xs ++ [n]) := rowG_owns (by simp) ho'
    exact ⟨hr.base hbase, hg.but _, fun k hk => .inr (hr.lt k hk).1⟩
  rcases hrow with ⟨rfl, rfl⟩ | ⟨g, off, cap, cur, rfl, hb, hg, h1, h2, h3, h4⟩
  · refine wpList_append_grows w hgd s x 30 ho 46 i _ 1 24 Tryd.underlying30 hi hz hsz hby rfl (by decide) none 0 0 [] hs (fun _ => ⟨rfl, rfl⟩) rfl (fun b hb => by cases hb) ⟨B, 0, none⟩ 1 c [n] hx rfl hnews h1s (by decide) (by decide) (by decide) ?_
    intro v' w' ho' hg'
    exact h v' w' (hmk v' w' ho' hg')
  · by_cases hroom : xs.length + 1 ≤ cap
    · refine wpList_append_room1 w hgd s x 30 30 ho 46 (.slice none 0 0) 24 Tryd.underlying30 info46 g off xs.length cap hs _ hx 1 [n]
        (Src.ofSlice w Tryd.underlying30 ⟨B, 0, none⟩ 1 c [n] (by simp) hnews h1s) hroom
        (fun j hj => some_of_heapG hg (by simp at hj; omega)) (fun j _ => frozen_of_row w g _ cur 46 hg) ?_
      have hc : (w.setCells g (off + xs.length) [n]).cell? ⟨g, off + xs.length, none⟩ = some n := by
        simpa using World.cell?_setCells_in g [n] (off + xs.length) w (fun j hj => some_of_heapG hg (by simp at hj; omega)) 0 (by simp)
      obtain ⟨cur', e1, e2⟩ := heap_setCells [n] (off + xs.length) w cur hg
      have hcell : ∀ j, (hj : j < (xs ++ [n]).length) → (w.setCells g (off + xs.length) [n]).cell? ⟨g, off + j, none⟩ = some (xs ++ [n])[j] := fun j hj => by
        by_cases hj' : j < xs.length
        · rw [List.getElem_append_left hj', World.cell?_setCells_out g _ _ _ _ (fun _ _ => .inl (by show off + j < off + xs.length; omega))]
          exact h4 j hj'
        · obtain rfl : j = xs.length := by simp at hj; omega
          rw [hc]; simp
      have hlen1 : (xs ++ [n]).length = xs.length + 1 := by simp
      refine h _ _ ⟨.inr ⟨g, off, cap, cur', by rw [hlen1], hb, e1, by rw [hlen1]; exact hroom, by omega, h3, hcell⟩, grown_setCells _ _ _ _, fun k hk => .inl hk⟩
    · refine wpList_append_grows w hgd s x 30 ho 46 i _ 1 24 Tryd.underlying30 hi hz hsz hby rfl (by decide) (some ⟨g, off, none⟩) xs.length cap xs hs (fun e => by cases e) (by simp) (fun b hb j u hu => ?_) ⟨B, 0, none⟩ 1 c [n] hx rfl hnews h1s (by omega) (by unfold maxLen; omega) (by omega) ?_
      · obtain rfl := Option.some.inj hb
        have hj : j < xs.length := (List.getElem?_eq_some_iff.1 hu).1
        rw [List.getElem?_eq_getElem hj] at hu
        obtain rfl := Option.some.inj hu
        rw [Addr.add_lit]
        exact h4 j hj
      · intro v' w' ho' hg'
        exact h v' w' (hmk v' w' ho' hg')

/-- Rows of bools, told one behind the other; all their blocks lie from base on. -/
structure OutAt (w : World) (base n : Nat) (v : Value) (gs : List Nat) (A : Nat → Nat → Bool) : Prop where
  row : RowG w base v (gs.map fun g => .slice (some ⟨g, 0, none⟩) n n)
  bits : ∀ j, (hj : j < gs.length) → BitsAt w gs[j] n (A j) ∧ base ≤ gs[j] ∧ v.ownBlock ≠ some gs[j]
theorem outAt_nil (w : World) (base n : Nat) (A : Nat → Nat → Bool) : OutAt w base n (.slice none 0 0) [] A := ⟨.inl ⟨rfl, rfl⟩, fun j hj => absurd hj (by simp)⟩
theorem OutAt.below {w w' : World} {base n B : Nat} {v : Value} {gs : List Nat} {A : Nat → Nat → Bool} (h : OutAt w base n v gs A) (hb : Below B w w') (hB : w.heap.size ≤ B) : OutAt w' base n v gs A :=
  ⟨h.row.block fun k hk => hb.block k (Nat.lt_of_lt_of_le (h.row.lt k hk).2 hB), fun j hj => ⟨(h.bits j hj).1.below hb (Nat.lt_of_lt_of_le (h.bits j hj).1.lt hB), (h.bits j hj).2⟩⟩
theorem OutAt.same {w : World} {base n : Nat} {v : Value} {gs : List Nat} {A A' : Nat → Nat → Bool} (h : OutAt w base n v gs A) (e : ∀ i k, i < gs.length → k < n → A i k = A' i k) : OutAt w base n v gs A' :=
  ⟨h.row, fun j hj => ⟨(h.bits j hj).1.same fun k hk => e j k hj hk, (h.bits j hj).2⟩⟩
/-- One more row. -/
theorem OutAt.more {w w' : World} {base n g : Nat} {v v' : Value} {gs : List Nat} {A : Nat → Nat → Bool} {S : Nat → Bool} (h : OutAt w base n v gs A) (hg : BitsAt w g n S) (hb : base ≤ g) (hv : v.ownBlock ≠ some g)
    (ht : TurnedG w base v w' v' (gs.map (fun g => .slice (some ⟨g, 0, none⟩) n n) ++ [.slice (some ⟨g, 0, none⟩) n n])) : OutAt w' base n v' (gs ++ [g]) (fun i => if i = gs.length then S else A i) := by
  have hkeep : ∀ {k : Nat} {f : Nat → Bool}, BitsAt w k n f → v.ownBlock ≠ some k → BitsAt w' k n f ∧ v'.ownBlock ≠ some k := fun {k f} hk hne => by
    have hkl := hk.lt
    refine ⟨hk.block (ht.grown.block k hkl (fun e => hne e.symm)), fun e => ?_⟩
    rcases ht.own k e with h1 | h1
    · exact hne h1
    · omega
  refine ⟨by rw [List.map_append]; exact ht.row, fun j hj => ?_⟩
  by_cases e : j < gs.length
  · rw [List.getElem_append_left e]
    obtain ⟨h1, h2, h3⟩ := h.bits j e
    have := hkeep h1 h3
    simp only [if_neg (show ¬ j = gs.length by omega)]
    exact ⟨this.1, h2, this.2⟩
  · obtain rfl : j = gs.length := by simp at hj; omega
    have := hkeep hg hv
    simp only [if_true]
    rw [List.getElem_append_right (Nat.le_refl _)]
    simp only [Nat.sub_self, List.getElem_cons_zero]
    exact ⟨this.1, hb, this.2⟩
/-- How it reads, as a matrix. -/
theorem OutAt.read {w : World} {base n : Nat} {v : Value} {gs : List Nat} {A : Nat → Nat → Bool} (h : OutAt w base n v gs A) (h0 : 0 < gs.length) :
    ∃ g off cap, v = .slice (some ⟨g, off, none⟩) gs.length cap ∧ gs.length ≤ cap ∧ ∀ i, (hi : i < gs.length) → w.cell? ⟨g, off + i, none⟩ = some (.slice (some ⟨gs[i], 0, none⟩) n n) ∧ ∀ k, k < n → w.cell? ⟨gs[i], k, none⟩ = some (.bool (A i k)) := by
  rcases h.row with ⟨_, e⟩ | ⟨g, off, cap, cur, e, hb, hg, h1, h2, h3, h4⟩
  · have := congrArg List.length e; simp at this; subst this; simp at h0
  · rw [List.length_map] at e h1
    refine ⟨g, off, cap, e, h1, fun i hi => ⟨?_, fun k hk => (h.bits i hi).1.bit k hk⟩⟩
    have := h4 i (by simpa using hi)
    simpa using this

/-! ### counting what was not seen, off the memory -/
def seenOf (w : World) (g : Nat) : Nat → Bool := fun k => match w.cell? ⟨g, k, none⟩ with
  | some (.bool b) => b
  | _ => false
def lenOf : Value → Nat
  | .slice _ n _ => n
  | _ => 0
theorem leftN_congr {S S' : Nat → Bool} : ∀ n, (∀ k, k < n → S k = S' k) → leftN S n = leftN S' n
  | 0, _ => rfl
  | n + 1, h => by
    unfold leftN
    rw [leftN_congr n (fun k hk => h k (by omega)), h n (by omega)]
theorem seenOf_bits {w : World} {g n : Nat} {S : Nat → Bool} (h : BitsAt w g n S) : leftN (seenOf w g) n = leftN S n := leftN_congr n fun k hk => by unfold seenOf; rw [h.bit k hk]
theorem RowAt.lenOf {w : World} {base : Nat} {v : Value} {st : List Int} (h : RowAt w base v st) : lenOf v = st.length := by
  rcases h with ⟨rfl, rfl⟩ | ⟨g, off, cap, cur, rfl, _⟩ <;> rfl

end Go.Proofs.YtfojmbbhcmeejaaDoor

namespace Go.Proofs.YtfojmbbhcmeejaaDoor
open Go.RowKit

theorem map_cons_nat {i : Nat} {r : List Nat} : (i :: r).map (fun n : Nat => (n : Int)) = (i : Int) :: r.map (fun n : Nat => (n : Int)) := rfl

theorem RowAt.belowR {w w' : World} {base : Nat} {v : Value} {st : List Int} (h : RowAt w base v st) (hb : Below w.heap.size w w') : RowAt w' base v st := by
  rcases h with h | ⟨g, off, cap, cur, rfl, h0, hh, h1, h2, h4, h5⟩
  · exact .inl h
  · have e := hb.block g (lt_of_heap hh)
    exact .inr ⟨g, off, cap, cur, rfl, h0, e.trans hh, h1, h2, h4, fun j hj => (World.cell?_of_block (a := ⟨g, off + j, none⟩) e).trans (h5 j hj)⟩
theorem RowAt.setOther {w : World} {base : Nat} {v : Value} {st : List Int} (h : RowAt w base v st) {p : Addr} (hp : p.block < base) (u : Value) : RowAt (w.setCell p u) base v st :=
  h.kept (grown_setCell w p u) (.inr fun e => by have := (h.lt p.block e).1; omega)
theorem RowAt.slice {w : World} {base : Nat} {v : Value} {st : List Int} (h : RowAt w base v st) : ∃ a cap, v = .slice a st.length cap := by
  rcases h with ⟨rfl, rfl⟩ | ⟨g, off, cap, cur, rfl, _⟩
  · exact ⟨none, 0, rfl⟩
  · exact ⟨_, _, rfl⟩
theorem cell_new_set (w2 : World) (Z k : Nat) : ((w2.setCell ⟨Z, k, none⟩ (.bool true)).alloc (.cells #[.int .i64 (k : Nat)] 3)).cell? ⟨w2.heap.size, 0, none⟩ = some (.int .i64 (k : Nat)) := by
  have e := heap_alloc_new (w2.setCell ⟨Z, k, none⟩ (.bool true)) (.cells #[.int .i64 (k : Nat)] 3)
  have es : (w2.setCell ⟨Z, k, none⟩ (.bool true)).heap.size = w2.heap.size := by simp
  rw [es] at e
  rw [cell_of_row _ _ 0 _ 3 _ e]; rfl
/-- What the state of a walk is behind a step. -/
theorem step_seen {w2 w3 : World} {Z n k : Nat} {S : Nat → Bool} {v v' : Value} {st st' : List Int} {w0 : World} (hbits : BitsAt w2 Z n S) (hk : k < n) (hrow : RowAt w2 (Z + 1) v st) (hb : Below Z w0 w2)
    (ht : Turned ((w2.setCell ⟨Z, k, none⟩ (.bool true)).alloc (.cells #[.int .i64 (k : Nat)] 3)) (Z + 1) v w3 v' st') :
    BitsAt w3 Z n (putB S k) ∧ RowAt w3 (Z + 1) v' st' ∧ Below Z w0 w3 ∧ w2.heap.size ≤ w3.heap.size := by
  have hZ := hbits.lt
  have h1 : BitsAt ((w2.setCell ⟨Z, k, none⟩ (.bool true)).alloc (.cells #[.int .i64 (k : Nat)] 3)) Z n (putB S k) := ((hbits.put hk true).block (w' := (w2.setCell ⟨Z, k, none⟩ (.bool true)).alloc (.cells #[.int .i64 (k : Nat)] 3)) (Below.heap_alloc _ _ Z (by simp; exact hZ))).same fun j _ => by unfold putB; rfl
  have hown : ∀ j, v.ownBlock = some j → Z + 1 ≤ j := fun j hj => (hrow.lt j hj).1
  have hne : some Z ≠ v.ownBlock := fun e => by have := hown Z e.symm; omega
  refine ⟨h1.block (ht.grown.block Z (by simp; omega) hne), ht.row, ?_, ?_⟩
  · have hb1 : Below Z w0 ((w2.setCell ⟨Z, k, none⟩ (.bool true)).alloc (.cells #[.int .i64 (k : Nat)] 3)) := (hb.setCell (p := ⟨Z, k, none⟩) (Nat.le_refl _) _).alloc (by simp; omega) _
    exact hb1.grown ht.grown (by simp; omega) (fun j hj => by have := hown j hj; omega)
  · have := ht.grown.size
    simp at this; omega

set_option maxRecDepth 100000 in
set_option maxHeartbeats 4000000 in
theorem walks_any (n : Nat) (R : Nat → Nat → Bool) (Bx : Nat) (w : World) (hn : n ≤ 60)
    (hc : ∀ W i k, Below w.heap.size w W → i < n → k < n → Calls Tryd.prog 28 #[.int .i64 (i : Nat), .int .i64 (k : Nat), .pointer (some ⟨Bx, 0, none⟩)] W fun e w' => e = .returned (.bool (R i k)) ∧ Below W.heap.size W w') :
    Calls Tryd.prog 29 #[.int .i64 (n : Nat), .func (.func 28) #[] #[.pointer (some ⟨Bx, 0, none⟩)]] w fun e w' => ∃ v gs A, e = .returned v ∧ OutAt w' w.heap.size n v gs A ∧ gs.length = n ∧ (∀ i k, i < n → k < n → (A i k = true ↔ Way R n i k)) ∧ Below w.heap.size w w' := by
  have HC := hideIt hc
  clear hc
  go_enter Tryd.func29, Tryd.ntmps29
  go_wp2
  go_loopw [5, 12] (fun v i wr => ∃ (a : Nat) (gs : List Nat) (A : Nat → Nat → Bool), a ≤ n ∧ i = .int .i64 a ∧ gs.length = a ∧ OutAt wr w.heap.size n v gs A ∧ (∀ i k, i < a → k < n → (A i k = true ↔ Way R n i k)) ∧ Below w.heap.size w wr) (fun _ i _ => n - (intOf i).toNat)
  case atStart => exact ⟨0, [], fun _ _ => false, Nat.zero_le _, rfl, rfl, outAt_nil _ _ _ _, fun i k hi => absurd hi (by omega), Below.refl _ _⟩
  case round =>
    obtain ⟨a, gs, A, ha, rfl, hgs, hout, hA, hb⟩ := hrel
    have HOut := hideIt hout
    have HA := hideIt hA
    have HB := hideIt hb
    clear hout hA hb
    by_cases han : a < n
    · have hmk := made_bits wr n hn
      have HF1 : Hid (BitsAt ((wr.alloc (.cells (madeCells #[.bool false] n) 4)).alloc (.cells #[.int .i64 (a : Nat)] 3)) wr.heap.size n (fun _ => false) ∧
          RowAt ((wr.alloc (.cells (madeCells #[.bool false] n) 4)).alloc (.cells #[.int .i64 (a : Nat)] 3)) (wr.heap.size + 1) (.slice (some ⟨wr.heap.size + 1, 0, none⟩) 1 1) [(a : Int)] ∧
          Below wr.heap.size wr ((wr.alloc (.cells (madeCells #[.bool false] n) 4)).alloc (.cells #[.int .i64 (a : Nat)] 3)) ∧ wr.heap.size + 1 ≤ ((wr.alloc (.cells (madeCells #[.bool false] n) 4)).alloc (.cells #[.int .i64 (a : Nat)] 3)).heap.size) := by
        have hs : (wr.alloc (.cells (madeCells #[.bool false] n) 4)).heap.size = wr.heap.size + 1 := by simp
        have hnew := heap_alloc_new (wr.alloc (.cells (madeCells #[.bool false] n) 4)) (.cells #[.int .i64 (a : Nat)] 3)
        rw [hs] at hnew
        refine ⟨(bits_made wr n).block (Below.heap_alloc _ _ _ (by simp)), .inr ⟨wr.heap.size + 1, 0, 1, _, rfl, Nat.le_refl _, hnew, Nat.le_refl _, by simp, by decide, fun j hj => ?_⟩, belA (belA (Below.refl _ _) _) _, by simp⟩
        obtain rfl : j = 0 := by simp at hj; exact hj
        rw [cell_of_row _ _ _ _ 3 _ hnew]; rfl
      have HFr : Hid (∀ wz, Below wr.heap.size wr wz → Below w.heap.size w wz ∧ OutAt wz w.heap.size n u5 gs A ∧ (∀ k, u5.ownBlock = some k → k < wr.heap.size) ∧ w.heap.size ≤ wr.heap.size) := fun wz hz =>
        ⟨HB.out.trans (hz.mono HB.out.size), HOut.out.below hz (Nat.le_refl _), fun k hk => (HOut.out.row.lt k hk).2, HB.out.size⟩
      clear HOut HB
      go_wp2
      clear hmk
      generalize wr.heap.size = Z at HF1 HFr ⊢
      obtain ⟨wr_, HWR⟩ : ∃ wr_, Hid (wr = wr_) := ⟨_, hideIt rfl⟩
      rw [HWR.out] at HFr
      go_loopw [8] (fun v wz => ∃ (S : Nat → Bool) (todo : List Nat), RowAt wz (Z + 1) v (todo.map fun q : Nat => (q : Int)) ∧ BitsAt wz Z n S ∧ WalkT R n a S todo ∧ 2 * leftN S n + todo.length ≤ 2 * n + 1 ∧ Below Z wr_ wz ∧ Z + 1 ≤ wz.heap.size) (fun v wz => 2 * leftN (seenOf wz Z) n + lenOf v)
      case atStart =>
        obtain ⟨f1, f2, f3, f4⟩ := HF1.out
        exact ⟨fun _ => false, [a], f2, f1, WalkT.begin han, by have := leftN_le (fun _ => false) n; simp; omega, HWR.out ▸ f3, f4⟩
      case round =>
        clear HF1
        obtain ⟨S, todo, hrow, hbits, hwk, hms, hbz, hzs⟩ := hrel
        have HBits := hideIt hbits
        have HBz := hideIt hbz
        have HWk := hideIt hwk
        have HMs := hideIt hms
        have HM0 : Hid (2 * leftN (seenOf wr Z) n + lenOf u8 = 2 * leftN S n + todo.length) := by
          show 2 * leftN (seenOf wr Z) n + lenOf u8 = 2 * leftN S n + todo.length
          rw [seenOf_bits hbits, hrow.lenOf, List.length_map]
        clear hbits hbz hwk hms
        cases todo with
        | nil =>
          obtain ⟨va, vc, rfl⟩ := hrow.slice
          rw [List.map_nil, List.length_nil]
          have HOv : Hid (∀ k, k < n → (S k = true ↔ Way R n a k)) := fun k hk => HWk.out.over hk
          obtain ⟨g1, g2, g3, g4⟩ := HFr.out _ HBz.out
          have HO2 := hideIt g2
          have HG1 := hideIt g1
          have HLt := hideIt g3
          have HZ4 := hideIt g4
          clear g1 g2 g3 hrow
          go_wp2_with (at_builtin; refine wpList_append_rowG rfl _ _ rfl w.heap.size _ _ rfl ((HO2.out.row).block (fun k hk => Below.heap_alloc _ _ k (HO2.out.row.lt k hk).2)) wr.heap.size 1 (.slice (some ⟨Z, 0, none⟩) n n) rfl rfl ?c1 ?c2 ?c3 ?_)
          case c1 => simp
          case c2 => simp; omega
          case c3 => have := HG1.out.size; simp; omega
          intro v' w3 ht
          have HO3 : Hid (OutAt w3 w.heap.size n v' (gs ++ [Z]) (fun i => if i = gs.length then S else A i)) :=
            (HO2.out.below (belA (Below.refl _ _) _) (Nat.le_refl _)).more (HBits.out.below (belA (Below.refl _ _) _) HBits.out.lt) HZ4.out (fun e => by have := HLt.out Z e; omega) ht
          have HB3 : Hid (Below w.heap.size w w3) := (belA HG1.out _).grown ht.grown (by have := HG1.out.size; simp; omega) (fun k hk => (HO2.out.row.lt k hk).1)
          have HA3 : Hid (∀ i k, i < a + 1 → k < n → ((if i = gs.length then S else A i) k = true ↔ Way R n i k)) := fun i k hi hk => by
            by_cases e : i = gs.length
            · rw [if_pos e, e, hgs]; exact HOv.out k hk
            · rw [if_neg e]; exact HA.out i k (by omega) hk
          have HL3 : Hid ((gs ++ [Z]).length = a + 1) := by show (gs ++ [Z]).length = a + 1; rw [List.length_append, hgs]; rfl
          clear ht
          go_wp2
          go_roundw
          case rel => exact ⟨a + 1, _, _, by omega, by go_num, HL3.out, HO3.out, HA3.out, HB3.out⟩
          case measure => simp [intOf]; omega
        | cons i rest =>
          rw [map_cons_nat] at hrow
          obtain ⟨hin, _⟩ := HWk.out.mem i (by simp)
          have HWM := hideIt HWk.out.take
          have hrl : rest.length ≤ 200 := by have := HMs.out; simp at this; omega
          rcases hrow with ⟨_, h⟩ | ⟨g, off, cap, cur, hv, hgb, hgh, h1, h2, h3, h4⟩
          · cases h
          have HR0 : Hid (RowAt wr (Z + 1) (.slice (some ⟨g, off, none⟩) ((i : Int) :: rest.map fun q : Nat => (q : Int)).length cap) ((i : Int) :: rest.map fun q : Nat => (q : Int))) := .inr ⟨g, off, cap, cur, rfl, hgb, hgh, h1, h2, h3, h4⟩
          have HR1 := hideIt (HR0.out.drop1 (by simp))
          have c1 := h4 0 (by simp)
          rw [Nat.add_zero, List.getElem_cons_zero] at c1
          have hcap : cap ≤ 9223372036854775807 := by unfold maxLen at h3; omega
          have hlen : ((i : Int) :: rest.map fun q : Nat => (q : Int)).length = rest.length + 1 := by simp
          rw [hlen] at hv h1 HR1
          have HMr : Hid (2 * leftN S n + rest.length < 2 * leftN (seenOf wr Z) n + lenOf u8 ∧ 2 * leftN S n + rest.length ≤ 2 * n + 1) := by
            show 2 * leftN S n + rest.length < 2 * leftN (seenOf wr Z) n + lenOf u8 ∧ 2 * leftN S n + rest.length ≤ 2 * n + 1
            have h5 := HM0.out
            have h6 := HMs.out
            simp at h5 h6
            omega
          subst hv
          rw [show (List.drop 1 ((i : Int) :: rest.map fun q : Nat => (q : Int))) = rest.map (fun q : Nat => (q : Int)) from rfl, show rest.length + 1 - 1 = rest.length from rfl] at HR1
          have k1 : (1 : Int) ≤ (rest.length : Int) + 1 := by omega
          have k2 : (rest.length : Int) + 1 ≤ (cap : Int) := by omega
          have k3 : (0 : Int) < (rest.length : Int) + 1 := by omega
          have k5 : (1 : Int) ≤ (cap : Int) := by omega
          clear HR0 HWk HM0 HMs h4 hgh h2 h3 hgb hlen
          obtain ⟨Q0, HQ⟩ : ∃ Q0, Hid (2 * leftN S n + rest.length ≤ Q0 ∧ Q0 < 2 * leftN (seenOf wr Z) n + lenOf (.slice (some ⟨g, off, none⟩) (rest.length + 1) cap) ∧ Q0 ≤ 2 * n + 1) := ⟨_, hideIt ⟨Nat.le_refl _, HMr.out⟩⟩
          clear HMr
          by_cases hc1 : cap = 1
          · subst hc1
            have HR2 : Hid (RowAt wr (Z + 1) (.slice (some ⟨g, off, none⟩) rest.length 0) (rest.map fun q : Nat => (q : Int))) := by
              have := HR1.out
              rw [if_pos rfl] at this
              exact this
            clear HR1 h1
            go_wp2
            clear k1 k2 k3 k5
            go_loopw [8, 28] (fun v q wz => ∃ (k : Nat) (S : Nat → Bool) (todo : List Nat), k ≤ n ∧ q = .int .i64 k ∧ RowAt wz (Z + 1) v (todo.map fun q : Nat => (q : Int)) ∧ BitsAt wz Z n S ∧ WalkM R n a i k S todo ∧ 2 * leftN S n + todo.length ≤ Q0 ∧ Below Z wr_ wz ∧ Z + 1 ≤ wz.heap.size) (fun _ q _ => n - (intOf q).toNat)
            case atStart => exact ⟨0, S, rest, Nat.zero_le _, rfl, HR2.out, HBits.out, HWM.out, HQ.out.1, HBz.out, hzs⟩
            case round =>
              clear HR2 HBits HWM HBz hzs hrl
              obtain ⟨k, S, todo, hk, rfl, hrow, hbits, hwm, hms, hbz, hzs⟩ := hrel
              have HRow := hideIt hrow
              have HBits := hideIt hbits
              have HWM := hideIt hwm
              have HMs := hideIt hms
              have HBz := hideIt hbz
              have htl : todo.length ≤ 200 := by have := HQ.out.2.2; omega
              clear hrow hbits hwm hms hbz
              by_cases hkn : k < n
              · have HCa := hideIt (HC.out wr i k (HFr.out _ HBz.out).1 hin hkn)
                cases hR : R i k
                · rw [hR] at HCa
                  have R1 := hideIt (HWM.out.skip (by rw [hR]; rfl))
                  clear hR
                  go_wp2_with (go_at_call 28; refine HCa.out.mono ?_; rintro e w2 ⟨rfl, hb2⟩)
                  go_roundw
                  case rel => exact ⟨k + 1, S, todo, by omega, by go_num, HRow.out.belowR hb2, HBits.out.below hb2 HBits.out.lt, R1.out, HMs.out, HBz.out.trans (hb2.mono (Nat.le_of_lt HBits.out.lt)), Nat.le_trans hzs hb2.size⟩
                  case measure => simp [intOf]; omega
                · rw [hR] at HCa
                  cases hS : S k
                  · have hRS : (R i k && !S k) = true := by rw [hR, hS]; rfl
                    have R1 := hideIt (HWM.out.go hkn hRS)
                    have R2 : Hid (2 * leftN (putB S k) n + (todo ++ [k]).length ≤ Q0) := by
                      show 2 * leftN (putB S k) n + (todo ++ [k]).length ≤ Q0
                      have h1 := (leftN_put hS n).2 hkn
                      have h2 := HMs.out
                      rw [List.length_append, List.length_singleton]
                      omega
                    have HK : Hid (∀ w2, Below wr.heap.size wr w2 → w2.cell? ⟨Z, k, none⟩ = some (.bool false) ∧ w2.frozen? ⟨Z, k, none⟩ = false ∧ BitsAt w2 Z n S ∧ RowAt w2 (Z + 1) u8 (todo.map fun q : Nat => (q : Int)) ∧ Below Z wr_ w2 ∧ Z + 1 ≤ w2.heap.size) := fun w2 hb2 => by
                      have hbb := HBits.out.below hb2 HBits.out.lt
                      exact ⟨by rw [hbb.bit k hkn, hS], hbb.fz k, hbb, HRow.out.belowR hb2, HBz.out.trans (hb2.mono (Nat.le_of_lt HBits.out.lt)), Nat.le_trans hzs hb2.size⟩
                    clear hR hS hRS
                    go_wp2_with (first | (go_at_call 28; refine HCa.out.mono ?_; rintro e w2 ⟨rfl, hb2⟩; obtain ⟨k1, k2, hbb, hrr, hbz2, hzs2⟩ := HK.out w2 hb2; have HBB := hideIt hbb; have HRR := hideIt hrr; have HBZ2 := hideIt hbz2; clear hbb hrr hbz2) | (at_builtin; refine wpList_append_row rfl _ _ rfl (Z + 1) u8 (todo.map fun q : Nat => (q : Int)) rfl ((HRR.out.setOther (p := ⟨Z, k, none⟩) (Nat.lt_succ_self Z) (.bool true)).belowR (belA (Below.refl _ _) _)) w2.heap.size 1 (k : Int) rfl ?c1 ?c2 ?c3 ?_))
                    case c1 => exact cell_new_set w2 Z k
                    case c2 => simp; omega
                    case c3 => simp; omega
                    intro v' w3 ht
                    obtain ⟨g1, g2, g3, g4⟩ := step_seen HBB.out hkn HRR.out HBZ2.out ht
                    have HG1 := hideIt g1
                    have HG2 : Hid (RowAt w3 (Z + 1) v' ((todo ++ [k]).map fun q : Nat => (q : Int))) := by
                      show RowAt w3 (Z + 1) v' ((todo ++ [k]).map fun q : Nat => (q : Int))
                      rw [List.map_append]; exact g2
                    have HG3 := hideIt g3
                    have hg4 : Z + 1 ≤ w3.heap.size := Nat.le_trans hzs2 g4
                    clear ht g1 g2 g3 g4
                    go_wp2
                    go_roundw
                    case rel => exact ⟨k + 1, _, _, by omega, by go_num, HG2.out, HG1.out, R1.out, R2.out, HG3.out, hg4⟩
                    case measure => simp [intOf]; omega
                  · have R1 := hideIt (HWM.out.skip (by rw [hS]; simp))
                    have HK : Hid (∀ w2, Below wr.heap.size wr w2 → w2.cell? ⟨Z, k, none⟩ = some (.bool true)) := fun w2 hb2 => by
                      rw [(HBits.out.below hb2 HBits.out.lt).bit k hkn, hS]
                    clear hR hS
                    go_wp2_with (go_at_call 28; refine HCa.out.mono ?_; rintro e w2 ⟨rfl, hb2⟩; have k1 := HK.out w2 hb2)
                    go_roundw
                    case rel => exact ⟨k + 1, S, todo, by omega, by go_num, HRow.out.belowR hb2, HBits.out.below hb2 HBits.out.lt, R1.out, HMs.out, HBz.out.trans (hb2.mono (Nat.le_of_lt HBits.out.lt)), Nat.le_trans hzs hb2.size⟩
                    case measure => simp [intOf]; omega
              · obtain rfl : k = n := by omega
                have R1 := hideIt HWM.out.close
                have R2 : Hid (2 * leftN (seenOf wr Z) k + lenOf u8 = 2 * leftN S k + todo.length) := by
                  show 2 * leftN (seenOf wr Z) k + lenOf u8 = 2 * leftN S k + todo.length
                  rw [seenOf_bits HBits.out, HRow.out.lenOf, List.length_map]
                go_wp2
                go_roundw
                case rel => exact ⟨S, todo, HRow.out, HBits.out, R1.out, by have := HMs.out; have := HQ.out.2.2; omega, HBz.out, hzs⟩
                case measure =>
                  have h1 := R2.out
                  have h2 := HMs.out
                  have h3 := HQ.out.2.1
                  first | omega | (simp; omega)
          · have HR2 : Hid (RowAt wr (Z + 1) (.slice (some ⟨g, off + 1, none⟩) rest.length (cap - 1)) (rest.map fun q : Nat => (q : Int))) := by
              have := HR1.out
              rw [if_neg hc1] at this
              exact this
            clear HR1 h1
            go_wp2
            clear k1 k2 k3 k5 hc1
            go_loopw [8, 28] (fun v q wz => ∃ (k : Nat) (S : Nat → Bool) (todo : List Nat), k ≤ n ∧ q = .int .i64 k ∧ RowAt wz (Z + 1) v (todo.map fun q : Nat => (q : Int)) ∧ BitsAt wz Z n S ∧ WalkM R n a i k S todo ∧ 2 * leftN S n + todo.length ≤ Q0 ∧ Below Z wr_ wz ∧ Z + 1 ≤ wz.heap.size) (fun _ q _ => n - (intOf q).toNat)
            case atStart => exact ⟨0, S, rest, Nat.zero_le _, rfl, HR2.out, HBits.out, HWM.out, HQ.out.1, HBz.out, hzs⟩
            case round =>
              clear HR2 HBits HWM HBz hzs hrl
              obtain ⟨k, S, todo, hk, rfl, hrow, hbits, hwm, hms, hbz, hzs⟩ := hrel
              have HRow := hideIt hrow
              have HBits := hideIt hbits
              have HWM := hideIt hwm
              have HMs := hideIt hms
              have HBz := hideIt hbz
              have htl : todo.length ≤ 200 := by have := HQ.out.2.2; omega
              clear hrow hbits hwm hms hbz
              by_cases hkn : k < n
              · have HCa := hideIt (HC.out wr i k (HFr.out _ HBz.out).1 hin hkn)
                cases hR : R i k
                · rw [hR] at HCa
                  have R1 := hideIt (HWM.out.skip (by rw [hR]; rfl))
                  clear hR
                  go_wp2_with (go_at_call 28; refine HCa.out.mono ?_; rintro e w2 ⟨rfl, hb2⟩)
                  go_roundw
                  case rel => exact ⟨k + 1, S, todo, by omega, by go_num, HRow.out.belowR hb2, HBits.out.below hb2 HBits.out.lt, R1.out, HMs.out, HBz.out.trans (hb2.mono (Nat.le_of_lt HBits.out.lt)), Nat.le_trans hzs hb2.size⟩
                  case measure => simp [intOf]; omega
                · rw [hR] at HCa
                  cases hS : S k
                  · have hRS : (R i k && !S k) = true := by rw [hR, hS]; rfl
                    have R1 := hideIt (HWM.out.go hkn hRS)
                    have R2 : Hid (2 * leftN (putB S k) n + (todo ++ [k]).length ≤ Q0) := by
                      show 2 * leftN (putB S k) n + (todo ++ [k]).length ≤ Q0
                      have h1 := (leftN_put hS n).2 hkn
                      have h2 := HMs.out
                      rw [List.length_append, List.length_singleton]
                      omega
                    have HK : Hid (∀ w2, Below wr.heap.size wr w2 → w2.cell? ⟨Z, k, none⟩ = some (.bool false) ∧ w2.frozen? ⟨Z, k, none⟩ = false ∧ BitsAt w2 Z n S ∧ RowAt w2 (Z + 1) u8 (todo.map fun q : Nat => (q : Int)) ∧ Below Z wr_ w2 ∧ Z + 1 ≤ w2.heap.size) := fun w2 hb2 => by
                      have hbb := HBits.out.below hb2 HBits.out.lt
                      exact ⟨by rw [hbb.bit k hkn, hS], hbb.fz k, hbb, HRow.out.belowR hb2, HBz.out.trans (hb2.mono (Nat.le_of_lt HBits.out.lt)), Nat.le_trans hzs hb2.size⟩
                    clear hR hS hRS
                    go_wp2_with (first | (go_at_call 28; refine HCa.out.mono ?_; rintro e w2 ⟨rfl, hb2⟩; obtain ⟨k1, k2, hbb, hrr, hbz2, hzs2⟩ := HK.out w2 hb2; have HBB := hideIt hbb; have HRR := hideIt hrr; have HBZ2 := hideIt hbz2; clear hbb hrr hbz2) | (at_builtin; refine wpList_append_row rfl _ _ rfl (Z + 1) u8 (todo.map fun q : Nat => (q : Int)) rfl ((HRR.out.setOther (p := ⟨Z, k, none⟩) (Nat.lt_succ_self Z) (.bool true)).belowR (belA (Below.refl _ _) _)) w2.heap.size 1 (k : Int) rfl ?c1 ?c2 ?c3 ?_))
                    case c1 => exact cell_new_set w2 Z k
                    case c2 => simp; omega
                    case c3 => simp; omega
                    intro v' w3 ht
                    obtain ⟨g1, g2, g3, g4⟩ := step_seen HBB.out hkn HRR.out HBZ2.out ht
                    have HG1 := hideIt g1
                    have HG2 : Hid (RowAt w3 (Z + 1) v' ((todo ++ [k]).map fun q : Nat => (q : Int))) := by
                      show RowAt w3 (Z + 1) v' ((todo ++ [k]).map fun q : Nat => (q : Int))
                      rw [List.map_append]; exact g2
                    have HG3 := hideIt g3
                    have hg4 : Z + 1 ≤ w3.heap.size := Nat.le_trans hzs2 g4
                    clear ht g1 g2 g3 g4
                    go_wp2
                    go_roundw
                    case rel => exact ⟨k + 1, _, _, by omega, by go_num, HG2.out, HG1.out, R1.out, R2.out, HG3.out, hg4⟩
                    case measure => simp [intOf]; omega
                  · have R1 := hideIt (HWM.out.skip (by rw [hS]; simp))
                    have HK : Hid (∀ w2, Below wr.heap.size wr w2 → w2.cell? ⟨Z, k, none⟩ = some (.bool true)) := fun w2 hb2 => by
                      rw [(HBits.out.below hb2 HBits.out.lt).bit k hkn, hS]
                    clear hR hS
                    go_wp2_with (go_at_call 28; refine HCa.out.mono ?_; rintro e w2 ⟨rfl, hb2⟩; have k1 := HK.out w2 hb2)
                    go_roundw
                    case rel => exact ⟨k + 1, S, todo, by omega, by go_num, HRow.out.belowR hb2, HBits.out.below hb2 HBits.out.lt, R1.out, HMs.out, HBz.out.trans (hb2.mono (Nat.le_of_lt HBits.out.lt)), Nat.le_trans hzs hb2.size⟩
                    case measure => simp [intOf]; omega
              · obtain rfl : k = n := by omega
                have R1 := hideIt HWM.out.close
                have R2 : Hid (2 * leftN (seenOf wr Z) k + lenOf u8 = 2 * leftN S k + todo.length) := by
                  show 2 * leftN (seenOf wr Z) k + lenOf u8 = 2 * leftN S k + todo.length
                  rw [seenOf_bits HBits.out, HRow.out.lenOf, List.length_map]
                go_wp2
                go_roundw
                case rel => exact ⟨S, todo, HRow.out, HBits.out, R1.out, by have := HMs.out; have := HQ.out.2.2; omega, HBz.out, hzs⟩
                case measure =>
                  have h1 := R2.out
                  have h2 := HMs.out
                  have h3 := HQ.out.2.1
                  first | omega | (simp; omega)
    · obtain rfl : a = n := by omega
      go_wp2
      go_ret
      exact ⟨_, gs, A, rfl, HOut.out, hgs, HA.out, HB.out⟩

end Go.Proofs.YtfojmbbhcmeejaaDoor

namespace Go.Proofs.YtfojmbbhcmeejaaDoor
open Go.RowKit

set_option maxHeartbeats 400000 in
theorem rkCheck_none (a : Option Addr) (cap : Nat) (w : World) : Calls Tryd.prog 9 #[.slice a 0 cap] w fun e w' => e = .returned (.int .i64 0) ∧ Below w.heap.size w w' := by
  go_enter Tryd.func9, Tryd.ntmps9
  go_wp2_with (go_at_call 25; refine (opsCheck_none a cap _).mono ?_; rintro e w' ⟨rfl, rfl⟩)
  refine wp_loop_rounds 1 ?_
  rw [rounds_succ]
  go_wp2
  go_ret
  exact ⟨rfl, Below.refl _ _⟩

theorem rkCheck_any (l : List Opn) (a : Option Addr) (cap : Nat) (w : World) (hlen : l.length ≤ 60) (hcap : l.length ≤ cap) (hl : OpsQ w a l) :
    Calls Tryd.prog 9 #[.slice a l.length cap] w fun e w' => ∃ n, e = .returned (.int .i64 n) ∧ KTold l n ∧ Below w.heap.size w w' := by
  rcases hl with rfl | ⟨b, off, rfl, hb, hl⟩
  · exact (rkCheck_none a cap w).mono fun e w' ⟨he, hw⟩ => ⟨0, he, kTold_all told_nilQ (fun j hj => absurd hj (by simp)), hw⟩
  · exact rkCheck_some l b off cap w hlen hcap hl hb

/-- What Ahead7 tells. -/
def A7Told (l : List Opn) (w : World) (e : Ending) (w' : World) : Prop :=
  ∃ v gs A, e = .returned v ∧ OutAt w' w.heap.size l.length v gs A ∧ gs.length = l.length ∧ (∀ i k, i < l.length → k < l.length → (A i k = true ↔ Way (roadD l) l.length i k)) ∧ Below w.heap.size w w'

set_option maxHeartbeats 400000 in
theorem ahead7_any (l : List Opn) (a : Option Addr) (cap : Nat) (w : World) (hlen : l.length ≤ 60) (hl : OpsQ w a l) :
    Calls Tryd.prog 13 #[.slice a l.length cap] w fun e w' => A7Told l w e w' := by
  have hb : Below w.heap.size w (w.alloc (.cells #[.slice a l.length cap] 22)) := belA (Below.refl _ _) _
  have HC := hideIt (walks_any l.length (roadD l) w.heap.size (w.alloc (.cells #[.slice a l.length cap] 22)) hlen fun W i k hW hi hk =>
    roads_any l a cap w.heap.size W hlen (hl.below (belJ hb hW)) (by rw [hW.cell (p := ⟨w.heap.size, 0, none⟩) (by simp)]; simp) i k hi hk)
  clear hl
  go_enter Tryd.func13, Tryd.ntmps13
  go_wp2_with fail
  refine HC.out.mono ?_
  rintro e w2 ⟨v, gs, A, rfl, ho, hg, hA, hb2⟩
  have HO : Hid (OutAt w2 w.heap.size l.length v gs A) := ⟨ho.row.base hb.size, fun j hj => ⟨(ho.bits j hj).1, Nat.le_trans hb.size (ho.bits j hj).2.1, (ho.bits j hj).2.2⟩⟩
  clear ho
  go_wp2
  go_ret
  exact ⟨_, gs, A, rfl, HO.out, hg, hA, belJ hb hb2⟩

/-- A matrix, read. -/
def ReadM (w : World) (v : Value) (n : Nat) (A : Nat → Nat → Bool) : Prop :=
  ∃ a cap, v = .slice a n cap ∧ n ≤ cap ∧ ∀ i, i < n → ∃ g off r, a = some ⟨g, off, none⟩ ∧ w.cell? ⟨g, off + i, none⟩ = some (.slice (some ⟨r, 0, none⟩) n n) ∧ ∀ k, k < n → w.cell? ⟨r, k, none⟩ = some (.bool (A i k))
theorem readM_nil (w : World) (A : Nat → Nat → Bool) : ReadM w (.slice none 0 0) 0 A := ⟨none, 0, rfl, Nat.le_refl _, fun i hi => absurd hi (by omega)⟩
theorem MatAt.readM {w : World} {base B n : Nat} {rb : Nat → Nat} {M : Nat → Nat → Bool} (h : MatAt w base B n n rb M) : ReadM w (.slice (some ⟨B, 0, none⟩) n n) n M :=
  ⟨_, n, rfl, Nat.le_refl _, fun i hi => ⟨B, 0, rb i, rfl, by rw [Nat.zero_add]; exact h.head i hi, fun k hk => (h.row i hi).bit k hk⟩⟩
theorem OutAt.readM {w : World} {base n : Nat} {v : Value} {gs : List Nat} {A : Nat → Nat → Bool} (h : OutAt w base n v gs A) (hg : gs.length = n) : ReadM w v n A := by
  by_cases h0 : 0 < gs.length
  · obtain ⟨g, off, cap, e, hc, hr⟩ := h.read h0
    rw [hg] at e hc
    exact ⟨_, cap, e, hc, fun i hi => ⟨g, off, gs[i]'(by omega), rfl, (hr i (by omega)).1, (hr i (by omega)).2⟩⟩
  · obtain rfl : gs = [] := List.length_eq_zero_iff.1 (by omega)
    rcases h.row with ⟨rfl, _⟩ | ⟨g, off, cap, cur, rfl, _⟩
    · rw [← hg]; exact readM_nil w A
    · rw [← hg]; exact ⟨_, cap, rfl, Nat.zero_le _, fun i hi => absurd hi (by simp)⟩

set_option maxRecDepth 100000 in
set_option maxHeartbeats 1000000 in
theorem sameBools_any (n : Nat) (hn : n ≤ 60) (A : Nat → Nat → Bool) (v v' : Value) (w : World) (h : ReadM w v n A) (h' : ReadM w v' n A) :
    Calls Tryd.prog 15 #[v, v'] w fun e w' => e = .returned (.bool true) ∧ Below w.heap.size w w' := by
  obtain ⟨a, cap, rfl, hc, hr⟩ := h
  obtain ⟨a', cap', rfl, hc', hr'⟩ := h'
  have HR := hideIt hr
  have HR' := hideIt hr'
  have HD : Hid (∀ nq i, i < n → (∃ g off r, a = some ⟨g, off, none⟩ ∧ (w.drewN nq).cell? ⟨g, off + i, none⟩ = some (.slice (some ⟨r, 0, none⟩) n n) ∧ ∀ k, k < n → (w.drewN nq).cell? ⟨r, k, none⟩ = some (.bool (A i k))) ∧ ∃ g off r, a' = some ⟨g, off, none⟩ ∧ (w.drewN nq).cell? ⟨g, off + i, none⟩ = some (.slice (some ⟨r, 0, none⟩) n n) ∧ ∀ k, k < n → (w.drewN nq).cell? ⟨r, k, none⟩ = some (.bool (A i k))) := fun nq i hi => ⟨HR.out i hi, HR'.out i hi⟩
  clear hr hr' HR HR'
  go_enter Tryd.func15, Tryd.ntmps15
  go_wp2
  go_loopw [5] (fun i wr => ∃ (k nq : Nat), k ≤ n ∧ i = .int .i64 k ∧ wr = w.drewN nq) (fun i _ => n - (intOf i).toNat)
  case atStart => exact ⟨0, 0, Nat.zero_le _, rfl, rfl⟩
  case round =>
    obtain ⟨i, nq, hi, rfl, hwr⟩ := hrel
    by_cases hin : i < n
    · obtain ⟨⟨g, off, r, rfl, c1, c2⟩, ⟨g', off', r', rfl, d1, d2⟩⟩ := HD.out nq i hin
      have HCC : Hid (∀ m, (w.drewN m).cell? ⟨g, off + i, none⟩ = some (.slice (some ⟨r, 0, none⟩) n n) ∧ (w.drewN m).cell? ⟨g', off' + i, none⟩ = some (.slice (some ⟨r', 0, none⟩) n n) ∧ ∀ k, k < n → (w.drewN m).cell? ⟨r, k, none⟩ = some (.bool (A i k)) ∧ (w.drewN m).cell? ⟨r', k, none⟩ = some (.bool (A i k))) := fun m => ⟨c1, d1, fun k hk => ⟨c2 k hk, d2 k hk⟩⟩
      have HMore : Hid (∀ m, ∃ m', wr.drewN m = w.drewN m') := fun m => ⟨nq + m, by rw [hwr]; simp [World.drewN, Nat.add_assoc]⟩
      rw [← hwr] at c1 d1
      clear c2 d2 hwr
      go_wp2_with fail
      go_big_quiet (fail)
      go_wp2
      go_loopw [6] (fun q wz => ∃ (k m : Nat), k ≤ n ∧ q = .int .i64 k ∧ wz = w.drewN m) (fun q _ => n - (intOf q).toNat)
      case atStart =>
        obtain ⟨m', hm'⟩ := HMore.out _
        exact ⟨0, m', Nat.zero_le _, rfl, hm'⟩
      case round =>
        clear HMore c1 d1
        obtain ⟨k, m, hk, rfl, hwz⟩ := hrel
        have HMore : Hid (∀ m2, ∃ m', wr.drewN m2 = w.drewN m') := fun m2 => ⟨m + m2, by rw [hwz]; simp [World.drewN, Nat.add_assoc]⟩
        by_cases hkn : k < n
        · obtain ⟨c1, d1, hh⟩ := HCC.out m
          obtain ⟨c2, d2⟩ := hh k hkn
          rw [← hwz] at c1 d1 c2 d2
          clear hwz hh
          have hb : (A i k != A i k) = false := by simp
          go_wp2_with fail
          go_big_quiet (fail)
          go_wp2
          go_roundw
          case rel =>
            obtain ⟨m', hm'⟩ := HMore.out _
            exact ⟨k + 1, m', by omega, by go_num, hm'⟩
          case measure => simp [intOf]; omega
        · obtain ⟨c1, _, _⟩ := HCC.out m
          rw [← hwz] at c1
          have HWZ := hideIt hwz
          clear hwz
          go_wp2
          go_roundw
          case rel => exact ⟨i + 1, m, by omega, by go_num, HWZ.out⟩
          case measure => simp [intOf]; omega
    · have HB : Hid (Below w.heap.size w wr) := by rw [hwr]; exact below_drewN (Below.refl _ _) _
      clear hwr
      go_wp2
      go_ret
      exact ⟨rfl, HB.out⟩

end Go.Proofs.YtfojmbbhcmeejaaDoor
