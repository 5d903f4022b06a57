/-
  Rows of bools in memory: a matrix that is one's own.
  A call of a queue, of a stack: what is one's own is appended to, or shortened, in place.
  A row of rows in memory that is appended to: what a walk over roads leaves.
  The document's own walks over roads, walked; Ahead7.
-/
import Derived.Test.YtaopigjhdkdklaaDoorBsG
import Derived.Laws.MakeOwn
import Derived.Deep.QuietTactic
import Derived.BigQuiet
import Derived.ArgAppend
import Derived.Lib.JoinLaws
import Derived.Deep.RegionHeld3
namespace Go.Proofs.YtaopigjhdkdklaaDoor
open Go.RowKit

theorem offNe {g a b : Nat} (h : a ≠ b) : (⟨g, a, none⟩ : Addr) ≠ ⟨g, b, none⟩ := fun e => h (by injection e)
theorem blkNe {g g' a b : Nat} (h : g ≠ g') : (⟨g, a, none⟩ : Addr) ≠ ⟨g', b, none⟩ := fun e => h (by injection e)

/-- A row of bools in a block of its own. -/
structure BitsAt (w : World) (g n : Nat) (f : Nat → Bool) : Prop where
  blk : ∃ cur, w.heap[g]? = some (.cells cur 4 (0, 0))
  bit : ∀ k, k < n → w.cell? ⟨g, k, none⟩ = some (.bool (f k))
theorem BitsAt.lt {w : World} {g n : Nat} {f : Nat → Bool} (h : BitsAt w g n f) : g < w.heap.size := by
  obtain ⟨cur, hc⟩ := h.blk
  exact lt_of_heap hc
theorem BitsAt.fz {w : World} {g n : Nat} {f : Nat → Bool} (h : BitsAt w g n f) (i : Nat) : w.frozen? ⟨g, i, none⟩ = false := by
  obtain ⟨cur, hc⟩ := h.blk
  exact frozen_of_row w g i cur 4 hc
theorem BitsAt.block {w w' : World} {g n : Nat} {f : Nat → Bool} (h : BitsAt w g n f) (hb : w'.heap[g]? = w.heap[g]?) : BitsAt w' g n f := by
  obtain ⟨cur, hc⟩ := h.blk
  exact ⟨⟨cur, hb.trans hc⟩, fun k hk => (World.cell?_of_block (a := ⟨g, k, none⟩) hb).trans (h.bit k hk)⟩
theorem BitsAt.below {B : Nat} {w w' : World} {g n : Nat} {f : Nat → Bool} (h : BitsAt w g n f) (hb : Below B w w') (hg : g < B) : BitsAt w' g n f := h.block (hb.block g hg)
theorem BitsAt.same {w : World} {g n : Nat} {f f' : Nat → Bool} (h : BitsAt w g n f) (e : ∀ k, k < n → f k = f' k) : BitsAt w g n f' := ⟨h.blk, fun k hk => by rw [← e k hk]; exact h.bit k hk⟩
theorem BitsAt.put {w : World} {g n : Nat} {f : Nat → Bool} (h : BitsAt w g n f) {m : Nat} (hm : m < n) (x : Bool) : BitsAt (w.setCell ⟨g, m, none⟩ (.bool x)) g n (fun k => if k = m then x else f k) := by
  obtain ⟨cur, hc⟩ := h.blk
  obtain ⟨cur', hc', _⟩ := heap_setCell hc m (.bool x)
  refine ⟨⟨cur', hc'⟩, fun k hk => ?_⟩
  by_cases e : k = m
  · subst e
    rw [if_pos rfl]
    exact World.cell?_setCell_same _ _ _ (h.bit k hk)
  · rw [if_neg e, World.cell?_setCell_other _ _ _ _ (offNe (Ne.symm e))]
    exact h.bit k hk
theorem BitsAt.other {w : World} {g n : Nat} {f : Nat → Bool} (h : BitsAt w g n f) {p : Addr} (hp : g ≠ p.block) (u : Value) : BitsAt (w.setCell p u) g n f := h.block (Below.heap_setCell w p u g hp)

theorem info4 : (Tryd.prog.info? 4).map (fun i => (i.zero, i.size, i.bytes)) = some (some (.bool false), 1, 1) := by kernel_rfl
theorem info46 : (Tryd.prog.info? 46).map (fun i => (i.zero, i.size, i.bytes)) = some (some (.slice none 0 0), 1, 24) := by kernel_rfl
theorem made_bits (w : World) (n : Nat) (hn : n ≤ 60) : (Instr.makeSlice 46 (.int .i64 (n : Int)) (.int .i64 (n : Int))).run Tryd.prog w = .ok (.slice (some ⟨w.heap.size, 0, none⟩) n n) (w.alloc (.cells (madeCells #[.bool false] n) 4)) := by
  obtain ⟨i, hi, hz, hs, hb⟩ := info_parts' info4
  have := run_make (P := Tryd.prog) w 46 4 i (.bool false) Tryd.underlying46 hi hz .i64 .i64 (n : Int) (n : Int) (by omega) (Int.le_refl _) (by rw [hb]; omega) (by omega)
  have e : (Value.bool false).cells = #[.bool false] := rfl
  rw [e] at this
  simpa [hs] using this
theorem made_rows (w : World) (n : Nat) (hn : n ≤ 60) : (Instr.makeSlice 55 (.int .i64 (n : Int)) (.int .i64 (n : Int))).run Tryd.prog w = .ok (.slice (some ⟨w.heap.size, 0, none⟩) n n) (w.alloc (.cells (madeCells #[.slice none 0 0] n) 46)) := by
  obtain ⟨i, hi, hz, hs, hb⟩ := info_parts' info46
  have := run_make (P := Tryd.prog) w 55 46 i (.slice none 0 0) Tryd.underlying55 hi hz .i64 .i64 (n : Int) (n : Int) (by omega) (Int.le_refl _) (by rw [hb]; omega) (by omega)
  have e : (Value.slice none 0 0).cells = #[.slice none 0 0] := rfl
  rw [e] at this
  simpa [hs] using this
theorem bits_made (w : World) (n : Nat) : BitsAt (w.alloc (.cells (madeCells #[.bool false] n) 4)) w.heap.size n (fun _ => false) :=
  ⟨⟨_, heap_alloc_new w _⟩, fun k hk => cell_made w (.bool false) n 4 k hk⟩

/-- A matrix of bools: its first m rows are laid; all its blocks lie from base on. -/
structure MatAt (w : World) (base B n m : Nat) (rb : Nat → Nat) (M : Nat → Nat → Bool) : Prop where
  blk : ∃ cur, w.heap[B]? = some (.cells cur 46 (0, 0))
  lo : base ≤ B
  room : ∀ i, i < n → ∃ v, w.cell? ⟨B, i, none⟩ = some v
  few : m ≤ n
  head : ∀ i, i < m → w.cell? ⟨B, i, none⟩ = some (.slice (some ⟨rb i, 0, none⟩) n n)
  row : ∀ i, i < m → BitsAt w (rb i) n (M i)
  from_ : ∀ i, i < m → base ≤ rb i ∧ rb i ≠ B
  inj : ∀ i j, i < m → j < m → rb i = rb j → i = j

section
variable {w : World} {base B n m : Nat} {rb : Nat → Nat} {M : Nat → Nat → Bool}
theorem MatAt.lt (h : MatAt w base B n m rb M) : B < w.heap.size := by
  obtain ⟨cur, hc⟩ := h.blk
  exact lt_of_heap hc
theorem MatAt.fz (h : MatAt w base B n m rb M) (i : Nat) : w.frozen? ⟨B, i, none⟩ = false := by
  obtain ⟨cur, hc⟩ := h.blk
  exact frozen_of_row w B i cur 46 hc
theorem MatAt.below {w' : World} (h : MatAt w base B n m rb M) (hb : Below w.heap.size w w') : MatAt w' base B n m rb M := by
  obtain ⟨cur, hc⟩ := h.blk
  have hB := h.lt
  have hcell : ∀ i, w'.cell? ⟨B, i, none⟩ = w.cell? ⟨B, i, none⟩ := fun i => hb.cell (p := ⟨B, i, none⟩) hB
  exact ⟨⟨cur, (hb.block B hB).trans hc⟩, h.lo, fun i hi => by rw [hcell]; exact h.room i hi, h.few, fun i hi => by rw [hcell]; exact h.head i hi, fun i hi => (h.row i hi).below hb (h.row i hi).lt, h.from_, h.inj⟩
theorem MatAt.alloc (h : MatAt w base B n m rb M) (o : Obj) : MatAt (w.alloc o) base B n m rb M := h.below ((Below.refl _ _).alloc (Nat.le_refl _) o)
theorem MatAt.drew (h : MatAt w base B n m rb M) : MatAt w.drew base B n m rb M := h.below (Below.refl _ _).drew
theorem MatAt.same {M' : Nat → Nat → Bool} (h : MatAt w base B n m rb M) (e : ∀ i k, i < m → k < n → M i k = M' i k) : MatAt w base B n m rb M' :=
  ⟨h.blk, h.lo, h.room, h.few, h.head, fun i hi => (h.row i hi).same fun k hk => e i k hi hk, h.from_, h.inj⟩
theorem MatAt.mono {base' : Nat} (h : MatAt w base B n m rb M) (hb : base' ≤ base) : MatAt w base' B n m rb M :=
  ⟨h.blk, Nat.le_trans hb h.lo, h.room, h.few, h.head, h.row, fun i hi => ⟨Nat.le_trans hb (h.from_ i hi).1, (h.from_ i hi).2⟩, h.inj⟩
theorem MatAt.put (h : MatAt w base B n m rb M) {i k : Nat} (hi : i < m) (hk : k < n) (x : Bool) :
    MatAt (w.setCell ⟨rb i, k, none⟩ (.bool x)) base B n m rb (fun a b => if a = i ∧ b = k then x else M a b) := by
  obtain ⟨cur, hc⟩ := h.blk
  have hne := (h.from_ i hi).2
  have hcell : ∀ j, (w.setCell ⟨rb i, k, none⟩ (.bool x)).cell? ⟨B, j, none⟩ = w.cell? ⟨B, j, none⟩ := fun j => World.cell?_setCell_other _ _ _ _ (blkNe hne)
  refine ⟨⟨cur, (Below.heap_setCell w _ _ B (Ne.symm hne)).trans hc⟩, h.lo, fun j hj => by rw [hcell]; exact h.room j hj, h.few, fun j hj => by rw [hcell]; exact h.head j hj, fun j hj => ?_, h.from_, h.inj⟩
  by_cases e : j = i
  · subst e
    exact ((h.row j hj).put hk x).same fun b hb => by simp
  · exact ((h.row j hj).other (p := ⟨rb i, k, none⟩) (fun e' => e (h.inj j i hj hi e')) _).same fun b hb => by simp [e]
/-- One row more: a new block, its head stored. -/
theorem MatAt.add (h : MatAt w base B n m rb M) {g : Nat} {f : Nat → Bool} (hm : m < n) (hg : BitsAt w g n f) (hb : base ≤ g) (hne : g ≠ B) (hnew : ∀ i, i < m → rb i ≠ g) :
    MatAt (w.setCell ⟨B, m, none⟩ (.slice (some ⟨g, 0, none⟩) n n)) base B n (m + 1) (fun i => if i = m then g else rb i) (fun i => if i = m then f else M i) := by
  obtain ⟨cur, hc⟩ := h.blk
  obtain ⟨cur', hc', _⟩ := heap_setCell hc m (.slice (some ⟨g, 0, none⟩) n n)
  have hs : (w.setCell ⟨B, m, none⟩ (.slice (some ⟨g, 0, none⟩) n n)).cell? ⟨B, m, none⟩ = some (.slice (some ⟨g, 0, none⟩) n n) := by
    obtain ⟨v, hv⟩ := h.room m hm
    exact World.cell?_setCell_same _ _ _ hv
  have ho : ∀ i, i ≠ m → (w.setCell ⟨B, m, none⟩ (.slice (some ⟨g, 0, none⟩) n n)).cell? ⟨B, i, none⟩ = w.cell? ⟨B, i, none⟩ := fun i hi => World.cell?_setCell_other _ _ _ _ (offNe (Ne.symm hi))
  refine ⟨⟨cur', hc'⟩, h.lo, fun i hi => ?_, hm, fun i hi => ?_, fun i hi => ?_, fun i hi => ?_, fun i j hi hj => ?_⟩
  · by_cases e : i = m
    · subst e; exact ⟨_, hs⟩
    · rw [ho i e]; exact h.room i hi
  · by_cases e : i = m
    · subst e; rw [hs, if_pos rfl]
    · rw [ho i e, if_neg e]; exact h.head i (by omega)
  · by_cases e : i = m
    · subst e; simp only [if_pos]; exact hg.other (p := ⟨B, i, none⟩) hne _
    · simp only [if_neg e]; exact (h.row i (by omega)).other (p := ⟨B, m, none⟩) (h.from_ i (by omega)).2 _
  · by_cases e : i = m
    · simp only [e, if_true]; exact ⟨hb, hne⟩
    · simp only [if_neg e]; exact h.from_ i (by omega)
  · by_cases e : i = m
    · by_cases e' : j = m
      · intro _; omega
      · simp only [e, if_true, if_neg e']; exact fun k => absurd k.symm (hnew j (by omega))
    · by_cases e' : j = m
      · simp only [e', if_true, if_neg e]; exact fun k => absurd k (hnew i (by omega))
      · simp only [if_neg e, if_neg e']; exact h.inj i j (by omega) (by omega)
end
theorem mat_made (w : World) (n : Nat) : MatAt (w.alloc (.cells (madeCells #[.slice none 0 0] n) 46)) w.heap.size w.heap.size n 0 (fun _ => 0) (fun _ _ => false) :=
  ⟨⟨_, heap_alloc_new w _⟩, Nat.le_refl _, fun i hi => ⟨_, cell_made w _ n _ i hi⟩, Nat.zero_le _, fun i hi => absurd hi (by omega), fun i hi => absurd hi (by omega), fun i hi => absurd hi (by omega), fun i j hi => absurd hi (by omega)⟩

/-! ### the stages of a pass -/
def stg (M : Nat → Nat → Bool) (t i b : Nat) : Nat → Nat → Bool := fun a k => if a < i ∨ (a = i ∧ k < b) then warS M t a k else M a k
theorem stg_next (M : Nat → Nat → Bool) (t i b : Nat) : stg M t i b t b = M t b := by
  unfold stg
  split
  · exact warS_row M t b
  · rfl
theorem stg_own (M : Nat → Nat → Bool) (t i b : Nat) : stg M t i b i b = M i b := by
  unfold stg
  rw [if_neg (by omega)]
theorem stg_put {M : Nat → Nat → Bool} {t i b : Nat} (h : M i t = true) (a k : Nat) : (if a = i ∧ k = b then (M i b || M t b) else stg M t i b a k) = stg M t i (b + 1) a k := by
  unfold stg
  by_cases e : a = i ∧ k = b
  · obtain ⟨rfl, rfl⟩ := e
    rw [if_pos ⟨rfl, rfl⟩, if_pos (.inr ⟨rfl, by omega⟩)]
    unfold warS
    rw [h]; rfl
  · rw [if_neg e]
    by_cases e' : a < i ∨ (a = i ∧ k < b)
    · rw [if_pos e', if_pos (by omega)]
    · rw [if_neg e', if_neg (by omega)]
theorem stg_skip {M : Nat → Nat → Bool} {t i : Nat} (h : M i t = false) (a k : Nat) : stg M t i 0 a k = stg M t (i + 1) 0 a k := by
  unfold stg
  by_cases e : a = i
  · subst e
    rw [if_neg (by omega), if_pos (by omega)]
    unfold warS
    rw [h]; simp
  · by_cases e' : a < i
    · rw [if_pos (.inl e'), if_pos (by omega)]
    · rw [if_neg (by omega), if_neg (by omega)]
theorem stg_end {M : Nat → Nat → Bool} {t i n : Nat} (a k : Nat) (hk : k < n) : stg M t i n a k = stg M t (i + 1) 0 a k := by
  unfold stg
  by_cases e : a < i + 1
  · rw [if_pos (by omega), if_pos (.inl e)]
  · rw [if_neg (by omega), if_neg (by omega)]
theorem stg_all {M : Nat → Nat → Bool} {t n : Nat} (a k : Nat) (ha : a < n) : stg M t n 0 a k = warS M t a k := by
  unfold stg
  rw [if_pos (.inl ha)]

end Go.Proofs.YtaopigjhdkdklaaDoor

namespace Go.Proofs.YtaopigjhdkdklaaDoor
open Go.RowKit

/-- What a call leaves: the state that it made, in the same block or in one that is new; all else as it was. -/
structure Turned (w : World) (base : Nat) (v : Value) (w' : World) (v' : Value) (st' : List Int) : Prop where
  row : RowAt w' base v' st'
  grown : w.grownBy w' v.ownBlock
  own : ∀ k, v'.ownBlock = some k → v.ownBlock = some k ∨ w.heap.size ≤ k

theorem Turned.base_le {w : World} {base : Nat} {v : Value} {st : List Int} (h : RowAt w base v st) : ∀ k, v.ownBlock = some k → base ≤ k := fun k hk => (h.lt k hk).1

/-- One ahead of it that makes new blocks alone. -/
theorem Turned.behind {w w1 : World} {base : Nat} {v : Value} {w' : World} {v' : Value} {st' : List Int} (h : Turned w1 base v w' v' st') (hg : w.grownBy w1 none) : Turned w base v w' v' st' :=
  ⟨h.row, (hg.but _).trans h.grown, fun k hk => (h.own k hk).imp id (fun e => Nat.le_trans hg.size e)⟩

theorem RowAt.new {w w' : World} {base : Nat} {v : Value} {st : List Int} (h : RowAt w base v st) (hg : w.grownBy w' none) : RowAt w' base v st := h.kept hg (Classical.em _)
theorem turned_same {w : World} {base : Nat} {v : Value} {st : List Int} (h : RowAt w base v st) : Turned w base v w v st := ⟨h, grown_refl _ _, fun _ hk => .inl hk⟩


section
variable {w : World}
theorem wpList_append_row {ops : Array Oper} {rest : List Oper} {o : Oper} {a : Act} {Q : Exit → Act → World → Prop} (hgd : o.guard = none) (s x : Operand)
    (ho : o.op = .call { callee := .builtin .append, args := #[s, x], argTypes := #[52, 52] })
    (base : Nat) (v : Value) (st : List Int) (hs : a.eval s = v) (hrow : RowAt w base v st)
    (B c : Nat) (n : Int) (hx : a.eval x = .slice (some ⟨B, 0, none⟩) 1 c) (hn : w.cell? ⟨B, 0, none⟩ = some (.int .i64 n))
    (hlen : st.length ≤ 100000) (hbase : base ≤ w.heap.size)
    (h : ∀ v' w', Turned w base v w' v' (st ++ [n]) → wpList Tryd.prog ops Q rest (a.put o.dst v') w') : wpList Tryd.prog ops Q (o :: rest) a w := by
  obtain ⟨i, hi, hz, hsz, hby⟩ := info_parts' info3
  have hnews : ∀ j u, [Value.int .i64 n][j]? = some u → w.cell? ((⟨B, 0, none⟩ : Addr).add j) = some u := by
    intro j u hj
    match j, hj with
    | 0, hj => simp at hj; subst hj; simpa [Addr.add] using hn
  have hmk : ∀ v' w', w'.ownsRow w.heap.size 3 1 v' (st.length + 1) (st.map (Value.int .i64) ++ [.int .i64 n]) → w.grownBy w' none → Turned w base v w' v' (st ++ [n]) := by
    intro v' w' ho' hg
    have hr : RowAt w' w.heap.size v' (st ++ [n]) := rowAt_owns (by simpa using ho')
    exact ⟨hr.base hbase, hg.but _, fun k hk => .inr (hr.lt k hk).1⟩
  rcases hrow with ⟨rfl, rfl⟩ | ⟨g, off, cap, cur, rfl, hb, hg, h1, h2, h3, h4⟩
  · refine wpList_append_grows w hgd s x 52 ho 3 i _ 1 8 Tryd.underlying52 hi hz hsz hby rfl (by decide) none 0 0 [] hs (fun _ => ⟨rfl, rfl⟩) rfl (fun b hb => by cases hb) ⟨B, 0, none⟩ 1 c [.int .i64 n] hx rfl hnews (by simp [Value.oneCell']) (by decide) (by decide) (by decide) ?_
    intro v' w' ho' hg'
    exact h v' w' (hmk v' w' ho' hg')
  · by_cases hroom : st.length + 1 ≤ cap
    · refine wpList_append_room1 w hgd s x 52 52 ho 3 (.int .i64 0) 8 Tryd.underlying52 info3 g off st.length cap hs _ hx 1 [.int .i64 n]
        (Src.ofSlice w Tryd.underlying52 ⟨B, 0, none⟩ 1 c [.int .i64 n] (by simp) hnews (by simp [Value.oneCell'])) hroom
        (fun j hj => some_of_heap hg (by simp at hj; omega)) (fun j _ => unfrozen_of_heap hg _) ?_
      have hc : (w.setCells g (off + st.length) [.int .i64 n]).cell? ⟨g, off + st.length, none⟩ = some (.int .i64 n) := by
        simpa using World.cell?_setCells_in g [.int .i64 n] (off + st.length) w (fun j hj => some_of_heap hg (by simp at hj; omega)) 0 (by simp)
      refine h _ _ ⟨rowAt_put hb (heap_setCells _ _ _ _ hg) (by simpa using hroom) h2 h3 (fun j hj => ?_) (by simp), grown_setCells _ _ _ _, fun k hk => .inl hk⟩
      by_cases hj' : j < st.length
      · rw [List.getElem_append_left hj', World.cell?_setCells_out g _ _ _ _ (fun _ _ => .inl (by show off + j < off + st.length; omega))]
        exact h4 j hj'
      · obtain rfl : j = st.length := by simp at hj; omega
        rw [hc]; simp
    · refine wpList_append_grows w hgd s x 52 ho 3 i _ 1 8 Tryd.underlying52 hi hz hsz hby rfl (by decide) (some ⟨g, off, none⟩) st.length cap (st.map (Value.int .i64)) hs (fun e => by cases e) (by simp) (fun b hb j u hu => ?_) ⟨B, 0, none⟩ 1 c [.int .i64 n] hx rfl hnews (by simp [Value.oneCell']) (by omega) (by unfold maxLen; omega) (by omega) ?_
      · obtain rfl := Option.some.inj hb
        have hj : j < st.length := by
          have := (List.getElem?_eq_some_iff.1 hu).1
          simpa using this
        rw [List.getElem?_map, List.getElem?_eq_getElem hj] at hu
        simp at hu
        subst hu
        rw [Addr.add_lit]
        exact h4 j hj
      · intro v' w' ho' hg'
        exact h v' w' (hmk v' w' ho' hg')
end

theorem cell_new1 (w : World) (x : Value) : (w.alloc (.cells #[x] 3)).cell? ⟨w.heap.size, 0, none⟩ = some x := by simp

theorem queM_push {st : List Int} {k a : Int} (h : k = 9) : queM st k a = (st ++ [a], 0) := by simp [queM, h]
theorem queM_none {k a : Int} (h : k ≠ 9) : queM [] k a = ([], -1) := by simp [queM, h]
theorem queM_pop {st : List Int} {k a : Int} (h : k ≠ 9) (h0 : 0 < st.length) : queM st k a = (st.drop 1, st[0]) := by
  cases st with
  | nil => simp at h0
  | cons x r => simp [queM, h]
theorem staM_push {st : List Int} {k a : Int} (h : k = 9) : staM st k a = (st ++ [a], 0) := by simp [staM, h]
theorem staM_none {k a : Int} (h : k ≠ 9) : staM [] k a = ([], -1) := by simp [staM, h]
theorem staM_pop {st : List Int} {k a : Int} (h : k ≠ 9) (h0 : 0 < st.length) : staM st k a = (st.take (st.length - 1), st[st.length - 1]) := by
  have : st ≠ [] := fun e => by simp [e] at h0
  simp [staM, h, this, List.getD_eq_getElem?_getD, List.getElem?_eq_getElem (show st.length - 1 < st.length by omega)]

theorem RowAt.drop1 {w : World} {base g off cap : Nat} {st : List Int} (h : RowAt w base (.slice (some ⟨g, off, none⟩) st.length cap) st) (h0 : 0 < st.length) :
    RowAt w base (.slice (if cap = 1 then some ⟨g, off, none⟩ else some ⟨g, off + 1, none⟩) (st.length - 1) (cap - 1)) (st.drop 1) := by
  rcases h with ⟨h, _⟩ | ⟨g', off', cap', cur, e, hb, hg, h1, h2, h3, h4⟩
  · cases h
  · obtain ⟨⟨rfl, rfl⟩, rfl⟩ : (g = g' ∧ off = off') ∧ cap = cap' := by simpa using e
    by_cases hc : cap = 1
    · rw [if_pos hc]
      refine rowAt_put hb ⟨cur, hg, rfl⟩ (by simp; omega) (by omega) (by omega) (fun j hj => ?_) (by simp)
      simp at hj; omega
    · rw [if_neg hc]
      refine rowAt_put hb ⟨cur, hg, rfl⟩ (by simp; omega) (by omega) (by omega) (fun j hj => ?_) (by simp)
      have := h4 (1 + j) (by simp at hj; omega)
      rw [List.getElem_drop, show off + 1 + j = off + (1 + j) by omega]
      exact this

theorem RowAt.init {w : World} {base g off cap : Nat} {st : List Int} (h : RowAt w base (.slice (some ⟨g, off, none⟩) st.length cap) st) :
    RowAt w base (.slice (some ⟨g, off, none⟩) (st.length - 1) cap) (st.take (st.length - 1)) := by
  rcases h with ⟨h, _⟩ | ⟨g', off', cap', cur, e, hb, hg, h1, h2, h3, h4⟩
  · cases h
  · obtain ⟨⟨rfl, rfl⟩, rfl⟩ : (g = g' ∧ off = off') ∧ cap = cap' := by simpa using e
    refine rowAt_put hb ⟨cur, hg, rfl⟩ (by simp; omega) (by omega) (by omega) (fun j hj => ?_) (by simp)
    rw [List.getElem_take]
    exact h4 j (by simp at hj; omega)

end Go.Proofs.YtaopigjhdkdklaaDoor

namespace Go.Proofs.YtaopigjhdkdklaaDoor
open Go.RowKit

/-- A row of one-cell values of type 46 (slices of bools) that is one's own. -/
def RowG (w : World) (base : Nat) (v : Value) (xs : List Value) : Prop :=
  (v = .slice none 0 0 ∧ xs = []) ∨
  ∃ g off cap cur, v = .slice (some ⟨g, off, none⟩) xs.length cap ∧ base ≤ g ∧ w.heap[g]? = some (.cells cur 46 (0, 0)) ∧ xs.length ≤ cap ∧ off + cap ≤ cur.size ∧ cap ≤ maxLen ∧
    ∀ j, (hj : j < xs.length) → w.cell? ⟨g, off + j, none⟩ = some xs[j]
theorem RowG.lt {w : World} {base : Nat} {v : Value} {xs : List Value} (h : RowG w base v xs) : ∀ k, v.ownBlock = some k → base ≤ k ∧ k < w.heap.size := by
  intro k hk
  rcases h with ⟨rfl, _⟩ | ⟨g, off, cap, cur, rfl, hb, hg, _⟩
  · cases hk
  · obtain rfl : g = k := by simpa [Value.ownBlock] using hk
    exact ⟨hb, lt_of_heap hg⟩
theorem RowG.block {w w' : World} {base : Nat} {v : Value} {xs : List Value} (h : RowG w base v xs) (hb : ∀ k, v.ownBlock = some k → w'.heap[k]? = w.heap[k]?) : RowG w' base v xs := by
  rcases h with h | ⟨g, off, cap, cur, rfl, h0, hh, h1, h2, h4, h5⟩
  · exact .inl h
  · have e := hb g rfl
    exact .inr ⟨g, off, cap, cur, rfl, h0, e.trans hh, h1, h2, h4, fun j hj => (World.cell?_of_block (a := ⟨g, off + j, none⟩) e).trans (h5 j hj)⟩
theorem RowG.base {w : World} {base base' : Nat} {v : Value} {xs : List Value} (h : RowG w base v xs) (hb : base' ≤ base) : RowG w base' v xs := by
  rcases h with h | ⟨g, off, cap, cur, rfl, h0, h⟩
  · exact .inl h
  · exact .inr ⟨g, off, cap, cur, rfl, by omega, h⟩
theorem rowG_owns {w : World} {base : Nat} {v : Value} {xs : List Value} {n : Nat} (hn : n = xs.length) (h : w.ownsRow base 46 1 v n xs) : RowG w base v xs := by
  subst hn
  obtain ⟨_, ⟨rfl, h0⟩ | ⟨g, cap, cur, rfl, hb, hg, h1, h2, h3, h4⟩⟩ := h
  · exact .inl ⟨rfl, List.length_eq_zero_iff.1 h0⟩
  · refine .inr ⟨g, 0, cap, cur, rfl, hb, hg, h1, by omega, h2, fun j hj => ?_⟩
    rw [cell_of_row w g _ cur 46 (0, 0) hg, Nat.zero_add]
    have := congrArg (·[j]?) h4
    simp only [Nat.mul_one] at this
    rw [List.getElem?_take_of_lt hj, List.getElem?_eq_getElem hj] at this
    simpa using this
theorem some_of_heapG {w : World} {g : Nat} {cur : Array Value} {t : TypeId} (h : w.heap[g]? = some (.cells cur t (0, 0))) {i : Nat} (hi : i < cur.size) : (w.cell? ⟨g, i, none⟩).isSome = true := by
  rw [cell_of_row w g i cur t (0, 0) h, Array.getElem?_eq_getElem hi]; rfl

/-- What an append leaves. -/
structure TurnedG (w : World) (base : Nat) (v : Value) (w' : World) (v' : Value) (xs' : List Value) : Prop where
  row : RowG w' base v' xs'
  grown : w.grownBy w' v.ownBlock
  own : ∀ k, v'.ownBlock = some k → v.ownBlock = some k ∨ w.heap.size ≤ k

theorem wpList_append_rowG {w : World} {ops : Array Oper} {rest : List Oper} {o : Oper} {a : Act} {Q : Exit → Act → World → Prop} (hgd : o.guard = none) (s x : Operand)
    (ho : o.op = .call { callee := .builtin .append, args := #[s, x], argTypes := #[55, 55] })
    (base : Nat) (v : Value) (xs : List Value) (hs : a.eval s = v) (hrow : RowG w base v xs)
    (B c : Nat) (n : Value) (h1c : n.oneCell' = true) (hx : a.eval x = .slice (some ⟨B, 0, none⟩) 1 c) (hn : w.cell? ⟨B, 0, none⟩ = some n)
    (hlen : xs.length ≤ 100000) (hbase : base ≤ w.heap.size)
    (h : ∀ v' w', TurnedG w base v w' v' (xs ++ [n]) → wpList Tryd.prog ops Q rest (a.put o.dst v') w') : wpList Tryd.prog ops Q (o :: rest) a w := by
  obtain ⟨i, hi, hz, hsz, hby⟩ := info_parts' info46
  have hnews : ∀ j u, [n][j]? = some u → w.cell? ((⟨B, 0, none⟩ : Addr).add j) = some u := by
    intro j u hj
    match j, hj with
    | 0, hj => simp at hj; subst hj; simpa [Addr.add] using hn
  have h1s : ∀ u ∈ [n], u.oneCell' = true := by simpa using h1c
  have hmk : ∀ v' w', w'.ownsRow w.heap.size 46 1 v' (xs.length + 1) (xs ++ [n]) → w.grownBy w' none → TurnedG w base v w' v' (xs ++ [n]) := by
    intro v' w' ho' hg
    have hr : RowG w' w.heap.size v' (xs ++ [n]) := rowG_owns (by simp) ho'
    exact ⟨hr.base hbase, hg.but _, fun k hk => .inr (hr.lt k hk).1⟩
  rcases hrow with ⟨rfl, rfl⟩ | ⟨g, off, cap, cur, rfl, hb, hg, h1, h2, h3, h4⟩
  · refine wpList_append_grows w hgd s x 55 ho 46 i _ 1 24 Tryd.underlying55 hi hz hsz hby rfl (by decide) none 0 0 [] hs (fun _ => ⟨rfl, rfl⟩) rfl (fun b hb => by cases hb) ⟨B, 0, none⟩ 1 c [n] hx rfl hnews h1s (by decide) (by decide) (by decide) ?_
    intro v' w' ho' hg'
    exact h v' w' (hmk v' w' ho' hg')
  · by_cases hroom : xs.length + 1 ≤ cap
    · refine wpList_append_room1 w hgd s x 55 55 ho 46 (.slice none 0 0) 24 Tryd.underlying55 info46 g off xs.length cap hs _ hx 1 [n]
        (Src.ofSlice w Tryd.underlying55 ⟨B, 0, none⟩ 1 c [n] (by simp) hnews h1s) hroom
        (fun j hj => some_of_heapG hg (by simp at hj; omega)) (fun j _ => frozen_of_row w g _ cur 46 hg) ?_
      have hc : (w.setCells g (off + xs.length) [n]).cell? ⟨g, off + xs.length, none⟩ = some n := by
        simpa using World.cell?_setCells_in g [n] (off + xs.length) w (fun j hj => some_of_heapG hg (by simp at hj; omega)) 0 (by simp)
      obtain ⟨cur', e1, e2⟩ := heap_setCells [n] (off + xs.length) w cur hg
      have hcell : ∀ j, (hj : j < (xs ++ [n]).length) → (w.setCells g (off + xs.length) [n]).cell? ⟨g, off + j, none⟩ = some (xs ++ [n])[j] := fun j hj => by
        by_cases hj' : j < xs.length
        · rw [List.getElem_append_left hj', World.cell?_setCells_out g _ _ _ _ (fun _ _ => .inl (by show off + j < off + xs.length; omega))]
          exact h4 j hj'
        · obtain rfl : j = xs.length := by simp at hj; omega
          rw [hc]; simp
      have hlen1 : (xs ++ [n]).length = xs.length + 1 := by simp
      refine h _ _ ⟨.inr ⟨g, off, cap, cur', by rw [hlen1], hb, e1, by rw [hlen1]; exact hroom, by omega, h3, hcell⟩, grown_setCells _ _ _ _, fun k hk => .inl hk⟩
    · refine wpList_append_grows w hgd s x 55 ho 46 i _ 1 24 Tryd.underlying55 hi hz hsz hby rfl (by decide) (some ⟨g, off, none⟩) xs.length cap xs hs (fun e => by cases e) (by simp) (fun b hb j u hu => ?_) ⟨B, 0, none⟩ 1 c [n] hx rfl hnews h1s (by omega) (by unfold maxLen; omega) (by omega) ?_
      · obtain rfl := Option.some.inj hb
        have hj : j < xs.length := (List.getElem?_eq_some_iff.1 hu).1
        rw [List.getElem?_eq_getElem hj] at hu
        obtain rfl := Option.some.inj hu
        rw [Addr.add_lit]
        exact h4 j hj
      · intro v' w' ho' hg'
        exact h v' w' (hmk v' w' ho' hg')

/-- Rows of bools, told one behind the other; all their blocks lie from base on. -/
structure OutAt (w : World) (base n : Nat) (v : Value) (gs : List Nat) (A : Nat → Nat → Bool) : Prop where
  row : RowG w base v (gs.map fun g => .slice (some ⟨g, 0, none⟩) n n)
  bits : ∀ j, (hj : j < gs.length) → BitsAt w gs[j] n (A j) ∧ base ≤ gs[j] ∧ v.ownBlock ≠ some gs[j]
theorem outAt_nil (w : World) (base n : Nat) (A : Nat → Nat → Bool) : OutAt w base n (.slice none 0 0) [] A := ⟨.inl ⟨rfl, rfl⟩, fun j hj => absurd hj (by simp)⟩
theorem OutAt.below {w w' : World} {base n B : Nat} {v : Value} {gs : List Nat} {A : Nat → Nat → Bool} (h : OutAt w base n v gs A) (hb : Below B w w') (hB : w.heap.size ≤ B) : OutAt w' base n v gs A :=
  ⟨h.row.block fun k hk => hb.block k (Nat.lt_of_lt_of_le (h.row.lt k hk).2 hB), fun j hj => ⟨(h.bits j hj).1.below hb (Nat.lt_of_lt_of_le (h.bits j hj).1.lt hB), (h.bits j hj).2⟩⟩
theorem OutAt.same {w : World} {base n : Nat} {v : Value} {gs : List Nat} {A A' : Nat → Nat → Bool} (h : OutAt w base n v gs A) (e : ∀ i k, i < gs.length → k < n → A i k = A' i k) : OutAt w base n v gs A' :=
  ⟨h.row, fun j hj => ⟨(h.bits j hj).1.same fun k hk => e j k hj hk, (h.bits j hj).2⟩⟩
/-- One more row. -/
theorem OutAt.more {w w' : World} {base n g : Nat} {v v' : Value} {gs : List Nat} {A : Nat → Nat → Bool} {S : Nat → Bool} (h : OutAt w base n v gs A) (hg : BitsAt w g n S) (hb : base ≤ g) (hv : v.ownBlock ≠ some g)
    (ht : TurnedG w base v w' v' (gs.map (fun g => .slice (some ⟨g, 0, none⟩) n n) ++ [.slice (some ⟨g, 0, none⟩) n n])) : OutAt w' base n v' (gs ++ [g]) (fun i => if i = gs.length then S else A i) := by
  have hkeep : ∀ {k : Nat} {f : Nat → Bool}, BitsAt w k n f → v.ownBlock ≠ some k → BitsAt w' k n f ∧ v'.ownBlock ≠ some k := fun {k f} hk hne => by
    have hkl := hk.lt
    refine ⟨hk.block (ht.grown.block k hkl (fun e => hne e.symm)), fun e => ?_⟩
    rcases ht.own k e with h1 | h1
    · exact hne h1
    · omega
  refine ⟨by rw [List.map_append]; exact ht.row, fun j hj => ?_⟩
  by_cases e : j < gs.length
  · rw [List.getElem_append_left e]
    obtain ⟨h1, h2, h3⟩ := h.bits j e
    have := hkeep h1 h3
    simp only [if_neg (show ¬ j = gs.length by omega)]
    exact ⟨this.1, h2, this.2⟩
  · obtain rfl : j = gs.length := by simp at hj; omega
    have := hkeep hg hv
    simp only [if_true]
    rw [List.getElem_append_right (Nat.le_refl _)]
    simp only [Nat.sub_self, List.getElem_cons_zero]
    exact ⟨this.1, hb, this.2⟩
/-- How it reads, as a matrix. -/
theorem OutAt.read {w : World} {base n : Nat} {v : Value} {gs : List Nat} {A : Nat → Nat → Bool} (h : OutAt w base n v gs A) (h0 : 0 < gs.length) :
    ∃ g off cap, v = .slice (some ⟨g, off, none⟩) gs.length cap ∧ gs.length ≤ cap ∧ ∀ i, (hi : i < gs.length) → w.cell? ⟨g, off + i, none⟩ = some (.slice (some ⟨gs[i], 0, none⟩) n n) ∧ ∀ k, k < n → w.cell? ⟨gs[i], k, none⟩ = some (.bool (A i k)) := by
  rcases h.row with ⟨_, e⟩ | ⟨g, off, cap, cur, e, hb, hg, h1, h2, h3, h4⟩
  · have := congrArg List.length e; simp at this; subst this; simp at h0
  · rw [List.length_map] at e h1
    refine ⟨g, off, cap, e, h1, fun i hi => ⟨?_, fun k hk => (h.bits i hi).1.bit k hk⟩⟩
    have := h4 i (by simpa using hi)
    simpa using this

/-! ### counting what was not seen, off the memory -/
def seenOf (w : World) (g : Nat) : Nat → Bool := fun k => match w.cell? ⟨g, k, none⟩ with
  | some (.bool b) => b
  | _ => false
def lenOf : Value → Nat
  | .slice _ n _ => n
  | _ => 0
theorem leftN_congr {S S' : Nat → Bool} : ∀ n, (∀ k, k < n → S k = S' k) → leftN S n = leftN S' n
  | 0, _ => rfl
  | n + 1, h => by
    unfold leftN
    rw [leftN_congr n (fun k hk => h k (by omega)), h n (by omega)]
theorem seenOf_bits {w : World} {g n : Nat} {S : Nat → Bool} (h : BitsAt w g n S) : leftN (seenOf w g) n = leftN S n := leftN_congr n fun k hk => by unfold seenOf; rw [h.bit k hk]
theorem RowAt.lenOf {w : World} {base : Nat} {v : Value} {st : List Int} (h : RowAt w base v st) : lenOf v = st.length := by
  rcases h with ⟨rfl, rfl⟩ | ⟨g, off, cap, cur, rfl, _⟩ <;> rfl

end Go.Proofs.YtaopigjhdkdklaaDoor

namespace Go.Proofs.YtaopigjhdkdklaaDoor
open Go.RowKit

theorem map_cons_nat {i : Nat} {r : List Nat} : (i :: r).map (fun n : Nat => (n : Int)) = (i : Int) :: r.map (fun n : Nat => (n : Int)) := rfl

theorem RowAt.belowR {w w' : World} {base : Nat} {v : Value} {st : List Int} (h : RowAt w base v st) (hb : Below w.heap.size w w') : RowAt w' base v st := by
  rcases h with h | ⟨g, off, cap, cur, rfl, h0, hh, h1, h2, h4, h5⟩
  · exact .inl h
  · have e := hb.block g (lt_of_heap hh)
    exact .inr ⟨g, off, cap, cur, rfl, h0, e.trans hh, h1, h2, h4, fun j hj => (World.cell?_of_block (a := ⟨g, off + j, none⟩) e).trans (h5 j hj)⟩
theorem RowAt.setOther {w : World} {base : Nat} {v : Value} {st : List Int} (h : RowAt w base v st) {p : Addr} (hp : p.block < base) (u : Value) : RowAt (w.setCell p u) base v st :=
  h.kept (grown_setCell w p u) (.inr fun e => by have := (h.lt p.block e).1; omega)
theorem RowAt.slice {w : World} {base : Nat} {v : Value} {st : List Int} (h : RowAt w base v st) : ∃ a cap, v = .slice a st.length cap := by
  rcases h with ⟨rfl, rfl⟩ | ⟨g, off, cap, cur, rfl, _⟩
  · exact ⟨none, 0, rfl⟩
  · exact ⟨_, _, rfl⟩
theorem cell_new_set (w2 : World) (Z k : Nat) : ((w2.setCell ⟨Z, k, none⟩ (.bool true)).alloc (.cells #[.int .i64 (k : Nat)] 3)).cell? ⟨w2.heap.size, 0, none⟩ = some (.int .i64 (k : Nat)) := by
  have e := heap_alloc_new (w2.setCell ⟨Z, k, none⟩ (.bool true)) (.cells #[.int .i64 (k : Nat)] 3)
  have es : (w2.setCell ⟨Z, k, none⟩ (.bool true)).heap.size = w2.heap.size := by simp
  rw [es] at e
  rw [cell_of_row _ _ 0 _ 3 _ e]; rfl
/-- What the state of a walk is behind a step. -/
theorem step_seen {w2 w3 : World} {Z n k : Nat} {S : Nat → Bool} {v v' : Value} {st st' : List Int} {w0 : World} (hbits : BitsAt w2 Z n S) (hk : k < n) (hrow : RowAt w2 (Z + 1) v st) (hb : Below Z w0 w2)
    (ht : Turned ((w2.setCell ⟨Z, k, none⟩ (.bool true)).alloc (.cells #[.int .i64 (k : Nat)] 3)) (Z + 1) v w3 v' st') :
    BitsAt w3 Z n (putB S k) ∧ RowAt w3 (Z + 1) v' st' ∧ Below Z w0 w3 ∧ w2.heap.size ≤ w3.heap.size := by
  have hZ := hbits.lt
  have h1 : BitsAt ((w2.setCell ⟨Z, k, none⟩ (.bool true)).alloc (.cells #[.int .i64 (k : Nat)] 3)) Z n (putB S k) := ((hbits.put hk true).block (w' := (w2.setCell ⟨Z, k, none⟩ (.bool true)).alloc (.cells #[.int .i64 (k : Nat)] 3)) (Below.heap_alloc _ _ Z (by simp; exact hZ))).same fun j _ => by unfold putB; rfl
  have hown : ∀ j, v.ownBlock = some j → Z + 1 ≤ j := fun j hj => (hrow.lt j hj).1
  have hne : some Z ≠ v.ownBlock := fun e => by have := hown Z e.symm; omega
  refine ⟨h1.block (ht.grown.block Z (by simp; omega) hne), ht.row, ?_, ?_⟩
  · have hb1 : Below Z w0 ((w2.setCell ⟨Z, k, none⟩ (.bool true)).alloc (.cells #[.int .i64 (k : Nat)] 3)) := (hb.setCell (p := ⟨Z, k, none⟩) (Nat.le_refl _) _).alloc (by simp; omega) _
    exact hb1.grown ht.grown (by simp; omega) (fun j hj => by have := hown j hj; omega)
  · have := ht.grown.size
    simp at this; omega

end Go.Proofs.YtaopigjhdkdklaaDoor
