/-
  Rows of bools in memory: a matrix that is one's own.
  Rows of numbers in memory.
  A call of a queue, of a stack: what is one's own is appended to, or shortened, in place.
  A row of rows in memory that is appended to: what a walk over roads leaves.
  The document's own walks over roads, walked; Ahead7.
-/
import Derived.Test.YthmiocbihhbdpaaDoorBsG
import Derived.Laws.MakeOwn
import Derived.Deep.QuietTactic
import Derived.BigQuiet
import Derived.ArgAppend
import Derived.Lib.JoinLaws
import Derived.Deep.RegionHeld3
namespace Go.Proofs.YthmiocbihhbdpaaDoor
open Go.RowKit

theorem offNe {g a b : Nat} (h : a ≠ b) : (⟨g, a, none⟩ : Addr) ≠ ⟨g, b, none⟩ := fun e => h (by injection e)
theorem blkNe {g g' a b : Nat} (h : g ≠ g') : (⟨g, a, none⟩ : Addr) ≠ ⟨g', b, none⟩ := fun e => h (by injection e)

/-- A row of bools in a block of its own. -/
structure BitsAt (w : World) (g n : Nat) (f : Nat → Bool) : Prop where
  blk : ∃ cur, w.heap[g]? = some (.cells cur 4 (0, 0))
  bit : ∀ k, k < n → w.cell? ⟨g, k, none⟩ = some (.bool (f k))
theorem BitsAt.lt {w : World} {g n : Nat} {f : Nat → Bool} (h : BitsAt w g n f) : g < w.heap.size := by
  obtain ⟨cur, hc⟩ := h.blk
  exact lt_of_heap hc
theorem BitsAt.fz {w : World} {g n : Nat} {f : Nat → Bool} (h : BitsAt w g n f) (i : Nat) : w.frozen? ⟨g, i, none⟩ = false := by
  obtain ⟨cur, hc⟩ := h.blk
  exact frozen_of_row w g i cur 4 hc
theorem BitsAt.block {w w' : World} {g n : Nat} {f : Nat → Bool} (h : BitsAt w g n f) (hb : w'.heap[g]? = w.heap[g]?) : BitsAt w' g n f := by
  obtain ⟨cur, hc⟩ := h.blk
  exact ⟨⟨cur, hb.trans hc⟩, fun k hk => (World.cell?_of_block (a := ⟨g, k, none⟩) hb).trans (h.bit k hk)⟩
theorem BitsAt.below {B : Nat} {w w' : World} {g n : Nat} {f : Nat → Bool} (h : BitsAt w g n f) (hb : Below B w w') (hg : g < B) : BitsAt w' g n f := h.block (hb.block g hg)
theorem BitsAt.same {w : World} {g n : Nat} {f f' : Nat → Bool} (h : BitsAt w g n f) (e : ∀ k, k < n → f k = f' k) : BitsAt w g n f' := ⟨h.blk, fun k hk => by rw [← e k hk]; exact h.bit k hk⟩
theorem BitsAt.put {w : World} {g n : Nat} {f : Nat → Bool} (h : BitsAt w g n f) {m : Nat} (hm : m < n) (x : Bool) : BitsAt (w.setCell ⟨g, m, none⟩ (.bool x)) g n (fun k => if k = m then x else f k) := by
  obtain ⟨cur, hc⟩ := h.blk
  obtain ⟨cur', hc', _⟩ := heap_setCell hc m (.bool x)
  refine ⟨⟨cur', hc'⟩, fun k hk => ?_⟩
  by_cases e : k = m
  · subst e
    rw [if_pos rfl]
    exact World.cell?_setCell_same _ _ _ (h.bit k hk)
  · rw [if_neg e, World.cell?_setCell_other _ _ _ _ (offNe (Ne.symm e))]
    exact h.bit k hk
theorem BitsAt.other {w : World} {g n : Nat} {f : Nat → Bool} (h : BitsAt w g n f) {p : Addr} (hp : g ≠ p.block) (u : Value) : BitsAt (w.setCell p u) g n f := h.block (Below.heap_setCell w p u g hp)

theorem info4 : (Tryd.prog.info? 4).map (fun i => (i.zero, i.size, i.bytes)) = some (some (.bool false), 1, 1) := by kernel_rfl
theorem info46 : (Tryd.prog.info? 52).map (fun i => (i.zero, i.size, i.bytes)) = some (some (.slice none 0 0), 1, 24) := by kernel_rfl
theorem made_bits (w : World) (n : Nat) (hn : n ≤ 60) : (Instr.makeSlice 52 (.int .i64 (n : Int)) (.int .i64 (n : Int))).run Tryd.prog w = .ok (.slice (some ⟨w.heap.size, 0, none⟩) n n) (w.alloc (.cells (madeCells #[.bool false] n) 4)) := by
  obtain ⟨i, hi, hz, hs, hb⟩ := info_parts' info4
  have := run_make (P := Tryd.prog) w 52 4 i (.bool false) Tryd.underlying52 hi hz .i64 .i64 (n : Int) (n : Int) (by omega) (Int.le_refl _) (by rw [hb]; omega) (by omega)
  have e : (Value.bool false).cells = #[.bool false] := rfl
  rw [e] at this
  simpa [hs] using this
theorem made_rows (w : World) (n : Nat) (hn : n ≤ 60) : (Instr.makeSlice 53 (.int .i64 (n : Int)) (.int .i64 (n : Int))).run Tryd.prog w = .ok (.slice (some ⟨w.heap.size, 0, none⟩) n n) (w.alloc (.cells (madeCells #[.slice none 0 0] n) 52)) := by
  obtain ⟨i, hi, hz, hs, hb⟩ := info_parts' info46
  have := run_make (P := Tryd.prog) w 53 52 i (.slice none 0 0) Tryd.underlying53 hi hz .i64 .i64 (n : Int) (n : Int) (by omega) (Int.le_refl _) (by rw [hb]; omega) (by omega)
  have e : (Value.slice none 0 0).cells = #[.slice none 0 0] := rfl
  rw [e] at this
  simpa [hs] using this
theorem bits_made (w : World) (n : Nat) : BitsAt (w.alloc (.cells (madeCells #[.bool false] n) 4)) w.heap.size n (fun _ => false) :=
  ⟨⟨_, heap_alloc_new w _⟩, fun k hk => cell_made w (.bool false) n 4 k hk⟩

/-- A matrix of bools: its first m rows are laid; all its blocks lie from base on. -/
structure MatAt (w : World) (base B n m : Nat) (rb : Nat → Nat) (M : Nat → Nat → Bool) : Prop where
  blk : ∃ cur, w.heap[B]? = some (.cells cur 52 (0, 0))
  lo : base ≤ B
  room : ∀ i, i < n → ∃ v, w.cell? ⟨B, i, none⟩ = some v
  few : m ≤ n
  head : ∀ i, i < m → w.cell? ⟨B, i, none⟩ = some (.slice (some ⟨rb i, 0, none⟩) n n)
  row : ∀ i, i < m → BitsAt w (rb i) n (M i)
  from_ : ∀ i, i < m → base ≤ rb i ∧ rb i ≠ B
  inj : ∀ i j, i < m → j < m → rb i = rb j → i = j

section
variable {w : World} {base B n m : Nat} {rb : Nat → Nat} {M : Nat → Nat → Bool}
theorem MatAt.lt (h : MatAt w base B n m rb M) : B < w.heap.size := by
  obtain ⟨cur, hc⟩ := h.blk
  exact lt_of_heap hc
theorem MatAt.fz (h : MatAt w base B n m rb M) (i : Nat) : w.frozen? ⟨B, i, none⟩ = false := by
  obtain ⟨cur, hc⟩ := h.blk
  exact frozen_of_row w B i cur 52 hc
theorem MatAt.below {w' : World} (h : MatAt w base B n m rb M) (hb : Below w.heap.size w w') : MatAt w' base B n m rb M := by
  obtain ⟨cur, hc⟩ := h.blk
  have hB := h.lt
  have hcell : ∀ i, w'.cell? ⟨B, i, none⟩ = w.cell? ⟨B, i, none⟩ := fun i => hb.cell (p := ⟨B, i, none⟩) hB
  exact ⟨⟨cur, (hb.block B hB).trans hc⟩, h.lo, fun i hi => by rw [hcell]; exact h.room i hi, h.few, fun i hi => by rw [hcell]; exact h.head i hi, fun i hi => (h.row i hi).below hb (h.row i hi).lt, h.from_, h.inj⟩
theorem MatAt.alloc (h : MatAt w base B n m rb M) (o : Obj) : MatAt (w.alloc o) base B n m rb M := h.below ((Below.refl _ _).alloc (Nat.le_refl _) o)
theorem MatAt.drew (h : MatAt w base B n m rb M) : MatAt w.drew base B n m rb M := h.below (Below.refl _ _).drew
theorem MatAt.same {M' : Nat → Nat → Bool} (h : MatAt w base B n m rb M) (e : ∀ i k, i < m → k < n → M i k = M' i k) : MatAt w base B n m rb M' :=
  ⟨h.blk, h.lo, h.room, h.few, h.head, fun i hi => (h.row i hi).same fun k hk => e i k hi hk, h.from_, h.inj⟩
theorem MatAt.mono {base' : Nat} (h : MatAt w base B n m rb M) (hb : base' ≤ base) : MatAt w base' B n m rb M :=
  ⟨h.blk, Nat.le_trans hb h.lo, h.room, h.few, h.head, h.row, fun i hi => ⟨Nat.le_trans hb (h.from_ i hi).1, (h.from_ i hi).2⟩, h.inj⟩
theorem MatAt.put (h : MatAt w base B n m rb M) {i k : Nat} (hi : i < m) (hk : k < n) (x : Bool) :
    MatAt (w.setCell ⟨rb i, k, none⟩ (.bool x)) base B n m rb (fun a b => if a = i ∧ b = k then x else M a b) := by
  obtain ⟨cur, hc⟩ := h.blk
  have hne := (h.from_ i hi).2
  have hcell : ∀ j, (w.setCell ⟨rb i, k, none⟩ (.bool x)).cell? ⟨B, j, none⟩ = w.cell? ⟨B, j, none⟩ := fun j => World.cell?_setCell_other _ _ _ _ (blkNe hne)
  refine ⟨⟨cur, (Below.heap_setCell w _ _ B (Ne.symm hne)).trans hc⟩, h.lo, fun j hj => by rw [hcell]; exact h.room j hj, h.few, fun j hj => by rw [hcell]; exact h.head j hj, fun j hj => ?_, h.from_, h.inj⟩
  by_cases e : j = i
  · subst e
    exact ((h.row j hj).put hk x).same fun b hb => by simp
  · exact ((h.row j hj).other (p := ⟨rb i, k, none⟩) (fun e' => e (h.inj j i hj hi e')) _).same fun b hb => by simp [e]
/-- One row more: a new block, its head stored. -/
theorem MatAt.add (h : MatAt w base B n m rb M) {g : Nat} {f : Nat → Bool} (hm : m < n) (hg : BitsAt w g n f) (hb : base ≤ g) (hne : g ≠ B) (hnew : ∀ i, i < m → rb i ≠ g) :
    MatAt (w.setCell ⟨B, m, none⟩ (.slice (some ⟨g, 0, none⟩) n n)) base B n (m + 1) (fun i => if i = m then g else rb i) (fun i => if i = m then f else M i) := by
  obtain ⟨cur, hc⟩ := h.blk
  obtain ⟨cur', hc', _⟩ := heap_setCell hc m (.slice (some ⟨g, 0, none⟩) n n)
  have hs : (w.setCell ⟨B, m, none⟩ (.slice (some ⟨g, 0, none⟩) n n)).cell? ⟨B, m, none⟩ = some (.slice (some ⟨g, 0, none⟩) n n) := by
    obtain ⟨v, hv⟩ := h.room m hm
    exact World.cell?_setCell_same _ _ _ hv
  have ho : ∀ i, i ≠ m → (w.setCell ⟨B, m, none⟩ (.slice (some ⟨g, 0, none⟩) n n)).cell? ⟨B, i, none⟩ = w.cell? ⟨B, i, none⟩ := fun i hi => World.cell?_setCell_other _ _ _ _ (offNe (Ne.symm hi))
  refine ⟨⟨cur', hc'⟩, h.lo, fun i hi => ?_, hm, fun i hi => ?_, fun i hi => ?_, fun i hi => ?_, fun i j hi hj => ?_⟩
  · by_cases e : i = m
    · subst e; exact ⟨_, hs⟩
    · rw [ho i e]; exact h.room i hi
  · by_cases e : i = m
    · subst e; rw [hs, if_pos rfl]
    · rw [ho i e, if_neg e]; exact h.head i (by omega)
  · by_cases e : i = m
    · subst e; simp only [if_pos]; exact hg.other (p := ⟨B, i, none⟩) hne _
    · simp only [if_neg e]; exact (h.row i (by omega)).other (p := ⟨B, m, none⟩) (h.from_ i (by omega)).2 _
  · by_cases e : i = m
    · simp only [e, if_true]; exact ⟨hb, hne⟩
    · simp only [if_neg e]; exact h.from_ i (by omega)
  · by_cases e : i = m
    · by_cases e' : j = m
      · intro _; omega
      · simp only [e, if_true, if_neg e']; exact fun k => absurd k.symm (hnew j (by omega))
    · by_cases e' : j = m
      · simp only [e', if_true, if_neg e]; exact fun k => absurd k (hnew i (by omega))
      · simp only [if_neg e, if_neg e']; exact h.inj i j (by omega) (by omega)
end
theorem mat_made (w : World) (n : Nat) : MatAt (w.alloc (.cells (madeCells #[.slice none 0 0] n) 52)) w.heap.size w.heap.size n 0 (fun _ => 0) (fun _ _ => false) :=
  ⟨⟨_, heap_alloc_new w _⟩, Nat.le_refl _, fun i hi => ⟨_, cell_made w _ n _ i hi⟩, Nat.zero_le _, fun i hi => absurd hi (by omega), fun i hi => absurd hi (by omega), fun i hi => absurd hi (by omega), fun i j hi => absurd hi (by omega)⟩

/-! ### the stages of a pass -/
def stg (M : Nat → Nat → Bool) (t i b : Nat) : Nat → Nat → Bool := fun a k => if a < i ∨ (a = i ∧ k < b) then warS M t a k else M a k
theorem stg_next (M : Nat → Nat → Bool) (t i b : Nat) : stg M t i b t b = M t b := by
  unfold stg
  split
  · exact warS_row M t b
  · rfl
theorem stg_own (M : Nat → Nat → Bool) (t i b : Nat) : stg M t i b i b = M i b := by
  unfold stg
  rw [if_neg (by omega)]
theorem stg_put {M : Nat → Nat → Bool} {t i b : Nat} (h : M i t = true) (a k : Nat) : (if a = i ∧ k = b then (M i b || M t b) else stg M t i b a k) = stg M t i (b + 1) a k := by
  unfold stg
  by_cases e : a = i ∧ k = b
  · obtain ⟨rfl, rfl⟩ := e
    rw [if_pos ⟨rfl, rfl⟩, if_pos (.inr ⟨rfl, by omega⟩)]
    unfold warS
    rw [h]; rfl
  · rw [if_neg e]
    by_cases e' : a < i ∨ (a = i ∧ k < b)
    · rw [if_pos e', if_pos (by omega)]
    · rw [if_neg e', if_neg (by omega)]
theorem stg_skip {M : Nat → Nat → Bool} {t i : Nat} (h : M i t = false) (a k : Nat) : stg M t i 0 a k = stg M t (i + 1) 0 a k := by
  unfold stg
  by_cases e : a = i
  · subst e
    rw [if_neg (by omega), if_pos (by omega)]
    unfold warS
    rw [h]; simp
  · by_cases e' : a < i
    · rw [if_pos (.inl e'), if_pos (by omega)]
    · rw [if_neg (by omega), if_neg (by omega)]
theorem stg_end {M : Nat → Nat → Bool} {t i n : Nat} (a k : Nat) (hk : k < n) : stg M t i n a k = stg M t (i + 1) 0 a k := by
  unfold stg
  by_cases e : a < i + 1
  · rw [if_pos (by omega), if_pos (.inl e)]
  · rw [if_neg (by omega), if_neg (by omega)]
theorem stg_all {M : Nat → Nat → Bool} {t n : Nat} (a k : Nat) (ha : a < n) : stg M t n 0 a k = warS M t a k := by
  unfold stg
  rw [if_pos (.inl ha)]

end Go.Proofs.YthmiocbihhbdpaaDoor

namespace Go.Proofs.YthmiocbihhbdpaaDoor
open Go.RowKit

/-- A row of numbers in a block of its own. -/
structure NumsAt (w : World) (g n : Nat) (f : Nat → Nat) : Prop where
  blk : ∃ cur, w.heap[g]? = some (.cells cur 3 (0, 0))
  num : ∀ k, k < n → w.cell? ⟨g, k, none⟩ = some (.int .i64 ((f k : Nat) : Int))
theorem NumsAt.lt {w : World} {g n : Nat} {f : Nat → Nat} (h : NumsAt w g n f) : g < w.heap.size := by
  obtain ⟨cur, hc⟩ := h.blk
  exact lt_of_heap hc
theorem NumsAt.fz {w : World} {g n : Nat} {f : Nat → Nat} (h : NumsAt w g n f) (i : Nat) : w.frozen? ⟨g, i, none⟩ = false := by
  obtain ⟨cur, hc⟩ := h.blk
  exact frozen_of_row w g i cur 3 hc
theorem NumsAt.block {w w' : World} {g n : Nat} {f : Nat → Nat} (h : NumsAt w g n f) (hb : w'.heap[g]? = w.heap[g]?) : NumsAt w' g n f := by
  obtain ⟨cur, hc⟩ := h.blk
  exact ⟨⟨cur, hb.trans hc⟩, fun k hk => (World.cell?_of_block (a := ⟨g, k, none⟩) hb).trans (h.num k hk)⟩
theorem NumsAt.below {B : Nat} {w w' : World} {g n : Nat} {f : Nat → Nat} (h : NumsAt w g n f) (hb : Below B w w') (hg : g < B) : NumsAt w' g n f := h.block (hb.block g hg)
theorem NumsAt.same {w : World} {g n : Nat} {f f' : Nat → Nat} (h : NumsAt w g n f) (e : ∀ k, k < n → f k = f' k) : NumsAt w g n f' := ⟨h.blk, fun k hk => by rw [← e k hk]; exact h.num k hk⟩
theorem NumsAt.put {w : World} {g n : Nat} {f : Nat → Nat} (h : NumsAt w g n f) {m : Nat} (hm : m < n) (x : Nat) : NumsAt (w.setCell ⟨g, m, none⟩ (.int .i64 ((x : Nat) : Int))) g n (fun k => if k = m then x else f k) := by
  obtain ⟨cur, hc⟩ := h.blk
  obtain ⟨cur', hc', _⟩ := heap_setCell hc m (.int .i64 ((x : Nat) : Int))
  refine ⟨⟨cur', hc'⟩, fun k hk => ?_⟩
  by_cases e : k = m
  · subst e
    rw [if_pos rfl]
    exact World.cell?_setCell_same _ _ _ (h.num k hk)
  · rw [if_neg e, World.cell?_setCell_other _ _ _ _ (offNe (Ne.symm e))]
    exact h.num k hk
theorem NumsAt.other {w : World} {g n : Nat} {f : Nat → Nat} (h : NumsAt w g n f) {p : Addr} (hp : g ≠ p.block) (u : Value) : NumsAt (w.setCell p u) g n f := h.block (Below.heap_setCell w p u g hp)

theorem made_nums (w : World) (n : Nat) (hn : n ≤ 60) : (Instr.makeSlice 24 (.int .i64 (n : Int)) (.int .i64 (n : Int))).run Tryd.prog w = .ok (.slice (some ⟨w.heap.size, 0, none⟩) n n) (w.alloc (.cells (madeCells #[.int .i64 0] n) 3)) := by
  obtain ⟨i, hi, hz, hs, hb⟩ := info_parts' info3
  have := run_make (P := Tryd.prog) w 24 3 i (.int .i64 0) Tryd.underlying24 hi hz .i64 .i64 (n : Int) (n : Int) (by omega) (Int.le_refl _) (by rw [hb]; omega) (by omega)
  have e : (Value.int .i64 0).cells = #[.int .i64 0] := rfl
  rw [e] at this
  simpa [hs] using this
theorem nums_made (w : World) (n : Nat) : NumsAt (w.alloc (.cells (madeCells #[.int .i64 0] n) 3)) w.heap.size n (fun _ => 0) :=
  ⟨⟨_, heap_alloc_new w _⟩, fun k hk => cell_made w (.int .i64 0) n 3 k hk⟩
end Go.Proofs.YthmiocbihhbdpaaDoor

namespace Go.Proofs.YthmiocbihhbdpaaDoor
open Go.RowKit

/-- What a call leaves: the state that it made, in the same block or in one that is new; all else as it was. -/
structure Turned (w : World) (base : Nat) (v : Value) (w' : World) (v' : Value) (st' : List Int) : Prop where
  row : RowAt w' base v' st'
  grown : w.grownBy w' v.ownBlock
  own : ∀ k, v'.ownBlock = some k → v.ownBlock = some k ∨ w.heap.size ≤ k

theorem Turned.base_le {w : World} {base : Nat} {v : Value} {st : List Int} (h : RowAt w base v st) : ∀ k, v.ownBlock = some k → base ≤ k := fun k hk => (h.lt k hk).1

/-- One ahead of it that makes new blocks alone. -/
theorem Turned.behind {w w1 : World} {base : Nat} {v : Value} {w' : World} {v' : Value} {st' : List Int} (h : Turned w1 base v w' v' st') (hg : w.grownBy w1 none) : Turned w base v w' v' st' :=
  ⟨h.row, (hg.but _).trans h.grown, fun k hk => (h.own k hk).imp id (fun e => Nat.le_trans hg.size e)⟩

theorem RowAt.new {w w' : World} {base : Nat} {v : Value} {st : List Int} (h : RowAt w base v st) (hg : w.grownBy w' none) : RowAt w' base v st := h.kept hg (Classical.em _)
theorem turned_same {w : World} {base : Nat} {v : Value} {st : List Int} (h : RowAt w base v st) : Turned w base v w v st := ⟨h, grown_refl _ _, fun _ hk => .inl hk⟩


section
variable {w : World}
theorem wpList_append_row {ops : Array Oper} {rest : List Oper} {o : Oper} {a : Act} {Q : Exit → Act → World → Prop} (hgd : o.guard = none) (s x : Operand)
    (ho : o.op = .call { callee := .builtin .append, args := #[s, x], argTypes := #[24, 24] })
    (base : Nat) (v : Value) (st : List Int) (hs : a.eval s = v) (hrow : RowAt w base v st)
    (B c : Nat) (n : Int) (hx : a.eval x = .slice (some ⟨B, 0, none⟩) 1 c) (hn : w.cell? ⟨B, 0, none⟩ = some (.int .i64 n))
    (hlen : st.length ≤ 100000) (hbase : base ≤ w.heap.size)
    (h : ∀ v' w', Turned w base v w' v' (st ++ [n]) → wpList Tryd.prog ops Q rest (a.put o.dst v') w') : wpList Tryd.prog ops Q (o :: rest) a w := by
  obtain ⟨i, hi, hz, hsz, hby⟩ := info_parts' info3
  have hnews : ∀ j u, [Value.int .i64 n][j]? = some u → w.cell? ((⟨B, 0, none⟩ : Addr).add j) = some u := by
    intro j u hj
    match j, hj with
    | 0, hj => simp at hj; subst hj; simpa [Addr.add] using hn
  have hmk : ∀ v' w', w'.ownsRow w.heap.size 3 1 v' (st.length + 1) (st.map (Value.int .i64) ++ [.int .i64 n]) → w.grownBy w' none → Turned w base v w' v' (st ++ [n]) := by
    intro v' w' ho' hg
    have hr : RowAt w' w.heap.size v' (st ++ [n]) := rowAt_owns (by simpa using ho')
    exact ⟨hr.base hbase, hg.but _, fun k hk => .inr (hr.lt k hk).1⟩
  rcases hrow with ⟨rfl, rfl⟩ | ⟨g, off, cap, cur, rfl, hb, hg, h1, h2, h3, h4⟩
  · refine wpList_append_grows w hgd s x 24 ho 3 i _ 1 8 Tryd.underlying24 hi hz hsz hby rfl (by decide) none 0 0 [] hs (fun _ => ⟨rfl, rfl⟩) rfl (fun b hb => by cases hb) ⟨B, 0, none⟩ 1 c [.int .i64 n] hx rfl hnews (by simp [Value.oneCell']) (by decide) (by decide) (by decide) ?_
    intro v' w' ho' hg'
    exact h v' w' (hmk v' w' ho' hg')
  · by_cases hroom : st.length + 1 ≤ cap
    · refine wpList_append_room1 w hgd s x 24 24 ho 3 (.int .i64 0) 8 Tryd.underlying24 info3 g off st.length cap hs _ hx 1 [.int .i64 n]
        (Src.ofSlice w Tryd.underlying24 ⟨B, 0, none⟩ 1 c [.int .i64 n] (by simp) hnews (by simp [Value.oneCell'])) hroom
        (fun j hj => some_of_heap hg (by simp at hj; omega)) (fun j _ => unfrozen_of_heap hg _) ?_
      have hc : (w.setCells g (off + st.length) [.int .i64 n]).cell? ⟨g, off + st.length, none⟩ = some (.int .i64 n) := by
        simpa using World.cell?_setCells_in g [.int .i64 n] (off + st.length) w (fun j hj => some_of_heap hg (by simp at hj; omega)) 0 (by simp)
      refine h _ _ ⟨rowAt_put hb (heap_setCells _ _ _ _ hg) (by simpa using hroom) h2 h3 (fun j hj => ?_) (by simp), grown_setCells _ _ _ _, fun k hk => .inl hk⟩
      by_cases hj' : j < st.length
      · rw [List.getElem_append_left hj', World.cell?_setCells_out g _ _ _ _ (fun _ _ => .inl (by show off + j < off + st.length; omega))]
        exact h4 j hj'
      · obtain rfl : j = st.length := by simp at hj; omega
        rw [hc]; simp
    · refine wpList_append_grows w hgd s x 24 ho 3 i _ 1 8 Tryd.underlying24 hi hz hsz hby rfl (by decide) (some ⟨g, off, none⟩) st.length cap (st.map (Value.int .i64)) hs (fun e => by cases e) (by simp) (fun b hb j u hu => ?_) ⟨B, 0, none⟩ 1 c [.int .i64 n] hx rfl hnews (by simp [Value.oneCell']) (by omega) (by unfold maxLen; omega) (by omega) ?_
      · obtain rfl := Option.some.inj hb
        have hj : j < st.length := by
          have := (List.getElem?_eq_some_iff.1 hu).1
          simpa using this
        rw [List.getElem?_map, List.getElem?_eq_getElem hj] at hu
        simp at hu
        subst hu
        rw [Addr.add_lit]
        exact h4 j hj
      · intro v' w' ho' hg'
        exact h v' w' (hmk v' w' ho' hg')
end

theorem cell_new1 (w : World) (x : Value) : (w.alloc (.cells #[x] 3)).cell? ⟨w.heap.size, 0, none⟩ = some x := by simp

theorem queM_push {st : List Int} {k a : Int} (h : k = 9) : queM st k a = (st ++ [a], 0) := by simp [queM, h]
theorem queM_none {k a : Int} (h : k ≠ 9) : queM [] k a = ([], -1) := by simp [queM, h]
theorem queM_pop {st : List Int} {k a : Int} (h : k ≠ 9) (h0 : 0 < st.length) : queM st k a = (st.drop 1, st[0]) := by
  cases st with
  | nil => simp at h0
  | cons x r => simp [queM, h]
theorem staM_push {st : List Int} {k a : Int} (h : k = 9) : staM st k a = (st ++ [a], 0) := by simp [staM, h]
theorem staM_none {k a : Int} (h : k ≠ 9) : staM [] k a = ([], -1) := by simp [staM, h]
theorem staM_pop {st : List Int} {k a : Int} (h : k ≠ 9) (h0 : 0 < st.length) : staM st k a = (st.take (st.length - 1), st[st.length - 1]) := by
  have : st ≠ [] := fun e => by simp [e] at h0
  simp [staM, h, this, List.getD_eq_getElem?_getD, List.getElem?_eq_getElem (show st.length - 1 < st.length by omega)]

theorem RowAt.drop1 {w : World} {base g off cap : Nat} {st : List Int} (h : RowAt w base (.slice (some ⟨g, off, none⟩) st.length cap) st) (h0 : 0 < st.length) :
    RowAt w base (.slice (if cap = 1 then some ⟨g, off, none⟩ else some ⟨g, off + 1, none⟩) (st.length - 1) (cap - 1)) (st.drop 1) := by
  rcases h with ⟨h, _⟩ | ⟨g', off', cap', cur, e, hb, hg, h1, h2, h3, h4⟩
  · cases h
  · obtain ⟨⟨rfl, rfl⟩, rfl⟩ : (g = g' ∧ off = off') ∧ cap = cap' := by simpa using e
    by_cases hc : cap = 1
    · rw [if_pos hc]
      refine rowAt_put hb ⟨cur, hg, rfl⟩ (by simp; omega) (by omega) (by omega) (fun j hj => ?_) (by simp)
      simp at hj; omega
    · rw [if_neg hc]
      refine rowAt_put hb ⟨cur, hg, rfl⟩ (by simp; omega) (by omega) (by omega) (fun j hj => ?_) (by simp)
      have := h4 (1 + j) (by simp at hj; omega)
      rw [List.getElem_drop, show off + 1 + j = off + (1 + j) by omega]
      exact this

theorem RowAt.init {w : World} {base g off cap : Nat} {st : List Int} (h : RowAt w base (.slice (some ⟨g, off, none⟩) st.length cap) st) :
    RowAt w base (.slice (some ⟨g, off, none⟩) (st.length - 1) cap) (st.take (st.length - 1)) := by
  rcases h with ⟨h, _⟩ | ⟨g', off', cap', cur, e, hb, hg, h1, h2, h3, h4⟩
  · cases h
  · obtain ⟨⟨rfl, rfl⟩, rfl⟩ : (g = g' ∧ off = off') ∧ cap = cap' := by simpa using e
    refine rowAt_put hb ⟨cur, hg, rfl⟩ (by simp; omega) (by omega) (by omega) (fun j hj => ?_) (by simp)
    rw [List.getElem_take]
    exact h4 j (by simp at hj; omega)

end Go.Proofs.YthmiocbihhbdpaaDoor

namespace Go.Proofs.YthmiocbihhbdpaaDoor
open Go.RowKit

/-- A row of one-cell values of type 46 (slices of bools) that is one's own. -/
def RowG (w : World) (base : Nat) (v : Value) (xs : List Value) : Prop :=
  (v = .slice none 0 0 ∧ xs = []) ∨
  ∃ g off cap cur, v = .slice (some ⟨g, off, none⟩) xs.length cap ∧ base ≤ g ∧ w.heap[g]? = some (.cells cur 52 (0, 0)) ∧ xs.length ≤ cap ∧ off + cap ≤ cur.size ∧ cap ≤ maxLen ∧
    ∀ j, (hj : j < xs.length) → w.cell? ⟨g, off + j, none⟩ = some xs[j]
theorem RowG.lt {w : World} {base : Nat} {v : Value} {xs : List Value} (h : RowG w base v xs) : ∀ k, v.ownBlock = some k → base ≤ k ∧ k < w.heap.size := by
  intro k hk
  rcases h with ⟨rfl, _⟩ | ⟨g, off, cap, cur, rfl, hb, hg, _⟩
  · cases hk
  · obtain rfl : g = k := by simpa [Value.ownBlock] using hk
    exact ⟨hb, lt_of_heap hg⟩
theorem RowG.block {w w' : World} {base : Nat} {v : Value} {xs : List Value} (h : RowG w base v xs) (hb : ∀ k, v.ownBlock = some k → w'.heap[k]? = w.heap[k]?) : RowG w' base v xs := by
  rcases h with h | ⟨g, off, cap, cur, rfl, h0, hh, h1, h2, h4, h5⟩
  · exact .inl h
  · have e := hb g rfl
    exact .inr ⟨g, off, cap, cur, rfl, h0, e.trans hh, h1, h2, h4, fun j hj => (World.cell?_of_block (a := ⟨g, off + j, none⟩) e).trans (h5 j hj)⟩
theorem RowG.base {w : World} {base base' : Nat} {v : Value} {xs : List Value} (h : RowG w base v xs) (hb : base' ≤ base) : RowG w base' v xs := by
  rcases h with h | ⟨g, off, cap, cur, rfl, h0, h⟩
  · exact .inl h
  · exact .inr ⟨g, off, cap, cur, rfl, by omega, h⟩
theorem rowG_owns {w : World} {base : Nat} {v : Value} {xs : List Value} {n : Nat} (hn : n = xs.length) (h : w.ownsRow base 52 1 v n xs) : RowG w base v xs := by
  subst hn
  obtain ⟨_, ⟨rfl, h0⟩ | ⟨g, cap, cur, rfl, hb, hg, h1, h2, h3, h4⟩⟩ := h
  · exact .inl ⟨rfl, List.length_eq_zero_iff.1 h0⟩
  · refine .inr ⟨g, 0, cap, cur, rfl, hb, hg, h1, by omega, h2, fun j hj => ?_⟩
    rw [cell_of_row w g _ cur 52 (0, 0) hg, Nat.zero_add]
    have := congrArg (·[j]?) h4
    simp only [Nat.mul_one] at this
    rw [List.getElem?_take_of_lt hj, List.getElem?_eq_getElem hj] at this
    simpa using this
theorem some_of_heapG {w : World} {g : Nat} {cur : Array Value} {t : TypeId} (h : w.heap[g]? = some (.cells cur t (0, 0))) {i : Nat} (hi : i < cur.size) : (w.cell? ⟨g, i, none⟩).isSome = true := by
  rw [cell_of_row w g i cur t (0, 0) h, Array.getElem?_eq_getElem hi]; rfl

/-- What an append leaves. -/
structure TurnedG (w : World) (base : Nat) (v : Value) (w' : World) (v' : Value) (xs' : List Value) : Prop where
  row : RowG w' base v' xs'
  grown : w.grownBy w' v.ownBlock
  own : ∀ k, v'.ownBlock = some k → v.ownBlock = some k ∨ w.heap.size ≤ k

theorem wpList_append_rowG {w : World} {ops : Array Oper} {rest : List Oper} {o : Oper} {a : Act} {Q : Exit → Act → World → Prop} (hgd : o.guard = none) (s x : Operand)
    (ho : o.op = .call { callee := .builtin .append, args := #[s, x], argTypes := #[53, 53] })
    (base : Nat) (v : Value) (xs : List Value) (hs : a.eval s = v) (hrow : RowG w base v xs)
    (B c : Nat) (n : Value) (h1c : n.oneCell' = true) (hx : a.eval x = .slice (some ⟨B, 0, none⟩) 1 c) (hn : w.cell? ⟨B, 0, none⟩ = some n)
    (hlen : xs.length ≤ 100000) (hbase : base ≤ w.heap.size)
    (h : ∀ v' w', TurnedG w base v w' v' (xs ++ [n]) → wpList Tryd.prog ops Q rest (a.put o.dst v') w') : wpList Tryd.prog ops Q (o :: rest) a w := by
  obtain ⟨i, hi, hz, hsz, hby⟩ := info_parts' info46
  have hnews : ∀ j u, [n][j]? = some u → w.cell? ((⟨B, 0, none⟩ : Addr).add j) = some u := by
    intro j u hj
    match j, hj with
    | 0, hj => simp at hj; subst hj; simpa [Addr.add] using hn
  have h1s : ∀ u ∈ [n], u.oneCell' = true := by simpa using h1c
  have hmk : ∀ v' w', w'.ownsRow w.heap.size 52 1 v' (xs.length + 1) (xs ++ [n]) → w.grownBy w' none → TurnedG w base v w' v' (xs ++ [n]) := by
    intro v' w' ho' hg
    have hr : RowG w' w.heap.size v' (xs ++ [n]) := rowG_owns (by simp) ho'
    exact ⟨hr.base hbase, hg.but _, fun k hk => .inr (hr.lt k hk).1⟩
  rcases hrow with ⟨rfl, rfl⟩ | ⟨g, off, cap, cur, rfl, hb, hg, h1, h2, h3, h4⟩
  · refine wpList_append_grows w hgd s x 53 ho 52 i _ 1 24 Tryd.underlying53 hi hz hsz hby rfl (by decide) none 0 0 [] hs (fun _ => ⟨rfl, rfl⟩) rfl (fun b hb => by cases hb) ⟨B, 0, none⟩ 1 c [n] hx rfl hnews h1s (by decide) (by decide) (by decide) ?_
    intro v' w' ho' hg'
    exact h v' w' (hmk v' w' ho' hg')
  · by_cases hroom : xs.length + 1 ≤ cap
    · refine wpList_append_room1 w hgd s x 53 53 ho 52 (.slice none 0 0) 24 Tryd.underlying53 info46 g off xs.length cap hs _ hx 1 [n]
        (Src.ofSlice w Tryd.underlying53 ⟨B, 0, none⟩ 1 c [n] (by simp) hnews h1s) hroom
        (fun j hj => some_of_heapG hg (by simp at hj; omega)) (fun j _ => frozen_of_row w g _ cur 52 hg) ?_
      have hc : (w.setCells g (off + xs.length) [n]).cell? ⟨g, off + xs.length, none⟩ = some n := by
        simpa using World.cell?_setCells_in g [n] (off + xs.length) w (fun j hj => some_of_heapG hg (by simp at hj; omega)) 0 (by simp)
      obtain ⟨cur', e1, e2⟩ := heap_setCells [n] (off + xs.length) w cur hg
      have hcell : ∀ j, (hj : j < (xs ++ [n]).length) → (w.setCells g (off + xs.length) [n]).cell? ⟨g, off + j, none⟩ = some (xs ++ [n])[j] := fun j hj => by
        by_cases hj' : j < xs.length
        · rw [List.getElem_append_left hj', World.cell?_setCells_out g _ _ _ _ (fun _ _ => .inl (by show off + j < off + xs.length; omega))]
          exact h4 j hj'
        · obtain rfl : j = xs.length := by simp at hj; omega
          rw [hc]; simp
      have hlen1 : (xs ++ [n]).length = xs.length + 1 := by simp
      refine h _ _ ⟨.inr ⟨g, off, cap, cur', by rw [hlen1], hb, e1, by rw [hlen1]; exact hroom, by omega, h3, hcell⟩, grown_setCells _ _ _ _, fun k hk => .inl hk⟩
    · refine wpList_append_grows w hgd s x 53 ho 52 i _ 1 24 Tryd.underlying53 hi hz hsz hby rfl (by decide) (some ⟨g, off, none⟩) xs.length cap xs hs (fun e => by cases e) (by simp) (fun b hb j u hu => ?_) ⟨B, 0, none⟩ 1 c [n] hx rfl hnews h1s (by omega) (by unfold maxLen; omega) (by omega) ?_
      · obtain rfl := Option.some.inj hb
        have hj : j < xs.length := (List.getElem?_eq_some_iff.1 hu).1
        rw [List.getElem?_eq_getElem hj] at hu
        obtain rfl := Option.some.inj hu
        rw [Addr.add_lit]
        exact h4 j hj
      · intro v' w' ho' hg'
        exact h v' w' (hmk v' w' ho' hg')

/-- Rows of bools, told one behind the other; all their blocks lie from base on. -/
structure OutAt (w : World) (base n : Nat) (v : Value) (gs : List Nat) (A : Nat → Nat → Bool) : Prop where
  row : RowG w base v (gs.map fun g => .slice (some ⟨g, 0, none⟩) n n)
  bits : ∀ j, (hj : j < gs.length) → BitsAt w gs[j] n (A j) ∧ base ≤ gs[j] ∧ v.ownBlock ≠ some gs[j]
theorem outAt_nil (w : World) (base n : Nat) (A : Nat → Nat → Bool) : OutAt w base n (.slice none 0 0) [] A := ⟨.inl ⟨rfl, rfl⟩, fun j hj => absurd hj (by simp)⟩
theorem OutAt.below {w w' : World} {base n B : Nat} {v : Value} {gs : List Nat} {A : Nat → Nat → Bool} (h : OutAt w base n v gs A) (hb : Below B w w') (hB : w.heap.size ≤ B) : OutAt w' base n v gs A :=
  ⟨h.row.block fun k hk => hb.block k (Nat.lt_of_lt_of_le (h.row.lt k hk).2 hB), fun j hj => ⟨(h.bits j hj).1.below hb (Nat.lt_of_lt_of_le (h.bits j hj).1.lt hB), (h.bits j hj).2⟩⟩
theorem OutAt.same {w : World} {base n : Nat} {v : Value} {gs : List Nat} {A A' : Nat → Nat → Bool} (h : OutAt w base n v gs A) (e : ∀ i k, i < gs.length → k < n → A i k = A' i k) : OutAt w base n v gs A' :=
  ⟨h.row, fun j hj => ⟨(h.bits j hj).1.same fun k hk => e j k hj hk, (h.bits j hj).2⟩⟩
/-- One more row. -/
theorem OutAt.more {w w' : World} {base n g : Nat} {v v' : Value} {gs : List Nat} {A : Nat → Nat → Bool} {S : Nat → Bool} (h : OutAt w base n v gs A) (hg : BitsAt w g n S) (hb : base ≤ g) (hv : v.ownBlock ≠ some g)
    (ht : TurnedG w base v w' v' (gs.map (fun g => .slice (some ⟨g, 0, none⟩) n n) ++ [.slice (some ⟨g, 0, none⟩) n n])) : OutAt w' base n v' (gs ++ [g]) (fun i => if i = gs.length then S else A i) := by
  have hkeep : ∀ {k : Nat} {f : Nat → Bool}, BitsAt w k n f → v.ownBlock ≠ some k → BitsAt w' k n f ∧ v'.ownBlock ≠ some k := fun {k f} hk hne => by
    have hkl := hk.lt
    refine ⟨hk.block (ht.grown.block k hkl (fun e => hne e.symm)), fun e => ?_⟩
    rcases ht.own k e with h1 | h1
    · exact hne h1
    · omega
  refine ⟨by rw [List.map_append]; exact ht.row, fun j hj => ?_⟩
  by_cases e : j < gs.length
  · rw [List.getElem_append_left e]
    obtain ⟨h1, h2, h3⟩ := h.bits j e
    have := hkeep h1 h3
    simp only [if_neg (show ¬ j = gs.length by omega)]
    exact ⟨this.1, h2, this.2⟩
  · obtain rfl : j = gs.length := by simp at hj; omega
    have := hkeep hg hv
    simp only [if_true]
    rw [List.getElem_append_right (Nat.le_refl _)]
    simp only [Nat.sub_self, List.getElem_cons_zero]
    exact ⟨this.1, hb, this.2⟩
/-- How it reads, as a matrix. -/
theorem OutAt.read {w : World} {base n : Nat} {v : Value} {gs : List Nat} {A : Nat → Nat → Bool} (h : OutAt w base n v gs A) (h0 : 0 < gs.length) :
    ∃ g off cap, v = .slice (some ⟨g, off, none⟩) gs.length cap ∧ gs.length ≤ cap ∧ ∀ i, (hi : i < gs.length) → w.cell? ⟨g, off + i, none⟩ = some (.slice (some ⟨gs[i], 0, none⟩) n n) ∧ ∀ k, k < n → w.cell? ⟨gs[i], k, none⟩ = some (.bool (A i k)) := by
  rcases h.row with ⟨_, e⟩ | ⟨g, off, cap, cur, e, hb, hg, h1, h2, h3, h4⟩
  · have := congrArg List.length e; simp at this; subst this; simp at h0
  · rw [List.length_map] at e h1
    refine ⟨g, off, cap, e, h1, fun i hi => ⟨?_, fun k hk => (h.bits i hi).1.bit k hk⟩⟩
    have := h4 i (by simpa using hi)
    simpa using this

/-! ### counting what was not seen, off the memory -/
def seenOf (w : World) (g : Nat) : Nat → Bool := fun k => match w.cell? ⟨g, k, none⟩ with
  | some (.bool b) => b
  | _ => false
def lenOf : Value → Nat
  | .slice _ n _ => n
  | _ => 0
theorem leftN_congr {S S' : Nat → Bool} : ∀ n, (∀ k, k < n → S k = S' k) → leftN S n = leftN S' n
  | 0, _ => rfl
  | n + 1, h => by
    unfold leftN
    rw [leftN_congr n (fun k hk => h k (by omega)), h n (by omega)]
theorem seenOf_bits {w : World} {g n : Nat} {S : Nat → Bool} (h : BitsAt w g n S) : leftN (seenOf w g) n = leftN S n := leftN_congr n fun k hk => by unfold seenOf; rw [h.bit k hk]
theorem RowAt.lenOf {w : World} {base : Nat} {v : Value} {st : List Int} (h : RowAt w base v st) : lenOf v = st.length := by
  rcases h with ⟨rfl, rfl⟩ | ⟨g, off, cap, cur, rfl, _⟩ <;> rfl

end Go.Proofs.YthmiocbihhbdpaaDoor

namespace Go.Proofs.YthmiocbihhbdpaaDoor
open Go.RowKit

theorem map_cons_nat {i : Nat} {r : List Nat} : (i :: r).map (fun n : Nat => (n : Int)) = (i : Int) :: r.map (fun n : Nat => (n : Int)) := rfl

theorem RowAt.belowR {w w' : World} {base : Nat} {v : Value} {st : List Int} (h : RowAt w base v st) (hb : Below w.heap.size w w') : RowAt w' base v st := by
  rcases h with h | ⟨g, off, cap, cur, rfl, h0, hh, h1, h2, h4, h5⟩
  · exact .inl h
  · have e := hb.block g (lt_of_heap hh)
    exact .inr ⟨g, off, cap, cur, rfl, h0, e.trans hh, h1, h2, h4, fun j hj => (World.cell?_of_block (a := ⟨g, off + j, none⟩) e).trans (h5 j hj)⟩
theorem RowAt.setOther {w : World} {base : Nat} {v : Value} {st : List Int} (h : RowAt w base v st) {p : Addr} (hp : p.block < base) (u : Value) : RowAt (w.setCell p u) base v st :=
  h.kept (grown_setCell w p u) (.inr fun e => by have := (h.lt p.block e).1; omega)
theorem RowAt.slice {w : World} {base : Nat} {v : Value} {st : List Int} (h : RowAt w base v st) : ∃ a cap, v = .slice a st.length cap := by
  rcases h with ⟨rfl, rfl⟩ | ⟨g, off, cap, cur, rfl, _⟩
  · exact ⟨none, 0, rfl⟩
  · exact ⟨_, _, rfl⟩
theorem cell_new_set (w2 : World) (Z k : Nat) : ((w2.setCell ⟨Z, k, none⟩ (.bool true)).alloc (.cells #[.int .i64 (k : Nat)] 3)).cell? ⟨w2.heap.size, 0, none⟩ = some (.int .i64 (k : Nat)) := by
  have e := heap_alloc_new (w2.setCell ⟨Z, k, none⟩ (.bool true)) (.cells #[.int .i64 (k : Nat)] 3)
  have es : (w2.setCell ⟨Z, k, none⟩ (.bool true)).heap.size = w2.heap.size := by simp
  rw [es] at e
  rw [cell_of_row _ _ 0 _ 3 _ e]; rfl
/-- What the state of a walk is behind a step. -/
theorem step_seen {w2 w3 : World} {Z n k : Nat} {S : Nat → Bool} {v v' : Value} {st st' : List Int} {w0 : World} (hbits : BitsAt w2 Z n S) (hk : k < n) (hrow : RowAt w2 (Z + 1) v st) (hb : Below Z w0 w2)
    (ht : Turned ((w2.setCell ⟨Z, k, none⟩ (.bool true)).alloc (.cells #[.int .i64 (k : Nat)] 3)) (Z + 1) v w3 v' st') :
    BitsAt w3 Z n (putB S k) ∧ RowAt w3 (Z + 1) v' st' ∧ Below Z w0 w3 ∧ w2.heap.size ≤ w3.heap.size := by
  have hZ := hbits.lt
  have h1 : BitsAt ((w2.setCell ⟨Z, k, none⟩ (.bool true)).alloc (.cells #[.int .i64 (k : Nat)] 3)) Z n (putB S k) := ((hbits.put hk true).block (w' := (w2.setCell ⟨Z, k, none⟩ (.bool true)).alloc (.cells #[.int .i64 (k : Nat)] 3)) (Below.heap_alloc _ _ Z (by simp; exact hZ))).same fun j _ => by unfold putB; rfl
  have hown : ∀ j, v.ownBlock = some j → Z + 1 ≤ j := fun j hj => (hrow.lt j hj).1
  have hne : some Z ≠ v.ownBlock := fun e => by have := hown Z e.symm; omega
  refine ⟨h1.block (ht.grown.block Z (by simp; omega) hne), ht.row, ?_, ?_⟩
  · have hb1 : Below Z w0 ((w2.setCell ⟨Z, k, none⟩ (.bool true)).alloc (.cells #[.int .i64 (k : Nat)] 3)) := (hb.setCell (p := ⟨Z, k, none⟩) (Nat.le_refl _) _).alloc (by simp; omega) _
    exact hb1.grown ht.grown (by simp; omega) (fun j hj => by have := hown j hj; omega)
  · have := ht.grown.size
    simp at this; omega

set_option maxRecDepth 100000 in
set_option maxHeartbeats 4000000 in
theorem walks_any (n : Nat) (R : Nat → Nat → Bool) (Bx : Nat) (w : World) (hn : n ≤ 60)
    (hc : ∀ W i k, Below w.heap.size w W → i < n → k < n → Calls Tryd.prog 18 #[.int .i64 (i : Nat), .int .i64 (k : Nat), .pointer (some ⟨Bx, 0, none⟩)] W fun e w' => e = .returned (.bool (R i k)) ∧ Below W.heap.size W w') :
    Calls Tryd.prog 17 #[.int .i64 (n : Nat), .func (.func 18) #[] #[.pointer (some ⟨Bx, 0, none⟩)]] w fun e w' => ∃ v gs A, e = .returned v ∧ OutAt w' w.heap.size n v gs A ∧ gs.length = n ∧ (∀ i k, i < n → k < n → (A i k = true ↔ Way R n i k)) ∧ Below w.heap.size w w' := by
  have HC := hideIt hc
  clear hc
  go_enter Tryd.func17, Tryd.ntmps17
  go_wp2
  go_loopw [5, 12] (fun v i wr => ∃ (a : Nat) (gs : List Nat) (A : Nat → Nat → Bool), a ≤ n ∧ i = .int .i64 a ∧ gs.length = a ∧ OutAt wr w.heap.size n v gs A ∧ (∀ i k, i < a → k < n → (A i k = true ↔ Way R n i k)) ∧ Below w.heap.size w wr) (fun _ i _ => n - (intOf i).toNat)
  case atStart => exact ⟨0, [], fun _ _ => false, Nat.zero_le _, rfl, rfl, outAt_nil _ _ _ _, fun i k hi => absurd hi (by omega), Below.refl _ _⟩
  case round =>
    obtain ⟨a, gs, A, ha, rfl, hgs, hout, hA, hb⟩ := hrel
    have HOut := hideIt hout
    have HA := hideIt hA
    have HB := hideIt hb
    clear hout hA hb
    by_cases han : a < n
    · have hmk := made_bits wr n hn
      have HF1 : Hid (BitsAt ((wr.alloc (.cells (madeCells #[.bool false] n) 4)).alloc (.cells #[.int .i64 (a : Nat)] 3)) wr.heap.size n (fun _ => false) ∧
          RowAt ((wr.alloc (.cells (madeCells #[.bool false] n) 4)).alloc (.cells #[.int .i64 (a : Nat)] 3)) (wr.heap.size + 1) (.slice (some ⟨wr.heap.size + 1, 0, none⟩) 1 1) [(a : Int)] ∧
          Below wr.heap.size wr ((wr.alloc (.cells (madeCells #[.bool false] n) 4)).alloc (.cells #[.int .i64 (a : Nat)] 3)) ∧ wr.heap.size + 1 ≤ ((wr.alloc (.cells (madeCells #[.bool false] n) 4)).alloc (.cells #[.int .i64 (a : Nat)] 3)).heap.size) := by
        have hs : (wr.alloc (.cells (madeCells #[.bool false] n) 4)).heap.size = wr.heap.size + 1 := by simp
        have hnew := heap_alloc_new (wr.alloc (.cells (madeCells #[.bool false] n) 4)) (.cells #[.int .i64 (a : Nat)] 3)
        rw [hs] at hnew
        refine ⟨(bits_made wr n).block (Below.heap_alloc _ _ _ (by simp)), .inr ⟨wr.heap.size + 1, 0, 1, _, rfl, Nat.le_refl _, hnew, Nat.le_refl _, by simp, by decide, fun j hj => ?_⟩, belA (belA (Below.refl _ _) _) _, by simp⟩
        obtain rfl : j = 0 := by simp at hj; exact hj
        rw [cell_of_row _ _ _ _ 3 _ hnew]; rfl
      have HFr : Hid (∀ wz, Below wr.heap.size wr wz → Below w.heap.size w wz ∧ OutAt wz w.heap.size n u5 gs A ∧ (∀ k, u5.ownBlock = some k → k < wr.heap.size) ∧ w.heap.size ≤ wr.heap.size) := fun wz hz =>
        ⟨HB.out.trans (hz.mono HB.out.size), HOut.out.below hz (Nat.le_refl _), fun k hk => (HOut.out.row.lt k hk).2, HB.out.size⟩
      clear HOut HB
      go_wp2
      clear hmk
      generalize wr.heap.size = Z at HF1 HFr ⊢
      obtain ⟨wr_, HWR⟩ : ∃ wr_, Hid (wr = wr_) := ⟨_, hideIt rfl⟩
      rw [HWR.out] at HFr
      go_loopw [8] (fun v wz => ∃ (S : Nat → Bool) (todo : List Nat), RowAt wz (Z + 1) v (todo.map fun q : Nat => (q : Int)) ∧ BitsAt wz Z n S ∧ WalkT R n a S todo ∧ 2 * leftN S n + todo.length ≤ 2 * n + 1 ∧ Below Z wr_ wz ∧ Z + 1 ≤ wz.heap.size) (fun v wz => 2 * leftN (seenOf wz Z) n + lenOf v)
      case atStart =>
        obtain ⟨f1, f2, f3, f4⟩ := HF1.out
        exact ⟨fun _ => false, [a], f2, f1, WalkT.begin han, by have := leftN_le (fun _ => false) n; simp; omega, HWR.out ▸ f3, f4⟩
      case round =>
        clear HF1
        obtain ⟨S, todo, hrow, hbits, hwk, hms, hbz, hzs⟩ := hrel
        have HBits := hideIt hbits
        have HBz := hideIt hbz
        have HWk := hideIt hwk
        have HMs := hideIt hms
        have HM0 : Hid (2 * leftN (seenOf wr Z) n + lenOf u8 = 2 * leftN S n + todo.length) := by
          show 2 * leftN (seenOf wr Z) n + lenOf u8 = 2 * leftN S n + todo.length
          rw [seenOf_bits hbits, hrow.lenOf, List.length_map]
        clear hbits hbz hwk hms
        cases todo with
        | nil =>
          obtain ⟨va, vc, rfl⟩ := hrow.slice
          rw [List.map_nil, List.length_nil]
          have HOv : Hid (∀ k, k < n → (S k = true ↔ Way R n a k)) := fun k hk => HWk.out.over hk
          obtain ⟨g1, g2, g3, g4⟩ := HFr.out _ HBz.out
          have HO2 := hideIt g2
          have HG1 := hideIt g1
          have HLt := hideIt g3
          have HZ4 := hideIt g4
          clear g1 g2 g3 hrow
          go_wp2_with (at_builtin; refine wpList_append_rowG rfl _ _ rfl w.heap.size _ _ rfl ((HO2.out.row).block (fun k hk => Below.heap_alloc _ _ k (HO2.out.row.lt k hk).2)) wr.heap.size 1 (.slice (some ⟨Z, 0, none⟩) n n) rfl rfl ?c1 ?c2 ?c3 ?_)
          case c1 => simp
          case c2 => simp; omega
          case c3 => have := HG1.out.size; simp; omega
          intro v' w3 ht
          have HO3 : Hid (OutAt w3 w.heap.size n v' (gs ++ [Z]) (fun i => if i = gs.length then S else A i)) :=
            (HO2.out.below (belA (Below.refl _ _) _) (Nat.le_refl _)).more (HBits.out.below (belA (Below.refl _ _) _) HBits.out.lt) HZ4.out (fun e => by have := HLt.out Z e; omega) ht
          have HB3 : Hid (Below w.heap.size w w3) := (belA HG1.out _).grown ht.grown (by have := HG1.out.size; simp; omega) (fun k hk => (HO2.out.row.lt k hk).1)
          have HA3 : Hid (∀ i k, i < a + 1 → k < n → ((if i = gs.length then S else A i) k = true ↔ Way R n i k)) := fun i k hi hk => by
            by_cases e : i = gs.length
            · rw [if_pos e, e, hgs]; exact HOv.out k hk
            · rw [if_neg e]; exact HA.out i k (by omega) hk
          have HL3 : Hid ((gs ++ [Z]).length = a + 1) := by show (gs ++ [Z]).length = a + 1; rw [List.length_append, hgs]; rfl
          clear ht
          go_wp2
          go_roundw
          case rel => exact ⟨a + 1, _, _, by omega, by go_num, HL3.out, HO3.out, HA3.out, HB3.out⟩
          case measure => simp [intOf]; omega
        | cons i rest =>
          rw [map_cons_nat] at hrow
          obtain ⟨hin, _⟩ := HWk.out.mem i (by simp)
          have HWM := hideIt HWk.out.take
          have hrl : rest.length ≤ 200 := by have := HMs.out; simp at this; omega
          rcases hrow with ⟨_, h⟩ | ⟨g, off, cap, cur, hv, hgb, hgh, h1, h2, h3, h4⟩
          · cases h
          have HR0 : Hid (RowAt wr (Z + 1) (.slice (some ⟨g, off, none⟩) ((i : Int) :: rest.map fun q : Nat => (q : Int)).length cap) ((i : Int) :: rest.map fun q : Nat => (q : Int))) := .inr ⟨g, off, cap, cur, rfl, hgb, hgh, h1, h2, h3, h4⟩
          have HR1 := hideIt (HR0.out.drop1 (by simp))
          have c1 := h4 0 (by simp)
          rw [Nat.add_zero, List.getElem_cons_zero] at c1
          have hcap : cap ≤ 9223372036854775807 := by unfold maxLen at h3; omega
          have hlen : ((i : Int) :: rest.map fun q : Nat => (q : Int)).length = rest.length + 1 := by simp
          rw [hlen] at hv h1 HR1
          have HMr : Hid (2 * leftN S n + rest.length < 2 * leftN (seenOf wr Z) n + lenOf u8 ∧ 2 * leftN S n + rest.length ≤ 2 * n + 1) := by
            show 2 * leftN S n + rest.length < 2 * leftN (seenOf wr Z) n + lenOf u8 ∧ 2 * leftN S n + rest.length ≤ 2 * n + 1
            have h5 := HM0.out
            have h6 := HMs.out
            simp at h5 h6
            omega
          subst hv
          rw [show (List.drop 1 ((i : Int) :: rest.map fun q : Nat => (q : Int))) = rest.map (fun q : Nat => (q : Int)) from rfl, show rest.length + 1 - 1 = rest.length from rfl] at HR1
          have k1 : (1 : Int) ≤ (rest.length : Int) + 1 := by omega
          have k2 : (rest.length : Int) + 1 ≤ (cap : Int) := by omega
          have k3 : (0 : Int) < (rest.length : Int) + 1 := by omega
          have k5 : (1 : Int) ≤ (cap : Int) := by omega
          clear HR0 HWk HM0 HMs h4 hgh h2 h3 hgb hlen
          obtain ⟨Q0, HQ⟩ : ∃ Q0, Hid (2 * leftN S n + rest.length ≤ Q0 ∧ Q0 < 2 * leftN (seenOf wr Z) n + lenOf (.slice (some ⟨g, off, none⟩) (rest.length + 1) cap) ∧ Q0 ≤ 2 * n + 1) := ⟨_, hideIt ⟨Nat.le_refl _, HMr.out⟩⟩
          clear HMr
          by_cases hc1 : cap = 1
          · subst hc1
            have HR2 : Hid (RowAt wr (Z + 1) (.slice (some ⟨g, off, none⟩) rest.length 0) (rest.map fun q : Nat => (q : Int))) := by
              have := HR1.out
              rw [if_pos rfl] at this
              exact this
            clear HR1 h1
            go_wp2
            clear k1 k2 k3 k5
            go_loopw [8, 28] (fun v q wz => ∃ (k : Nat) (S : Nat → Bool) (todo : List Nat), k ≤ n ∧ q = .int .i64 k ∧ RowAt wz (Z + 1) v (todo.map fun q : Nat => (q : Int)) ∧ BitsAt wz Z n S ∧ WalkM R n a i k S todo ∧ 2 * leftN S n + todo.length ≤ Q0 ∧ Below Z wr_ wz ∧ Z + 1 ≤ wz.heap.size) (fun _ q _ => n - (intOf q).toNat)
            case atStart => exact ⟨0, S, rest, Nat.zero_le _, rfl, HR2.out, HBits.out, HWM.out, HQ.out.1, HBz.out, hzs⟩
            case round =>
              clear HR2 HBits HWM HBz hzs hrl
              obtain ⟨k, S, todo, hk, rfl, hrow, hbits, hwm, hms, hbz, hzs⟩ := hrel
              have HRow := hideIt hrow
              have HBits := hideIt hbits
              have HWM := hideIt hwm
              have HMs := hideIt hms
              have HBz := hideIt hbz
              have htl : todo.length ≤ 200 := by have := HQ.out.2.2; omega
              clear hrow hbits hwm hms hbz
              by_cases hkn : k < n
              · have HCa := hideIt (HC.out wr i k (HFr.out _ HBz.out).1 hin hkn)
                cases hR : R i k
                · rw [hR] at HCa
                  have R1 := hideIt (HWM.out.skip (by rw [hR]; rfl))
                  clear hR
                  go_wp2_with (go_at_call 18; refine HCa.out.mono ?_; rintro e w2 ⟨rfl, hb2⟩)
                  go_roundw
                  case rel => exact ⟨k + 1, S, todo, by omega, by go_num, HRow.out.belowR hb2, HBits.out.below hb2 HBits.out.lt, R1.out, HMs.out, HBz.out.trans (hb2.mono (Nat.le_of_lt HBits.out.lt)), Nat.le_trans hzs hb2.size⟩
                  case measure => simp [intOf]; omega
                · rw [hR] at HCa
                  cases hS : S k
                  · have hRS : (R i k && !S k) = true := by rw [hR, hS]; rfl
                    have R1 := hideIt (HWM.out.go hkn hRS)
                    have R2 : Hid (2 * leftN (putB S k) n + (todo ++ [k]).length ≤ Q0) := by
                      show 2 * leftN (putB S k) n + (todo ++ [k]).length ≤ Q0
                      have h1 := (leftN_put hS n).2 hkn
                      have h2 := HMs.out
                      rw [List.length_append, List.length_singleton]
                      omega
                    have HK : Hid (∀ w2, Below wr.heap.size wr w2 → w2.cell? ⟨Z, k, none⟩ = some (.bool false) ∧ w2.frozen? ⟨Z, k, none⟩ = false ∧ BitsAt w2 Z n S ∧ RowAt w2 (Z + 1) u8 (todo.map fun q : Nat => (q : Int)) ∧ Below Z wr_ w2 ∧ Z + 1 ≤ w2.heap.size) := fun w2 hb2 => by
                      have hbb := HBits.out.below hb2 HBits.out.lt
                      exact ⟨by rw [hbb.bit k hkn, hS], hbb.fz k, hbb, HRow.out.belowR hb2, HBz.out.trans (hb2.mono (Nat.le_of_lt HBits.out.lt)), Nat.le_trans hzs hb2.size⟩
                    clear hR hS hRS
                    go_wp2_with (first | (go_at_call 18; refine HCa.out.mono ?_; rintro e w2 ⟨rfl, hb2⟩; obtain ⟨k1, k2, hbb, hrr, hbz2, hzs2⟩ := HK.out w2 hb2; have HBB := hideIt hbb; have HRR := hideIt hrr; have HBZ2 := hideIt hbz2; clear hbb hrr hbz2) | (at_builtin; refine wpList_append_row rfl _ _ rfl (Z + 1) u8 (todo.map fun q : Nat => (q : Int)) rfl ((HRR.out.setOther (p := ⟨Z, k, none⟩) (Nat.lt_succ_self Z) (.bool true)).belowR (belA (Below.refl _ _) _)) w2.heap.size 1 (k : Int) rfl ?c1 ?c2 ?c3 ?_))
                    case c1 => exact cell_new_set w2 Z k
                    case c2 => simp; omega
                    case c3 => simp; omega
                    intro v' w3 ht
                    obtain ⟨g1, g2, g3, g4⟩ := step_seen HBB.out hkn HRR.out HBZ2.out ht
                    have HG1 := hideIt g1
                    have HG2 : Hid (RowAt w3 (Z + 1) v' ((todo ++ [k]).map fun q : Nat => (q : Int))) := by
                      show RowAt w3 (Z + 1) v' ((todo ++ [k]).map fun q : Nat => (q : Int))
                      rw [List.map_append]; exact g2
                    have HG3 := hideIt g3
                    have hg4 : Z + 1 ≤ w3.heap.size := Nat.le_trans hzs2 g4
                    clear ht g1 g2 g3 g4
                    go_wp2
                    go_roundw
                    case rel => exact ⟨k + 1, _, _, by omega, by go_num, HG2.out, HG1.out, R1.out, R2.out, HG3.out, hg4⟩
                    case measure => simp [intOf]; omega
                  · have R1 := hideIt (HWM.out.skip (by rw [hS]; simp))
                    have HK : Hid (∀ w2, Below wr.heap.size wr w2 → w2.cell? ⟨Z, k, none⟩ = some (.bool true)) := fun w2 hb2 => by
                      rw [(HBits.out.below hb2 HBits.out.lt).bit k hkn, hS]
                    clear hR hS
                    go_wp2_with (go_at_call 18; refine HCa.out.mono ?_; rintro e w2 ⟨rfl, hb2⟩; have k1 := HK.out w2 hb2)
                    go_roundw
                    case rel => exact ⟨k + 1, S, todo, by omega, by go_num, HRow.out.belowR hb2, HBits.out.below hb2 HBits.out.lt, R1.out, HMs.out, HBz.out.trans (hb2.mono (Nat.le_of_lt HBits.out.lt)), Nat.le_trans hzs hb2.size⟩
                    case measure => simp [intOf]; omega
              · obtain rfl : k = n := by omega
                have R1 := hideIt HWM.out.close
                have R2 : Hid (2 * leftN (seenOf wr Z) k + lenOf u8 = 2 * leftN S k + todo.length) := by
                  show 2 * leftN (seenOf wr Z) k + lenOf u8 = 2 * leftN S k + todo.length
                  rw [seenOf_bits HBits.out, HRow.out.lenOf, List.length_map]
                go_wp2
                go_roundw
                case rel => exact ⟨S, todo, HRow.out, HBits.out, R1.out, by have := HMs.out; have := HQ.out.2.2; omega, HBz.out, hzs⟩
                case measure =>
                  have h1 := R2.out
                  have h2 := HMs.out
                  have h3 := HQ.out.2.1
                  first | omega | (simp; omega)
          · have HR2 : Hid (RowAt wr (Z + 1) (.slice (some ⟨g, off + 1, none⟩) rest.length (cap - 1)) (rest.map fun q : Nat => (q : Int))) := by
              have := HR1.out
              rw [if_neg hc1] at this
              exact this
            clear HR1 h1
            go_wp2
            clear k1 k2 k3 k5 hc1
            go_loopw [8, 28] (fun v q wz => ∃ (k : Nat) (S : Nat → Bool) (todo : List Nat), k ≤ n ∧ q = .int .i64 k ∧ RowAt wz (Z + 1) v (todo.map fun q : Nat => (q : Int)) ∧ BitsAt wz Z n S ∧ WalkM R n a i k S todo ∧ 2 * leftN S n + todo.length ≤ Q0 ∧ Below Z wr_ wz ∧ Z + 1 ≤ wz.heap.size) (fun _ q _ => n - (intOf q).toNat)
            case atStart => exact ⟨0, S, rest, Nat.zero_le _, rfl, HR2.out, HBits.out, HWM.out, HQ.out.1, HBz.out, hzs⟩
            case round =>
              clear HR2 HBits HWM HBz hzs hrl
              obtain ⟨k, S, todo, hk, rfl, hrow, hbits, hwm, hms, hbz, hzs⟩ := hrel
              have HRow := hideIt hrow
              have HBits := hideIt hbits
              have HWM := hideIt hwm
              have HMs := hideIt hms
              have HBz := hideIt hbz
              have htl : todo.length ≤ 200 := by have := HQ.out.2.2; omega
              clear hrow hbits hwm hms hbz
              by_cases hkn : k < n
              · have HCa := hideIt (HC.out wr i k (HFr.out _ HBz.out).1 hin hkn)
                cases hR : R i k
                · rw [hR] at HCa
                  have R1 := hideIt (HWM.out.skip (by rw [hR]; rfl))
                  clear hR
                  go_wp2_with (go_at_call 18; refine HCa.out.mono ?_; rintro e w2 ⟨rfl, hb2⟩)
                  go_roundw
                  case rel => exact ⟨k + 1, S, todo, by omega, by go_num, HRow.out.belowR hb2, HBits.out.below hb2 HBits.out.lt, R1.out, HMs.out, HBz.out.trans (hb2.mono (Nat.le_of_lt HBits.out.lt)), Nat.le_trans hzs hb2.size⟩
                  case measure => simp [intOf]; omega
                · rw [hR] at HCa
                  cases hS : S k
                  · have hRS : (R i k && !S k) = true := by rw [hR, hS]; rfl
                    have R1 := hideIt (HWM.out.go hkn hRS)
                    have R2 : Hid (2 * leftN (putB S k) n + (todo ++ [k]).length ≤ Q0) := by
                      show 2 * leftN (putB S k) n + (todo ++ [k]).length ≤ Q0
                      have h1 := (leftN_put hS n).2 hkn
                      have h2 := HMs.out
                      rw [List.length_append, List.length_singleton]
                      omega
                    have HK : Hid (∀ w2, Below wr.heap.size wr w2 → w2.cell? ⟨Z, k, none⟩ = some (.bool false) ∧ w2.frozen? ⟨Z, k, none⟩ = false ∧ BitsAt w2 Z n S ∧ RowAt w2 (Z + 1) u8 (todo.map fun q : Nat => (q : Int)) ∧ Below Z wr_ w2 ∧ Z + 1 ≤ w2.heap.size) := fun w2 hb2 => by
                      have hbb := HBits.out.below hb2 HBits.out.lt
                      exact ⟨by rw [hbb.bit k hkn, hS], hbb.fz k, hbb, HRow.out.belowR hb2, HBz.out.trans (hb2.mono (Nat.le_of_lt HBits.out.lt)), Nat.le_trans hzs hb2.size⟩
                    clear hR hS hRS
                    go_wp2_with (first | (go_at_call 18; refine HCa.out.mono ?_; rintro e w2 ⟨rfl, hb2⟩; obtain ⟨k1, k2, hbb, hrr, hbz2, hzs2⟩ := HK.out w2 hb2; have HBB := hideIt hbb; have HRR := hideIt hrr; have HBZ2 := hideIt hbz2; clear hbb hrr hbz2) | (at_builtin; refine wpList_append_row rfl _ _ rfl (Z + 1) u8 (todo.map fun q : Nat => (q : Int)) rfl ((HRR.out.setOther (p := ⟨Z, k, none⟩) (Nat.lt_succ_self Z) (.bool true)).belowR (belA (Below.refl _ _) _)) w2.heap.size 1 (k : Int) rfl ?c1 ?c2 ?c3 ?_))
                    case c1 => exact cell_new_set w2 Z k
                    case c2 => simp; omega
                    case c3 => simp; omega
                    intro v' w3 ht
                    obtain ⟨g1, g2, g3, g4⟩ := step_seen HBB.out hkn HRR.out HBZ2.out ht
                    have HG1 := hideIt g1
                    have HG2 : Hid (RowAt w3 (Z + 1) v' ((todo ++ [k]).map fun q : Nat => (q : Int))) := by
                      show RowAt w3 (Z + 1) v' ((todo ++ [k]).map fun q : Nat => (q : Int))
                      rw [List.map_append]; exact g2
                    have HG3 := hideIt g3
                    have hg4 : Z + 1 ≤ w3.heap.size := Nat.le_trans hzs2 g4
                    clear ht g1 g2 g3 g4
                    go_wp2
                    go_roundw
                    case rel => exact ⟨k + 1, _, _, by omega, by go_num, HG2.out, HG1.out, R1.out, R2.out, HG3.out, hg4⟩
                    case measure => simp [intOf]; omega
                  · have R1 := hideIt (HWM.out.skip (by rw [hS]; simp))
                    have HK : Hid (∀ w2, Below wr.heap.size wr w2 → w2.cell? ⟨Z, k, none⟩ = some (.bool true)) := fun w2 hb2 => by
                      rw [(HBits.out.below hb2 HBits.out.lt).bit k hkn, hS]
                    clear hR hS
                    go_wp2_with (go_at_call 18; refine HCa.out.mono ?_; rintro e w2 ⟨rfl, hb2⟩; have k1 := HK.out w2 hb2)
                    go_roundw
                    case rel => exact ⟨k + 1, S, todo, by omega, by go_num, HRow.out.belowR hb2, HBits.out.below hb2 HBits.out.lt, R1.out, HMs.out, HBz.out.trans (hb2.mono (Nat.le_of_lt HBits.out.lt)), Nat.le_trans hzs hb2.size⟩
                    case measure => simp [intOf]; omega
              · obtain rfl : k = n := by omega
                have R1 := hideIt HWM.out.close
                have R2 : Hid (2 * leftN (seenOf wr Z) k + lenOf u8 = 2 * leftN S k + todo.length) := by
                  show 2 * leftN (seenOf wr Z) k + lenOf u8 = 2 * leftN S k + todo.length
                  rw [seenOf_bits HBits.out, HRow.out.lenOf, List.length_map]
                go_wp2
                go_roundw
                case rel => exact ⟨S, todo, HRow.out, HBits.out, R1.out, by have := HMs.out; have := HQ.out.2.2; omega, HBz.out, hzs⟩
                case measure =>
                  have h1 := R2.out
                  have h2 := HMs.out
                  have h3 := HQ.out.2.1
                  first | omega | (simp; omega)
    · obtain rfl : a = n := by omega
      go_wp2
      go_ret
      exact ⟨_, gs, A, rfl, HOut.out, hgs, HA.out, HB.out⟩

end Go.Proofs.YthmiocbihhbdpaaDoor
