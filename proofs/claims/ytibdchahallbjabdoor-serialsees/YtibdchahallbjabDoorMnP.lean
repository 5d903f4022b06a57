/-
  Rows of numbers in memory: a matrix that is one's own; the stages of a pass of shortest ways.
-/
import Derived.Test.YtibdchahallbjabDoorGoW
import Derived.Test.YtibdchahallbjabDoorGhPZ
namespace Go.Proofs.YtibdchahallbjabDoor
open Go.RowKit

/-- A row of numbers in a block of its own. -/
structure NumsAt (w : World) (g n : Nat) (f : Nat → Nat) : Prop where
  blk : ∃ cur, w.heap[g]? = some (.cells cur 3 (0, 0))
  num : ∀ k, k < n → w.cell? ⟨g, k, none⟩ = some (.int .i64 ((f k : Nat) : Int))
theorem NumsAt.lt {w : World} {g n : Nat} {f : Nat → Nat} (h : NumsAt w g n f) : g < w.heap.size := by
  obtain ⟨cur, hc⟩ := h.blk
  exact lt_of_heap hc
theorem NumsAt.fz {w : World} {g n : Nat} {f : Nat → Nat} (h : NumsAt w g n f) (i : Nat) : w.frozen? ⟨g, i, none⟩ = false := by
  obtain ⟨cur, hc⟩ := h.blk
  exact frozen_of_row w g i cur 3 hc
theorem NumsAt.block {w w' : World} {g n : Nat} {f : Nat → Nat} (h : NumsAt w g n f) (hb : w'.heap[g]? = w.heap[g]?) : NumsAt w' g n f := by
  obtain ⟨cur, hc⟩ := h.blk
  exact ⟨⟨cur, hb.trans hc⟩, fun k hk => (World.cell?_of_block (a := ⟨g, k, none⟩) hb).trans (h.num k hk)⟩
theorem NumsAt.below {B : Nat} {w w' : World} {g n : Nat} {f : Nat → Nat} (h : NumsAt w g n f) (hb : Below B w w') (hg : g < B) : NumsAt w' g n f := h.block (hb.block g hg)
theorem NumsAt.same {w : World} {g n : Nat} {f f' : Nat → Nat} (h : NumsAt w g n f) (e : ∀ k, k < n → f k = f' k) : NumsAt w g n f' := ⟨h.blk, fun k hk => by rw [← e k hk]; exact h.num k hk⟩
theorem NumsAt.put {w : World} {g n : Nat} {f : Nat → Nat} (h : NumsAt w g n f) {m : Nat} (hm : m < n) (x : Nat) : NumsAt (w.setCell ⟨g, m, none⟩ (.int .i64 ((x : Nat) : Int))) g n (fun k => if k = m then x else f k) := by
  obtain ⟨cur, hc⟩ := h.blk
  obtain ⟨cur', hc', _⟩ := heap_setCell hc m (.int .i64 ((x : Nat) : Int))
  refine ⟨⟨cur', hc'⟩, fun k hk => ?_⟩
  by_cases e : k = m
  · subst e
    rw [if_pos rfl]
    exact World.cell?_setCell_same _ _ _ (h.num k hk)
  · rw [if_neg e, World.cell?_setCell_other _ _ _ _ (offNe (Ne.symm e))]
    exact h.num k hk
theorem NumsAt.other {w : World} {g n : Nat} {f : Nat → Nat} (h : NumsAt w g n f) {p : Addr} (hp : g ≠ p.block) (u : Value) : NumsAt (w.setCell p u) g n f := h.block (Below.heap_setCell w p u g hp)

theorem info26N : (Tryd.prog.info? 29).map (fun i => (i.zero, i.size, i.bytes)) = some (some (.slice none 0 0), 1, 24) := by kernel_rfl
theorem made_nums (w : World) (n : Nat) (hn : n ≤ 60) : (Instr.makeSlice 29 (.int .i64 (n : Int)) (.int .i64 (n : Int))).run Tryd.prog w = .ok (.slice (some ⟨w.heap.size, 0, none⟩) n n) (w.alloc (.cells (madeCells #[.int .i64 0] n) 3)) := by
  obtain ⟨i, hi, hz, hs, hb⟩ := info_parts' info3
  have := run_make (P := Tryd.prog) w 29 3 i (.int .i64 0) Tryd.underlying29 hi hz .i64 .i64 (n : Int) (n : Int) (by omega) (Int.le_refl _) (by rw [hb]; omega) (by omega)
  have e : (Value.int .i64 0).cells = #[.int .i64 0] := rfl
  rw [e] at this
  simpa [hs] using this
theorem made_lists (w : World) (n : Nat) (hn : n ≤ 60) : (Instr.makeSlice 100 (.int .i64 (n : Int)) (.int .i64 (n : Int))).run Tryd.prog w = .ok (.slice (some ⟨w.heap.size, 0, none⟩) n n) (w.alloc (.cells (madeCells #[.slice none 0 0] n) 29)) := by
  obtain ⟨i, hi, hz, hs, hb⟩ := info_parts' info26N
  have := run_make (P := Tryd.prog) w 100 29 i (.slice none 0 0) Tryd.underlying100 hi hz .i64 .i64 (n : Int) (n : Int) (by omega) (Int.le_refl _) (by rw [hb]; omega) (by omega)
  have e : (Value.slice none 0 0).cells = #[.slice none 0 0] := rfl
  rw [e] at this
  simpa [hs] using this
theorem nums_made (w : World) (n : Nat) : NumsAt (w.alloc (.cells (madeCells #[.int .i64 0] n) 3)) w.heap.size n (fun _ => 0) :=
  ⟨⟨_, heap_alloc_new w _⟩, fun k hk => cell_made w (.int .i64 0) n 3 k hk⟩

/-- A matrix of numbers: its first m rows are laid; all its blocks lie from base on. -/
structure NumM (w : World) (base B n m : Nat) (rb : Nat → Nat) (M : Nat → Nat → Nat) : Prop where
  blk : ∃ cur, w.heap[B]? = some (.cells cur 29 (0, 0))
  lo : base ≤ B
  room : ∀ i, i < n → ∃ v, w.cell? ⟨B, i, none⟩ = some v
  few : m ≤ n
  head : ∀ i, i < m → w.cell? ⟨B, i, none⟩ = some (.slice (some ⟨rb i, 0, none⟩) n n)
  row : ∀ i, i < m → NumsAt w (rb i) n (M i)
  from_ : ∀ i, i < m → base ≤ rb i ∧ rb i ≠ B
  inj : ∀ i j, i < m → j < m → rb i = rb j → i = j

section
variable {w : World} {base B n m : Nat} {rb : Nat → Nat} {M : Nat → Nat → Nat}
theorem NumM.lt (h : NumM w base B n m rb M) : B < w.heap.size := by
  obtain ⟨cur, hc⟩ := h.blk
  exact lt_of_heap hc
theorem NumM.fz (h : NumM w base B n m rb M) (i : Nat) : w.frozen? ⟨B, i, none⟩ = false := by
  obtain ⟨cur, hc⟩ := h.blk
  exact frozen_of_row w B i cur 29 hc
theorem NumM.below {w' : World} (h : NumM w base B n m rb M) (hb : Below w.heap.size w w') : NumM w' base B n m rb M := by
  obtain ⟨cur, hc⟩ := h.blk
  have hB := h.lt
  have hcell : ∀ i, w'.cell? ⟨B, i, none⟩ = w.cell? ⟨B, i, none⟩ := fun i => hb.cell (p := ⟨B, i, none⟩) hB
  exact ⟨⟨cur, (hb.block B hB).trans hc⟩, h.lo, fun i hi => by rw [hcell]; exact h.room i hi, h.few, fun i hi => by rw [hcell]; exact h.head i hi, fun i hi => (h.row i hi).below hb (h.row i hi).lt, h.from_, h.inj⟩
theorem NumM.alloc (h : NumM w base B n m rb M) (o : Obj) : NumM (w.alloc o) base B n m rb M := h.below ((Below.refl _ _).alloc (Nat.le_refl _) o)
theorem NumM.drew (h : NumM w base B n m rb M) : NumM w.drew base B n m rb M := h.below (Below.refl _ _).drew
theorem NumM.same {M' : Nat → Nat → Nat} (h : NumM w base B n m rb M) (e : ∀ i k, i < m → k < n → M i k = M' i k) : NumM w base B n m rb M' :=
  ⟨h.blk, h.lo, h.room, h.few, h.head, fun i hi => (h.row i hi).same fun k hk => e i k hi hk, h.from_, h.inj⟩
theorem NumM.mono {base' : Nat} (h : NumM w base B n m rb M) (hb : base' ≤ base) : NumM w base' B n m rb M :=
  ⟨h.blk, Nat.le_trans hb h.lo, h.room, h.few, h.head, h.row, fun i hi => ⟨Nat.le_trans hb (h.from_ i hi).1, (h.from_ i hi).2⟩, h.inj⟩
theorem NumM.put (h : NumM w base B n m rb M) {i k : Nat} (hi : i < m) (hk : k < n) (x : Nat) :
    NumM (w.setCell ⟨rb i, k, none⟩ (.int .i64 ((x : Nat) : Int))) base B n m rb (fun a b => if a = i ∧ b = k then x else M a b) := by
  obtain ⟨cur, hc⟩ := h.blk
  have hne := (h.from_ i hi).2
  have hcell : ∀ j, (w.setCell ⟨rb i, k, none⟩ (.int .i64 ((x : Nat) : Int))).cell? ⟨B, j, none⟩ = w.cell? ⟨B, j, none⟩ := fun j => World.cell?_setCell_other _ _ _ _ (blkNe hne)
  refine ⟨⟨cur, (Below.heap_setCell w _ _ B (Ne.symm hne)).trans hc⟩, h.lo, fun j hj => by rw [hcell]; exact h.room j hj, h.few, fun j hj => by rw [hcell]; exact h.head j hj, fun j hj => ?_, h.from_, h.inj⟩
  by_cases e : j = i
  · subst e
    exact ((h.row j hj).put hk x).same fun b hb => by simp
  · exact ((h.row j hj).other (p := ⟨rb i, k, none⟩) (fun e' => e (h.inj j i hj hi e')) _).same fun b hb => by simp [e]
/-- One row more: a new block, its head stored. -/
theorem NumM.add (h : NumM w base B n m rb M) {g : Nat} {f : Nat → Nat} (hm : m < n) (hg : NumsAt w g n f) (hb : base ≤ g) (hne : g ≠ B) (hnew : ∀ i, i < m → rb i ≠ g) :
    NumM (w.setCell ⟨B, m, none⟩ (.slice (some ⟨g, 0, none⟩) n n)) base B n (m + 1) (fun i => if i = m then g else rb i) (fun i => if i = m then f else M i) := by
  obtain ⟨cur, hc⟩ := h.blk
  obtain ⟨cur', hc', _⟩ := heap_setCell hc m (.slice (some ⟨g, 0, none⟩) n n)
  have hs : (w.setCell ⟨B, m, none⟩ (.slice (some ⟨g, 0, none⟩) n n)).cell? ⟨B, m, none⟩ = some (.slice (some ⟨g, 0, none⟩) n n) := by
    obtain ⟨v, hv⟩ := h.room m hm
    exact World.cell?_setCell_same _ _ _ hv
  have ho : ∀ i, i ≠ m → (w.setCell ⟨B, m, none⟩ (.slice (some ⟨g, 0, none⟩) n n)).cell? ⟨B, i, none⟩ = w.cell? ⟨B, i, none⟩ := fun i hi => World.cell?_setCell_other _ _ _ _ (offNe (Ne.symm hi))
  refine ⟨⟨cur', hc'⟩, h.lo, fun i hi => ?_, hm, fun i hi => ?_, fun i hi => ?_, fun i hi => ?_, fun i j hi hj => ?_⟩
  · by_cases e : i = m
    · subst e; exact ⟨_, hs⟩
    · rw [ho i e]; exact h.room i hi
  · by_cases e : i = m
    · subst e; rw [hs, if_pos rfl]
    · rw [ho i e, if_neg e]; exact h.head i (by omega)
  · by_cases e : i = m
    · subst e; simp only [if_pos]; exact hg.other (p := ⟨B, i, none⟩) hne _
    · simp only [if_neg e]; exact (h.row i (by omega)).other (p := ⟨B, m, none⟩) (h.from_ i (by omega)).2 _
  · by_cases e : i = m
    · simp only [e, if_true]; exact ⟨hb, hne⟩
    · simp only [if_neg e]; exact h.from_ i (by omega)
  · by_cases e : i = m
    · by_cases e' : j = m
      · intro _; omega
      · simp only [e, if_true, if_neg e']; exact fun k => absurd k.symm (hnew j (by omega))
    · by_cases e' : j = m
      · simp only [e', if_true, if_neg e]; exact fun k => absurd k (hnew i (by omega))
      · simp only [if_neg e, if_neg e']; exact h.inj i j (by omega) (by omega)
end
theorem numM_made (w : World) (n : Nat) : NumM (w.alloc (.cells (madeCells #[.slice none 0 0] n) 29)) w.heap.size w.heap.size n 0 (fun _ => 0) (fun _ _ => 0) :=
  ⟨⟨_, heap_alloc_new w _⟩, Nat.le_refl _, fun i hi => ⟨_, cell_made w _ n _ i hi⟩, Nat.zero_le _, fun i hi => absurd hi (by omega), fun i hi => absurd hi (by omega), fun i hi => absurd hi (by omega), fun i j hi => absurd hi (by omega)⟩


/-! ### the stages of a pass -/
def stgF (D : Nat → Nat → Nat) (t i b : Nat) : Nat → Nat → Nat := fun a k => if a < i ∨ (a = i ∧ k < b) then fwS D t a k else D a k
theorem stgF_next (D : Nat → Nat → Nat) (t i b : Nat) : stgF D t i b t b = D t b := by
  unfold stgF
  split
  · exact fwS_row D t b
  · rfl
theorem stgF_own (D : Nat → Nat → Nat) (t i b : Nat) : stgF D t i b i b = D i b := by
  unfold stgF
  rw [if_neg (by omega)]
theorem stgF_col (D : Nat → Nat → Nat) (t i b : Nat) : stgF D t i b i t = D i t := by
  unfold stgF
  split
  · exact fwS_col D t i
  · rfl
theorem stgF_put {D : Nat → Nat → Nat} {t i b x : Nat} (h : fwS D t i b = x) (a k : Nat) : (if a = i ∧ k = b then x else stgF D t i b a k) = stgF D t i (b + 1) a k := by
  unfold stgF
  by_cases e : a = i ∧ k = b
  · obtain ⟨rfl, rfl⟩ := e
    rw [if_pos ⟨rfl, rfl⟩, if_pos (.inr ⟨rfl, by omega⟩), h]
  · rw [if_neg e]
    by_cases e' : a < i ∨ (a = i ∧ k < b)
    · rw [if_pos e', if_pos (by omega)]
    · rw [if_neg e', if_neg (by omega)]
theorem stgF_leave {D : Nat → Nat → Nat} {t i b : Nat} (h : fwS D t i b = D i b) (a k : Nat) : stgF D t i b a k = stgF D t i (b + 1) a k := by
  rw [← stgF_put (x := D i b) h a k]
  by_cases e : a = i ∧ k = b
  · rw [if_pos e, e.1, e.2]; exact stgF_own D t i b
  · rw [if_neg e]
theorem stgF_skip {D : Nat → Nat → Nat} {t i : Nat} (h : D i t = 0) (a k : Nat) : stgF D t i 0 a k = stgF D t (i + 1) 0 a k := by
  unfold stgF
  by_cases e : a = i
  · subst e
    rw [if_neg (by omega), if_pos (by omega)]
    unfold fwS
    rw [h, if_neg (by omega)]
  · by_cases e' : a < i
    · rw [if_pos (.inl e'), if_pos (by omega)]
    · rw [if_neg (by omega), if_neg (by omega)]
theorem stgF_end {D : Nat → Nat → Nat} {t i n : Nat} (a k : Nat) (hk : k < n) : stgF D t i n a k = stgF D t (i + 1) 0 a k := by
  unfold stgF
  by_cases e : a < i + 1
  · rw [if_pos (by omega), if_pos (.inl e)]
  · rw [if_neg (by omega), if_neg (by omega)]
theorem stgF_all {D : Nat → Nat → Nat} {t n : Nat} (a k : Nat) (ha : a < n) : stgF D t n 0 a k = fwS D t a k := by
  unfold stgF
  rw [if_pos (.inl ha)]
theorem stgF_zero (D : Nat → Nat → Nat) (t a k : Nat) : stgF D t 0 0 a k = D a k := by
  unfold stgF
  rw [if_neg (by omega)]
end Go.Proofs.YtibdchahallbjabDoor
