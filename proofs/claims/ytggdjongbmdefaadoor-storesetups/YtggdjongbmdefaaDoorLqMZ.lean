/-
  Who can talk to whom, in memory: rows of bools.
  Rows of bools in memory: a matrix that is one's own.
  Package net's rules, walked: who can talk to whom.
-/
import Derived.Test.YtggdjongbmdefaaDoorBsGZ
import Derived.Laws.MakeOwn
import Derived.Test.YtggdjongbmdefaaDoorAbPZ
namespace Go.Proofs.YtggdjongbmdefaaDoor
open Go.RowKit

/-- Links in memory; X: which blocks they lie in. -/
def LnkS (w : World) (X : Nat → Prop) (lv : Value) (M : List (List Bool)) : Prop :=
  ∃ a cap, lv = .slice a M.length cap ∧ (M = [] ∨ ∃ g off, a = some ⟨g, off, none⟩ ∧ X g ∧ ∀ i (hi : i < M.length), ∃ ra rc, w.cell? ⟨g, off + i, none⟩ = some (.slice ra M[i].length rc) ∧
    (M[i] = [] ∨ ∃ rg ro, ra = some ⟨rg, ro, none⟩ ∧ X rg ∧ ∀ j (hj : j < M[i].length), w.cell? ⟨rg, ro + j, none⟩ = some (.bool M[i][j])))
theorem LnkS.keep {w w' : World} {X : Nat → Prop} {lv : Value} {M : List (List Bool)} (h : LnkS w X lv M) (hk : ∀ b, b < w.heap.size → X b → w'.heap[b]? = w.heap[b]?) : LnkS w' X lv M := by
  obtain ⟨a, cap, e, h⟩ := h
  refine ⟨a, cap, e, h.imp id fun ⟨g, off, e, hx, h⟩ => ⟨g, off, e, hx, fun i hi => ?_⟩⟩
  obtain ⟨ra, rc, h1, h2⟩ := h i hi
  refine ⟨ra, rc, (World.cell?_of_block (a := ⟨g, off + i, none⟩) (hk g (World.block_lt_of_cell? w _ h1) hx)).trans h1, h2.imp id fun ⟨rg, ro, e, hx', h⟩ => ⟨rg, ro, e, hx', fun j hj => ?_⟩⟩
  exact (World.cell?_of_block (a := ⟨rg, ro + j, none⟩) (hk rg (World.block_lt_of_cell? w _ (h j hj)) hx')).trans (h j hj)
theorem LnkS.mono {w : World} {X Y : Nat → Prop} {lv : Value} {M : List (List Bool)} (h : LnkS w X lv M) (hk : ∀ b, b < w.heap.size → X b → Y b) : LnkS w Y lv M := by
  obtain ⟨a, cap, e, h⟩ := h
  by_cases hM : M = []
  · exact ⟨a, cap, e, .inl hM⟩
  refine ⟨a, cap, e, h.imp id fun ⟨g, off, e, hx, h⟩ => ⟨g, off, e, ?_, fun i hi => ?_⟩⟩
  · obtain ⟨_, _, h1, _⟩ := h 0 (List.length_pos_iff.2 hM)
    exact hk g (World.block_lt_of_cell? w _ h1) hx
  · obtain ⟨ra, rc, h1, h2⟩ := h i hi
    by_cases hR : M[i] = []
    · exact ⟨ra, rc, h1, .inl hR⟩
    refine ⟨ra, rc, h1, h2.imp id fun ⟨rg, ro, e, hx', h⟩ => ⟨rg, ro, e, ?_, h⟩⟩
    exact hk rg (World.block_lt_of_cell? w _ (h 0 (List.length_pos_iff.2 hR))) hx'
theorem LnkS.below {w w' : World} {X : Nat → Prop} {lv : Value} {M : List (List Bool)} {B : Nat} (h : LnkS w X lv M) (hb : Below B w w') (hB : w.heap.size ≤ B) : LnkS w' X lv M :=
  h.keep fun b hl _ => hb.block b (Nat.lt_of_lt_of_le hl hB)
/-- A row that is there. -/
theorem LnkS.row {w : World} {X : Nat → Prop} {lv : Value} {M : List (List Bool)} (h : LnkS w X lv M) {i : Nat} (hi : i < M.length) : ∃ g off cap, lv = .slice (some ⟨g, off, none⟩) M.length cap ∧ X g ∧ ∃ ra rc, w.cell? ⟨g, off + i, none⟩ = some (.slice ra M[i].length rc) ∧
    (M[i] = [] ∨ ∃ rg ro, ra = some ⟨rg, ro, none⟩ ∧ X rg ∧ ∀ j (hj : j < M[i].length), w.cell? ⟨rg, ro + j, none⟩ = some (.bool M[i][j])) := by
  obtain ⟨a, cap, e, h⟩ := h
  rcases h with rfl | ⟨g, off, rfl, hx, h⟩
  · simp at hi
  · exact ⟨g, off, cap, e, hx, h i hi⟩
/-- The table of a rule. -/
def tabL (n : Nat) (r : Nat → Nat → Bool) : List (List Bool) := (List.range n).map fun a => (List.range n).map fun b => r a b
theorem tabL_len (n : Nat) (r : Nat → Nat → Bool) : (tabL n r).length = n := by simp [tabL]
theorem tabL_row {n : Nat} {r : Nat → Nat → Bool} {i : Nat} (h : i < (tabL n r).length) : (tabL n r)[i] = (List.range n).map fun b => r i b := by simp [tabL]
theorem tabL_row_len {n : Nat} {r : Nat → Nat → Bool} {i : Nat} (h : i < (tabL n r).length) : (tabL n r)[i].length = n := by simp [tabL]
theorem tabL_at {n : Nat} {r : Nat → Nat → Bool} {i j : Nat} (h : i < (tabL n r).length) (h' : j < (tabL n r)[i].length) : (tabL n r)[i][j] = r i j := by simp [tabL]
/-- A table in memory, place by place. -/
theorem LnkS.tab {w : World} {X : Nat → Prop} {lv : Value} {n : Nat} {r : Nat → Nat → Bool} (h : LnkS w X lv (tabL n r)) {i : Nat} (hi : i < n) : ∃ g off cap, lv = .slice (some ⟨g, off, none⟩) n cap ∧ ∃ rg ro rc, w.cell? ⟨g, off + i, none⟩ = some (.slice (some ⟨rg, ro, none⟩) n rc) ∧ ∀ j, j < n → w.cell? ⟨rg, ro + j, none⟩ = some (.bool (r i j)) := by
  have hi' : i < (tabL n r).length := by rw [tabL_len]; exact hi
  obtain ⟨g, off, cap, e, _, ra, rc, h1, h2⟩ := h.row hi'
  rw [tabL_len] at e
  have hl := tabL_row_len hi'
  rcases h2 with h2 | ⟨rg, ro, rfl, _, h3⟩
  · rw [h2] at hl; simp at hl; omega
  · rw [hl] at h1
    refine ⟨g, off, cap, e, rg, ro, rc, h1, fun j hj => ?_⟩
    have := h3 j (by rw [hl]; exact hj)
    rwa [tabL_at hi' (by rw [hl]; exact hj)] at this
/-- Blocks that links lie in, by their tags. -/
def LTg (w : World) (b : Nat) : Prop := tagD w.heap[b]? = 33 ∨ tagD w.heap[b]? = 5
def LnkT (w : World) (lv : Value) (M : List (List Bool)) : Prop := LnkS w (LTg w) lv M
theorem LnkT.keep {w w' : World} {lv : Value} {M : List (List Bool)} (h : LnkT w lv M) (hk : ∀ b, LTg w b → w'.heap[b]? = w.heap[b]?) : LnkT w' lv M :=
  (LnkS.keep h fun b _ hb => hk b hb).mono fun b _ hb => by unfold LTg; rw [hk b hb]; exact hb
theorem LTg.lt {w : World} {b : Nat} (h : LTg w b) : b < w.heap.size := by
  rcases Nat.lt_or_ge b w.heap.size with h' | h'
  · exact h'
  · unfold LTg at h
    rw [Array.getElem?_eq_none h'] at h
    rcases h with h | h <;> cases h
theorem LnkT.below {w w' : World} {lv : Value} {M : List (List Bool)} (h : LnkT w lv M) (hb : Below w.heap.size w w') : LnkT w' lv M := h.keep fun b hl => hb.block b hl.lt
end Go.Proofs.YtggdjongbmdefaaDoor

namespace Go.Proofs.YtggdjongbmdefaaDoor
open Go.RowKit


/-- A row of bools in a block of its own. -/
structure BitsAt (w : World) (g n : Nat) (f : Nat → Bool) : Prop where
  blk : ∃ cur, w.heap[g]? = some (.cells cur 4 (0, 0))
  bit : ∀ k, k < n → w.cell? ⟨g, k, none⟩ = some (.bool (f k))
theorem BitsAt.lt {w : World} {g n : Nat} {f : Nat → Bool} (h : BitsAt w g n f) : g < w.heap.size := by
  obtain ⟨cur, hc⟩ := h.blk
  exact lt_of_heap hc
theorem BitsAt.fz {w : World} {g n : Nat} {f : Nat → Bool} (h : BitsAt w g n f) (i : Nat) : w.frozen? ⟨g, i, none⟩ = false := by
  obtain ⟨cur, hc⟩ := h.blk
  exact frozen_of_row w g i cur 4 hc
theorem BitsAt.block {w w' : World} {g n : Nat} {f : Nat → Bool} (h : BitsAt w g n f) (hb : w'.heap[g]? = w.heap[g]?) : BitsAt w' g n f := by
  obtain ⟨cur, hc⟩ := h.blk
  exact ⟨⟨cur, hb.trans hc⟩, fun k hk => (World.cell?_of_block (a := ⟨g, k, none⟩) hb).trans (h.bit k hk)⟩
theorem BitsAt.below {B : Nat} {w w' : World} {g n : Nat} {f : Nat → Bool} (h : BitsAt w g n f) (hb : Below B w w') (hg : g < B) : BitsAt w' g n f := h.block (hb.block g hg)
theorem BitsAt.same {w : World} {g n : Nat} {f f' : Nat → Bool} (h : BitsAt w g n f) (e : ∀ k, k < n → f k = f' k) : BitsAt w g n f' := ⟨h.blk, fun k hk => by rw [← e k hk]; exact h.bit k hk⟩
theorem BitsAt.put {w : World} {g n : Nat} {f : Nat → Bool} (h : BitsAt w g n f) {m : Nat} (hm : m < n) (x : Bool) : BitsAt (w.setCell ⟨g, m, none⟩ (.bool x)) g n (fun k => if k = m then x else f k) := by
  obtain ⟨cur, hc⟩ := h.blk
  obtain ⟨cur', hc', _⟩ := heap_setCell hc m (.bool x)
  refine ⟨⟨cur', hc'⟩, fun k hk => ?_⟩
  by_cases e : k = m
  · subst e
    rw [if_pos rfl]
    exact World.cell?_setCell_same _ _ _ (h.bit k hk)
  · rw [if_neg e, World.cell?_setCell_other _ _ _ _ (offNe (Ne.symm e))]
    exact h.bit k hk
theorem BitsAt.other {w : World} {g n : Nat} {f : Nat → Bool} (h : BitsAt w g n f) {p : Addr} (hp : g ≠ p.block) (u : Value) : BitsAt (w.setCell p u) g n f := h.block (Below.heap_setCell w p u g hp)

theorem info4 : (Tryd.prog.info? 4).map (fun i => (i.zero, i.size, i.bytes)) = some (some (.bool false), 1, 1) := by kernel_rfl
theorem info46 : (Tryd.prog.info? 32).map (fun i => (i.zero, i.size, i.bytes)) = some (some (.slice none 0 0), 1, 24) := by kernel_rfl
theorem made_bits (w : World) (n : Nat) (hn : n ≤ 60) : (Instr.makeSlice 32 (.int .i64 (n : Int)) (.int .i64 (n : Int))).run Tryd.prog w = .ok (.slice (some ⟨w.heap.size, 0, none⟩) n n) (w.alloc (.cells (madeCells #[.bool false] n) 4)) := by
  obtain ⟨i, hi, hz, hs, hb⟩ := info_parts' info4
  have := run_make (P := Tryd.prog) w 32 4 i (.bool false) Tryd.underlying32 hi hz .i64 .i64 (n : Int) (n : Int) (by omega) (Int.le_refl _) (by rw [hb]; omega) (by omega)
  have e : (Value.bool false).cells = #[.bool false] := rfl
  rw [e] at this
  simpa [hs] using this
theorem made_rows (w : World) (n : Nat) (hn : n ≤ 60) : (Instr.makeSlice 24 (.int .i64 (n : Int)) (.int .i64 (n : Int))).run Tryd.prog w = .ok (.slice (some ⟨w.heap.size, 0, none⟩) n n) (w.alloc (.cells (madeCells #[.slice none 0 0] n) 32)) := by
  obtain ⟨i, hi, hz, hs, hb⟩ := info_parts' info46
  have := run_make (P := Tryd.prog) w 24 32 i (.slice none 0 0) Tryd.underlying24 hi hz .i64 .i64 (n : Int) (n : Int) (by omega) (Int.le_refl _) (by rw [hb]; omega) (by omega)
  have e : (Value.slice none 0 0).cells = #[.slice none 0 0] := rfl
  rw [e] at this
  simpa [hs] using this
theorem bits_made (w : World) (n : Nat) : BitsAt (w.alloc (.cells (madeCells #[.bool false] n) 4)) w.heap.size n (fun _ => false) :=
  ⟨⟨_, heap_alloc_new w _⟩, fun k hk => cell_made w (.bool false) n 4 k hk⟩

/-- A matrix of bools: its first m rows are laid; all its blocks lie from base on. -/
structure MatAt (w : World) (base B n m : Nat) (rb : Nat → Nat) (M : Nat → Nat → Bool) : Prop where
  blk : ∃ cur, w.heap[B]? = some (.cells cur 32 (0, 0))
  lo : base ≤ B
  room : ∀ i, i < n → ∃ v, w.cell? ⟨B, i, none⟩ = some v
  few : m ≤ n
  head : ∀ i, i < m → w.cell? ⟨B, i, none⟩ = some (.slice (some ⟨rb i, 0, none⟩) n n)
  row : ∀ i, i < m → BitsAt w (rb i) n (M i)
  from_ : ∀ i, i < m → base ≤ rb i ∧ rb i ≠ B
  inj : ∀ i j, i < m → j < m → rb i = rb j → i = j

section
variable {w : World} {base B n m : Nat} {rb : Nat → Nat} {M : Nat → Nat → Bool}
theorem MatAt.lt (h : MatAt w base B n m rb M) : B < w.heap.size := by
  obtain ⟨cur, hc⟩ := h.blk
  exact lt_of_heap hc
theorem MatAt.fz (h : MatAt w base B n m rb M) (i : Nat) : w.frozen? ⟨B, i, none⟩ = false := by
  obtain ⟨cur, hc⟩ := h.blk
  exact frozen_of_row w B i cur 32 hc
theorem MatAt.below {w' : World} (h : MatAt w base B n m rb M) (hb : Below w.heap.size w w') : MatAt w' base B n m rb M := by
  obtain ⟨cur, hc⟩ := h.blk
  have hB := h.lt
  have hcell : ∀ i, w'.cell? ⟨B, i, none⟩ = w.cell? ⟨B, i, none⟩ := fun i => hb.cell (p := ⟨B, i, none⟩) hB
  exact ⟨⟨cur, (hb.block B hB).trans hc⟩, h.lo, fun i hi => by rw [hcell]; exact h.room i hi, h.few, fun i hi => by rw [hcell]; exact h.head i hi, fun i hi => (h.row i hi).below hb (h.row i hi).lt, h.from_, h.inj⟩
theorem MatAt.alloc (h : MatAt w base B n m rb M) (o : Obj) : MatAt (w.alloc o) base B n m rb M := h.below ((Below.refl _ _).alloc (Nat.le_refl _) o)
theorem MatAt.drew (h : MatAt w base B n m rb M) : MatAt w.drew base B n m rb M := h.below (Below.refl _ _).drew
theorem MatAt.same {M' : Nat → Nat → Bool} (h : MatAt w base B n m rb M) (e : ∀ i k, i < m → k < n → M i k = M' i k) : MatAt w base B n m rb M' :=
  ⟨h.blk, h.lo, h.room, h.few, h.head, fun i hi => (h.row i hi).same fun k hk => e i k hi hk, h.from_, h.inj⟩
theorem MatAt.mono {base' : Nat} (h : MatAt w base B n m rb M) (hb : base' ≤ base) : MatAt w base' B n m rb M :=
  ⟨h.blk, Nat.le_trans hb h.lo, h.room, h.few, h.head, h.row, fun i hi => ⟨Nat.le_trans hb (h.from_ i hi).1, (h.from_ i hi).2⟩, h.inj⟩
theorem MatAt.put (h : MatAt w base B n m rb M) {i k : Nat} (hi : i < m) (hk : k < n) (x : Bool) :
    MatAt (w.setCell ⟨rb i, k, none⟩ (.bool x)) base B n m rb (fun a b => if a = i ∧ b = k then x else M a b) := by
  obtain ⟨cur, hc⟩ := h.blk
  have hne := (h.from_ i hi).2
  have hcell : ∀ j, (w.setCell ⟨rb i, k, none⟩ (.bool x)).cell? ⟨B, j, none⟩ = w.cell? ⟨B, j, none⟩ := fun j => World.cell?_setCell_other _ _ _ _ (blkNe hne)
  refine ⟨⟨cur, (Below.heap_setCell w _ _ B (Ne.symm hne)).trans hc⟩, h.lo, fun j hj => by rw [hcell]; exact h.room j hj, h.few, fun j hj => by rw [hcell]; exact h.head j hj, fun j hj => ?_, h.from_, h.inj⟩
  by_cases e : j = i
  · subst e
    exact ((h.row j hj).put hk x).same fun b hb => by simp
  · exact ((h.row j hj).other (p := ⟨rb i, k, none⟩) (fun e' => e (h.inj j i hj hi e')) _).same fun b hb => by simp [e]
/-- One row more: a new block, its head stored. -/
theorem MatAt.add (h : MatAt w base B n m rb M) {g : Nat} {f : Nat → Bool} (hm : m < n) (hg : BitsAt w g n f) (hb : base ≤ g) (hne : g ≠ B) (hnew : ∀ i, i < m → rb i ≠ g) :
    MatAt (w.setCell ⟨B, m, none⟩ (.slice (some ⟨g, 0, none⟩) n n)) base B n (m + 1) (fun i => if i = m then g else rb i) (fun i => if i = m then f else M i) := by
  obtain ⟨cur, hc⟩ := h.blk
  obtain ⟨cur', hc', _⟩ := heap_setCell hc m (.slice (some ⟨g, 0, none⟩) n n)
  have hs : (w.setCell ⟨B, m, none⟩ (.slice (some ⟨g, 0, none⟩) n n)).cell? ⟨B, m, none⟩ = some (.slice (some ⟨g, 0, none⟩) n n) := by
    obtain ⟨v, hv⟩ := h.room m hm
    exact World.cell?_setCell_same _ _ _ hv
  have ho : ∀ i, i ≠ m → (w.setCell ⟨B, m, none⟩ (.slice (some ⟨g, 0, none⟩) n n)).cell? ⟨B, i, none⟩ = w.cell? ⟨B, i, none⟩ := fun i hi => World.cell?_setCell_other _ _ _ _ (offNe (Ne.symm hi))
  refine ⟨⟨cur', hc'⟩, h.lo, fun i hi => ?_, hm, fun i hi => ?_, fun i hi => ?_, fun i hi => ?_, fun i j hi hj => ?_⟩
  · by_cases e : i = m
    · subst e; exact ⟨_, hs⟩
    · rw [ho i e]; exact h.room i hi
  · by_cases e : i = m
    · subst e; rw [hs, if_pos rfl]
    · rw [ho i e, if_neg e]; exact h.head i (by omega)
  · by_cases e : i = m
    · subst e; simp only [if_pos]; exact hg.other (p := ⟨B, i, none⟩) hne _
    · simp only [if_neg e]; exact (h.row i (by omega)).other (p := ⟨B, m, none⟩) (h.from_ i (by omega)).2 _
  · by_cases e : i = m
    · simp only [e, if_true]; exact ⟨hb, hne⟩
    · simp only [if_neg e]; exact h.from_ i (by omega)
  · by_cases e : i = m
    · by_cases e' : j = m
      · intro _; omega
      · simp only [e, if_true, if_neg e']; exact fun k => absurd k.symm (hnew j (by omega))
    · by_cases e' : j = m
      · simp only [e', if_true, if_neg e]; exact fun k => absurd k (hnew i (by omega))
      · simp only [if_neg e, if_neg e']; exact h.inj i j (by omega) (by omega)
end
theorem mat_made (w : World) (n : Nat) : MatAt (w.alloc (.cells (madeCells #[.slice none 0 0] n) 32)) w.heap.size w.heap.size n 0 (fun _ => 0) (fun _ _ => false) :=
  ⟨⟨_, heap_alloc_new w _⟩, Nat.le_refl _, fun i hi => ⟨_, cell_made w _ n _ i hi⟩, Nat.zero_le _, fun i hi => absurd hi (by omega), fun i hi => absurd hi (by omega), fun i hi => absurd hi (by omega), fun i j hi => absurd hi (by omega)⟩

end Go.Proofs.YtggdjongbmdefaaDoor

namespace Go.Proofs.YtggdjongbmdefaaDoor
open Go.RowKit

/-- A rule in memory: a function, and what it has caught. -/
def RuleQ (w : World) (f : Nat) (caps : Array Value) (n : Nat) (r : Nat → Nat → Bool) : Prop :=
  ∀ Z, Below w.heap.size w Z → ∀ a b : Nat, a < n → b < n → Calls Tryd.prog f (#[.int .i64 (a : Int), .int .i64 (b : Int)] ++ caps) Z fun e w' => e = .returned (.bool (r a b)) ∧ w' = Z
def linkN (what : Int) (n : Nat) (who : Int) (a b : Nat) : Bool := linkedB what n who a b

set_option maxRecDepth 100000 in
theorem whole_rule (w : World) (n : Nat) (who : Int) : RuleQ w 39 #[] n (linkN 0 n who) := by
  intro Z _ a b _ _
  have e : linkN 0 n who a b = true := by unfold linkN linkedB; split <;> rfl
  rw [e]
  show Calls Tryd.prog 39 #[.int .i64 (a : Int), .int .i64 (b : Int)] Z _
  go_enter Tryd.func39, Tryd.ntmps39
  go_wp2
  go_ret
  exact ⟨rfl, rfl⟩

set_option maxRecDepth 100000 in
set_option maxHeartbeats 1000000 in
theorem half_any (n a b : Nat) (hn : 1 ≤ n ∧ n ≤ 7) (ha : a < n) (_hb : b < n) (Z : World) :
    Calls Tryd.prog 37 #[.int .i64 (n : Int), .int .i64 (a : Int), .int .i64 (b : Int)] Z fun e w' => e = .returned (.bool (decide ((a : Int) < (n : Int) / 2) == decide ((b : Int) < (n : Int) / 2))) ∧ w' = Z := by
  have q1 : (n : Int).tdiv 2 = (n : Int) / 2 := Int.tdiv_eq_ediv_of_nonneg (by omega)
  have w1 : IntKind.i64.wrap ((n : Int) / 2) = (n : Int) / 2 := IntWalk.i64_in _ (by omega)
  go_enter Tryd.func37, Tryd.ntmps37
  go_wp2
  go_ret
  exact ⟨rfl, rfl⟩

set_option maxRecDepth 100000 in
set_option maxHeartbeats 1000000 in
theorem halves_rule (w : World) (n : Nat) (hn : 1 ≤ n ∧ n ≤ 7) (who : Int) (Bc : Nat) (hB : w.heap[Bc]? = some (.cells #[.int .i64 (n : Int)] 3)) : RuleQ w 36 #[.pointer (some ⟨Bc, 0, none⟩)] n (linkN 1 n who) := by
  intro Z hZ a b ha hb
  have c0 : Z.cell? ⟨Bc, 0, none⟩ = some (.int .i64 (n : Int)) := (hZ.cell (p := ⟨Bc, 0, none⟩) (Array.getElem?_eq_some_iff.1 hB).1).trans (cell_of_row _ _ _ _ 3 _ hB)
  have HC := hideIt (half_any n a b hn ha hb Z)
  have HE : Hid (linkN 1 n who a b = (decide ((a : Int) < (n : Int) / 2) == decide ((b : Int) < (n : Int) / 2))) := by
    show _ = _
    unfold linkN linkedB
    split
    · rename_i e; rw [e]; simp
    · rw [if_neg (by decide), if_pos rfl]
  generalize linkN 1 n who a b = r at HE ⊢
  generalize (decide ((a : Int) < (n : Int) / 2) == decide ((b : Int) < (n : Int) / 2)) = q at HE HC
  clear hB hn
  show Calls Tryd.prog 36 #[.int .i64 (a : Int), .int .i64 (b : Int), .pointer (some ⟨Bc, 0, none⟩)] Z _
  go_enter Tryd.func36, Tryd.ntmps36
  go_wp2_with fail
  refine HC.out.mono ?_
  rintro e w1 ⟨rfl, rfl⟩
  go_wp2
  go_ret
  exact ⟨ret_bool HE.out.symm, rfl⟩

set_option maxRecDepth 100000 in
set_option maxHeartbeats 1000000 in
theorem bridge_rule (w : World) (n : Nat) (hn : 1 ≤ n ∧ n ≤ 7) (who : Int) (Bc : Nat) (hB : w.heap[Bc]? = some (.cells #[.int .i64 (n : Int)] 3)) : RuleQ w 40 #[.pointer (some ⟨Bc, 0, none⟩)] n (linkN 2 n who) := by
  intro Z hZ a b ha hb
  have c0 : Z.cell? ⟨Bc, 0, none⟩ = some (.int .i64 (n : Int)) := (hZ.cell (p := ⟨Bc, 0, none⟩) (Array.getElem?_eq_some_iff.1 hB).1).trans (cell_of_row _ _ _ _ 3 _ hB)
  have q1 : (n : Int).tdiv 2 = (n : Int) / 2 := Int.tdiv_eq_ediv_of_nonneg (by omega)
  have w1 : IntKind.i64.wrap ((n : Int) / 2) = (n : Int) / 2 := IntWalk.i64_in _ (by omega)
  have HC := hideIt (half_any n a b hn ha hb Z)
  have HE : Hid (linkN 2 n who a b = ((decide ((a : Int) < (n : Int) / 2) == decide ((b : Int) < (n : Int) / 2)) || decide ((a : Int) = (n : Int) / 2) || decide ((b : Int) = (n : Int) / 2))) := by
    show _ = _
    unfold linkN linkedB
    split
    · rename_i e; rw [e]; simp
    · rw [if_neg (by decide), if_neg (by decide), if_pos rfl]
  generalize linkN 2 n who a b = r at HE ⊢
  generalize (decide ((a : Int) < (n : Int) / 2) == decide ((b : Int) < (n : Int) / 2)) = q at HE HC
  clear hB hn
  show Calls Tryd.prog 40 #[.int .i64 (a : Int), .int .i64 (b : Int), .pointer (some ⟨Bc, 0, none⟩)] Z _
  generalize (n : Int) / 2 = h at *
  generalize (a : Int) = x at *
  generalize (b : Int) = y at *
  by_cases h1 : x = h
  · have h1' : (x == h) = true := by simp [h1]
    have H1 := hideIt h1
    clear h1
    go_enter Tryd.func40, Tryd.ntmps40
    go_wp2
    go_ret
    exact ⟨ret_bool (by rw [HE.out, H1.out]; simp), rfl⟩
  have h1' : (x == h) = false := by simp [h1]
  by_cases h2 : y = h
  · have h2' : (y == h) = true := by simp [h2]
    have H2 := hideIt h2
    clear h2
    go_enter Tryd.func40, Tryd.ntmps40
    go_wp2
    go_ret
    exact ⟨ret_bool (by rw [HE.out, H2.out]; simp), rfl⟩
  have h2' : (y == h) = false := by simp [h2]
  have H1 := hideIt h1
  have H2 := hideIt h2
  clear h1 h2
  go_enter Tryd.func40, Tryd.ntmps40
  go_wp2_with fail
  refine HC.out.mono ?_
  rintro e w2 ⟨rfl, rfl⟩
  go_wp2
  go_ret
  exact ⟨ret_bool (by rw [HE.out]; simp [H1.out, H2.out]), rfl⟩

set_option maxRecDepth 100000 in
set_option maxHeartbeats 1000000 in
theorem ring_rule (w : World) (n : Nat) (hn : 1 ≤ n ∧ n ≤ 7) (who : Int) (Bc : Nat) (hB : w.heap[Bc]? = some (.cells #[.int .i64 (n : Int)] 3)) : RuleQ w 41 #[.pointer (some ⟨Bc, 0, none⟩)] n (linkN 3 n who) := by
  intro Z hZ a b ha hb
  have c0 : Z.cell? ⟨Bc, 0, none⟩ = some (.int .i64 (n : Int)) := (hZ.cell (p := ⟨Bc, 0, none⟩) (Array.getElem?_eq_some_iff.1 hB).1).trans (cell_of_row _ _ _ _ 3 _ hB)
  have q1 : (n : Int).tdiv 2 = (n : Int) / 2 := Int.tdiv_eq_ediv_of_nonneg (by omega)
  have q2 : ((n : Int) / 2 + 1).tdiv 2 = ((n : Int) / 2 + 1) / 2 := Int.tdiv_eq_ediv_of_nonneg (by omega)
  have w1 : IntKind.i64.wrap ((n : Int) / 2) = (n : Int) / 2 := IntWalk.i64_in _ (by omega)
  have w2 : IntKind.i64.wrap ((n : Int) / 2 + 1) = (n : Int) / 2 + 1 := IntWalk.i64_in _ (by omega)
  have w3 : IntKind.i64.wrap (((n : Int) / 2 + 1) / 2) = ((n : Int) / 2 + 1) / 2 := IntWalk.i64_in _ (by omega)
  have HE : Hid (linkN 3 n who a b = decide (min (if (a : Int) - b < 0 then -((a : Int) - b) else (a : Int) - b) ((n : Int) - (if (a : Int) - b < 0 then -((a : Int) - b) else (a : Int) - b)) ≤ ((n : Int) / 2 + 1) / 2)) := by
    show _ = _
    unfold linkN linkedB
    split
    · rename_i e; rw [e]; simp; omega
    · rw [if_neg (by decide), if_neg (by decide), if_neg (by decide), if_pos rfl]
  generalize linkN 3 n who a b = r at HE ⊢
  clear hB
  show Calls Tryd.prog 41 #[.int .i64 (a : Int), .int .i64 (b : Int), .pointer (some ⟨Bc, 0, none⟩)] Z _
  go_enter Tryd.func41, Tryd.ntmps41
  go_wp2
  all_goals (go_ret; exact ⟨ret_bool (by rw [HE.out]; refine decide_eq_decide.2 ?_; omega), rfl⟩)

set_option maxRecDepth 100000 in
set_option maxHeartbeats 1000000 in
theorem alone_rule (w : World) (n : Nat) (what who : Int) (hw : what < 0 ∨ 4 ≤ what) (Bc : Nat) (hB : w.heap[Bc]? = some (.cells #[.int .i64 who] 3)) : RuleQ w 42 #[.pointer (some ⟨Bc, 0, none⟩)] n (linkN what n who) := by
  intro Z hZ a b ha hb
  have c0 : Z.cell? ⟨Bc, 0, none⟩ = some (.int .i64 who) := (hZ.cell (p := ⟨Bc, 0, none⟩) (Array.getElem?_eq_some_iff.1 hB).1).trans (cell_of_row _ _ _ _ 3 _ hB)
  have HE : Hid (linkN what n who a b = (decide ((a : Int) = (b : Int)) || (decide ((a : Int) ≠ who) && decide ((b : Int) ≠ who)))) := by
    show _ = _
    unfold linkN linkedB
    split
    · rename_i e; rw [e]; simp
    · rename_i e
      rw [if_neg (by omega), if_neg (by omega), if_neg (by omega), if_neg (by omega), decide_eq_false e, Bool.false_or]
  generalize linkN what n who a b = r at HE ⊢
  clear hB hw
  show Calls Tryd.prog 42 #[.int .i64 (a : Int), .int .i64 (b : Int), .pointer (some ⟨Bc, 0, none⟩)] Z _
  generalize (a : Int) = x at *
  generalize (b : Int) = y at *
  by_cases h1 : x = y
  · have h1' : (x == y) = true := by simp [h1]
    have H1 := hideIt h1
    clear h1
    go_enter Tryd.func42, Tryd.ntmps42
    go_wp2
    go_ret
    exact ⟨ret_bool (by rw [HE.out, H1.out]; simp), rfl⟩
  have h1' : (x == y) = false := by simp [h1]
  by_cases h2 : x = who
  · have h2' : (x != who) = false := by simp [h2]
    have H1 := hideIt h1
    have H2 := hideIt h2
    clear h1 h2
    go_enter Tryd.func42, Tryd.ntmps42
    go_wp2
    go_ret
    exact ⟨ret_bool (by rw [HE.out, decide_eq_false H1.out, H2.out]; simp), rfl⟩
  have h2' : (x != who) = true := by simp [h2]
  have H1 := hideIt h1
  have H2 := hideIt h2
  clear h1 h2
  go_enter Tryd.func42, Tryd.ntmps42
  go_wp2
  go_ret
  exact ⟨ret_bool (by rw [HE.out]; by_cases h3 : y = who <;> simp [H1.out, H2.out, h3]), rfl⟩
end Go.Proofs.YtggdjongbmdefaaDoor
