/-
  A story in memory; an array of eight times eight numbers in memory.
-/
import Derived.Test.YtaopigjhdkdklaaDoorGhPZ
import Derived.Test.YtaopigjhdkdklaaDoorGoWZ
import Derived.Test.YtaopigjhdkdklaaDoorRgL
namespace Go.Proofs.YtaopigjhdkdklaaDoor
open Go.RowKit

def IOp.agg (o : IOp) : Value := .agg #[.bool o.wr, .int .i64 o.key, .int .i64 o.frm, .int .i64 o.num]
/-- An op in memory. -/
def IOpAt (w : World) (b off : Nat) (o : IOp) : Prop :=
  w.cell? ⟨b, off, none⟩ = some (.bool o.wr) ∧ w.cell? ⟨b, off + 1, none⟩ = some (.int .i64 o.key) ∧ w.cell? ⟨b, off + 2, none⟩ = some (.int .i64 o.frm) ∧ w.cell? ⟨b, off + 3, none⟩ = some (.int .i64 o.num)
/-- Ops: none, or in memory. -/
def IOpsQ (w : World) (a : Option Addr) (l : List IOp) : Prop := l = [] ∨ ∃ b off, a = some ⟨b, off, none⟩ ∧ b < w.heap.size ∧ ∀ k (h : k < l.length), IOpAt w b (off + k * 4) l[k]
/-- A transaction in memory. -/
def ITxAt (w : World) (b off : Nat) (t : ITx) : Prop :=
  ∃ a cap, w.cell? ⟨b, off, none⟩ = some (.slice a t.ops.length cap) ∧ t.ops.length ≤ cap ∧ t.ops.length ≤ maxLen ∧ IOpsQ w a t.ops ∧ w.cell? ⟨b, off + 1, none⟩ = some (.bool t.com)
def ITxsQ (w : World) (a : Option Addr) (l : List ITx) : Prop := l = [] ∨ ∃ b off, a = some ⟨b, off, none⟩ ∧ b < w.heap.size ∧ ∀ k (h : k < l.length), ITxAt w b (off + k * 2) l[k]
/-- Numbers: none, or in memory. -/
def IntsQ (w : World) (a : Option Addr) (l : List Int) : Prop := l = [] ∨ ∃ b off, a = some ⟨b, off, none⟩ ∧ b < w.heap.size ∧ ∀ k (h : k < l.length), w.cell? ⟨b, off + k, none⟩ = some (.int .i64 l[k])
def IRowAt (w : World) (b off : Nat) (l : List Int) : Prop := ∃ a cap, w.cell? ⟨b, off, none⟩ = some (.slice a l.length cap) ∧ l.length ≤ cap ∧ l.length ≤ maxLen ∧ IntsQ w a l
def IRowsQ (w : World) (a : Option Addr) (l : List (List Int)) : Prop := l = [] ∨ ∃ b off, a = some ⟨b, off, none⟩ ∧ b < w.heap.size ∧ ∀ k (h : k < l.length), IRowAt w b (off + k) l[k]
/-- A story: where its transactions and its lists lie. -/
structure StyQ (w : World) (a : Option Addr) (ca : Nat) (b : Option Addr) (cb : Nat) (s : ISt) : Prop where
  txs : ITxsQ w a s.txs
  tcap : s.txs.length ≤ ca
  tmax : s.txs.length ≤ maxLen
  ord : IRowsQ w b s.ord
  ocap : s.ord.length ≤ cb
  omax : s.ord.length ≤ maxLen
theorem IOpAt.below {B : Nat} {w w' : World} {b off : Nat} {o : IOp} (h : IOpAt w b off o) (hb : b < B) (hw : Below B w w') : IOpAt w' b off o :=
  ⟨(hw.cell (p := ⟨b, off, none⟩) hb).trans h.1, (hw.cell (p := ⟨b, off + 1, none⟩) hb).trans h.2.1, (hw.cell (p := ⟨b, off + 2, none⟩) hb).trans h.2.2.1, (hw.cell (p := ⟨b, off + 3, none⟩) hb).trans h.2.2.2⟩
theorem IOpsQ.below {w w' : World} {a : Option Addr} {l : List IOp} (h : IOpsQ w a l) (hw : Below w.heap.size w w') : IOpsQ w' a l := by
  rcases h with h | ⟨b, off, rfl, hb, h⟩
  · exact .inl h
  · exact .inr ⟨b, off, rfl, Nat.lt_of_lt_of_le hb hw.size, fun k hk => (h k hk).below hb hw⟩
theorem ITxAt.below {w w' : World} {b off : Nat} {t : ITx} (h : ITxAt w b off t) (hb : b < w.heap.size) (hw : Below w.heap.size w w') : ITxAt w' b off t := by
  obtain ⟨a, cap, h1, h2, h3, h4, h5⟩ := h
  exact ⟨a, cap, (hw.cell (p := ⟨b, off, none⟩) hb).trans h1, h2, h3, h4.below hw, (hw.cell (p := ⟨b, off + 1, none⟩) hb).trans h5⟩
theorem ITxsQ.below {w w' : World} {a : Option Addr} {l : List ITx} (h : ITxsQ w a l) (hw : Below w.heap.size w w') : ITxsQ w' a l := by
  rcases h with h | ⟨b, off, rfl, hb, h⟩
  · exact .inl h
  · exact .inr ⟨b, off, rfl, Nat.lt_of_lt_of_le hb hw.size, fun k hk => (h k hk).below hb hw⟩
theorem IntsQ.below {w w' : World} {a : Option Addr} {l : List Int} (h : IntsQ w a l) (hw : Below w.heap.size w w') : IntsQ w' a l := by
  rcases h with h | ⟨b, off, rfl, hb, h⟩
  · exact .inl h
  · exact .inr ⟨b, off, rfl, Nat.lt_of_lt_of_le hb hw.size, fun k hk => (hw.cell (p := ⟨b, off + k, none⟩) hb).trans (h k hk)⟩
theorem IRowAt.below {w w' : World} {b off : Nat} {l : List Int} (h : IRowAt w b off l) (hb : b < w.heap.size) (hw : Below w.heap.size w w') : IRowAt w' b off l := by
  obtain ⟨a, cap, h1, h2, h3, h4⟩ := h
  exact ⟨a, cap, (hw.cell (p := ⟨b, off, none⟩) hb).trans h1, h2, h3, h4.below hw⟩
theorem IRowsQ.below {w w' : World} {a : Option Addr} {l : List (List Int)} (h : IRowsQ w a l) (hw : Below w.heap.size w w') : IRowsQ w' a l := by
  rcases h with h | ⟨b, off, rfl, hb, h⟩
  · exact .inl h
  · exact .inr ⟨b, off, rfl, Nat.lt_of_lt_of_le hb hw.size, fun k hk => (h k hk).below hb hw⟩
theorem StyQ.below {w w' : World} {a b : Option Addr} {ca cb : Nat} {s : ISt} (h : StyQ w a ca b cb s) (hw : Below w.heap.size w w') : StyQ w' a ca b cb s :=
  ⟨h.txs.below hw, h.tcap, h.tmax, h.ord.below hw, h.ocap, h.omax⟩
theorem StyQ.tx {w : World} {a b : Option Addr} {ca cb : Nat} {s : ISt} (h : StyQ w a ca b cb s) {i : Nat} (hi : i < s.txs.length) : ∃ g off, a = some ⟨g, off, none⟩ ∧ g < w.heap.size ∧ ITxAt w g (off + i * 2) s.txs[i] := by
  rcases h.txs with e | ⟨g, off, e, hg, h⟩
  · rw [e] at hi; simp at hi
  · exact ⟨g, off, e, hg, h i hi⟩
theorem StyQ.row {w : World} {a b : Option Addr} {ca cb : Nat} {s : ISt} (h : StyQ w a ca b cb s) {i : Nat} (hi : i < s.ord.length) : ∃ g off, b = some ⟨g, off, none⟩ ∧ g < w.heap.size ∧ IRowAt w g (off + i) s.ord[i] := by
  rcases h.ord with e | ⟨g, off, e, hg, h⟩
  · rw [e] at hi; simp at hi
  · exact ⟨g, off, e, hg, h i hi⟩
theorem IOpsQ.at {w : World} {a : Option Addr} {l : List IOp} (h : IOpsQ w a l) {i : Nat} (hi : i < l.length) : ∃ g off, a = some ⟨g, off, none⟩ ∧ g < w.heap.size ∧ IOpAt w g (off + i * 4) l[i] := by
  rcases h with e | ⟨g, off, e, hg, h⟩
  · rw [e] at hi; simp at hi
  · exact ⟨g, off, e, hg, h i hi⟩
theorem IntsQ.at {w : World} {a : Option Addr} {l : List Int} (h : IntsQ w a l) {i : Nat} (hi : i < l.length) : ∃ g off, a = some ⟨g, off, none⟩ ∧ g < w.heap.size ∧ w.cell? ⟨g, off + i, none⟩ = some (.int .i64 l[i]) := by
  rcases h with e | ⟨g, off, e, hg, h⟩
  · rw [e] at hi; simp at hi
  · exact ⟨g, off, e, hg, h i hi⟩

/-! ### eight times eight numbers -/
def verL (f : Nat → Nat → Nat) : List Value := (List.range 64).map fun q => .int .i64 (f (q / 8) (q % 8) : Int)
theorem verL_len (f : Nat → Nat → Nat) : (verL f).length = 64 := by simp [verL]
theorem verL_at (f : Nat → Nat → Nat) {i j : Nat} (hi : i < 8) (hj : j < 8) : (verL f)[i * 8 + j]? = some (.int .i64 (f i j : Int)) := by
  unfold verL
  rw [List.getElem?_map, List.getElem?_range (by omega)]
  simp [show (i * 8 + j) / 8 = i by omega, show (i * 8 + j) % 8 = j by omega]
theorem verL_one (f : Nat → Nat → Nat) : ∀ v ∈ verL f, v.oneCell' = true := by
  intro v hv
  obtain ⟨q, _, rfl⟩ := List.mem_map.1 hv
  rfl
theorem verL_same {f g : Nat → Nat → Nat} (h : ∀ i j, i < 8 → j < 8 → f i j = g i j) : verL f = verL g := by
  unfold verL
  refine List.map_congr_left fun q hq => ?_
  rw [List.mem_range] at hq
  rw [h (q / 8) (q % 8) (by omega) (by omega)]
theorem verL_set (f : Nat → Nat → Nat) {i j : Nat} (hi : i < 8) (hj : j < 8) (x : Nat) : (verL f).set (i * 8 + j) (.int .i64 (x : Int)) = verL fun a b => if a = i ∧ b = j then x else f a b := by
  refine List.ext_getElem? fun q => ?_
  rw [List.getElem?_set, verL_len]
  by_cases e : i * 8 + j = q
  · subst e
    rw [if_pos rfl, if_pos (by omega), verL_at _ hi hj]
    simp
  · rw [if_neg e]
    by_cases hq : q < 64
    · have h1 := verL_at f (i := q / 8) (j := q % 8) (by omega) (by omega)
      have h2 := verL_at (fun a b => if a = i ∧ b = j then x else f a b) (i := q / 8) (j := q % 8) (by omega) (by omega)
      rw [show q / 8 * 8 + q % 8 = q by omega] at h1 h2
      rw [h1, h2, if_neg (by omega)]
    · rw [List.getElem?_eq_none (by rw [verL_len]; omega), List.getElem?_eq_none (by rw [verL_len]; omega)]
def verA (f : Nat → Nat → Nat) : Value := .agg (verL f).toArray
/-- A block of them. -/
def VerB (w : World) (g : Nat) (f : Nat → Nat → Nat) : Prop := ∃ t, w.heap[g]? = some (.cells (verL f).toArray t (0, 0))
theorem VerB.lt {w : World} {g : Nat} {f : Nat → Nat → Nat} (h : VerB w g f) : g < w.heap.size := by
  obtain ⟨t, h⟩ := h
  exact lt_of_heap h
theorem VerB.block {w w' : World} {g : Nat} {f : Nat → Nat → Nat} (h : VerB w g f) (hb : w'.heap[g]? = w.heap[g]?) : VerB w' g f := by
  obtain ⟨t, h⟩ := h
  exact ⟨t, hb.trans h⟩
theorem VerB.below {B : Nat} {w w' : World} {g : Nat} {f : Nat → Nat → Nat} (h : VerB w g f) (hb : Below B w w') (hg : g < B) : VerB w' g f := h.block (hb.block g hg)
theorem VerB.alloc {w : World} {g : Nat} {f : Nat → Nat → Nat} (h : VerB w g f) (o : Obj) : VerB (w.alloc o) g f := h.below ((Below.refl _ _).alloc (Nat.le_refl _) o) h.lt
theorem VerB.other {w : World} {g : Nat} {f : Nat → Nat → Nat} (h : VerB w g f) {p : Addr} (hp : g ≠ p.block) (x : Value) : VerB (w.setCell p x) g f := h.block (Below.heap_setCell w p x g hp)
theorem VerB.at {w : World} {g : Nat} {f : Nat → Nat → Nat} (h : VerB w g f) {i j : Nat} (hi : i < 8) (hj : j < 8) : w.cell? ⟨g, i * 8 + j, none⟩ = some (.int .i64 (f i j : Int)) := by
  obtain ⟨t, h⟩ := h
  rw [cell_of_row _ _ _ _ t _ h, List.getElem?_toArray]
  exact verL_at f hi hj
theorem VerB.fz {w : World} {g : Nat} {f : Nat → Nat → Nat} (h : VerB w g f) (i : Nat) : w.frozen? ⟨g, i, none⟩ = false := by
  obtain ⟨t, h⟩ := h
  exact frozen_of_row w g i _ t h
theorem VerB.same {w : World} {g : Nat} {f f' : Nat → Nat → Nat} (h : VerB w g f) (e : ∀ i j, i < 8 → j < 8 → f i j = f' i j) : VerB w g f' := by
  obtain ⟨t, h⟩ := h
  exact ⟨t, by rw [← verL_same e]; exact h⟩
theorem VerB.range {w : World} {g : Nat} {f : Nat → Nat → Nat} (h : VerB w g f) : w.rangeAt g 0 (verL f) := fun j v hv => by
  obtain ⟨t, h⟩ := h
  rw [Nat.zero_add, cell_of_row _ _ _ _ t _ h, List.getElem?_toArray]
  exact hv
theorem VerB.there {w : World} {g : Nat} {f : Nat → Nat → Nat} (h : VerB w g f) : w.there g 0 64 := fun j hj => by
  refine ⟨?_, h.fz _⟩
  obtain ⟨t, h⟩ := h
  rw [Nat.zero_add, cell_of_row _ _ _ _ t _ h, List.getElem?_toArray, List.getElem?_eq_getElem (by rw [verL_len]; omega)]
  rfl
theorem VerB.put {w : World} {g : Nat} {f : Nat → Nat → Nat} (h : VerB w g f) {i j : Nat} (hi : i < 8) (hj : j < 8) (x : Nat) : VerB (w.setCell ⟨g, i * 8 + j, none⟩ (.int .i64 (x : Int))) g (fun a b => if a = i ∧ b = j then x else f a b) := by
  obtain ⟨t, h⟩ := h
  refine ⟨t, ?_⟩
  rw [heap_setCell_same w g (i * 8 + j) _ t _ h, List.setIfInBounds_toArray, verL_set f hi hj]
theorem verB_new (w : World) (f : Nat → Nat → Nat) (t : TypeId) : VerB (w.alloc (.cells (verL f).toArray t)) w.heap.size f := ⟨t, heap_alloc_new w _⟩
end Go.Proofs.YtaopigjhdkdklaaDoor
