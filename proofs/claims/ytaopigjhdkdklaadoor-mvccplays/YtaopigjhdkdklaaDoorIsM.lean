/-
  A story in memory; an array of eight times eight numbers in memory.
-/
import Derived.Test.YtaopigjhdkdklaaDoorGhPZ
import Derived.Test.YtaopigjhdkdklaaDoorSmIZ
import Derived.Test.YtaopigjhdkdklaaDoorRgL
namespace Go.Proofs.YtaopigjhdkdklaaDoor
open Go.RowKit

def IOp.agg (o : IOp) : Value := .agg #[.bool o.wr, .int .i64 o.key, .int .i64 o.frm, .int .i64 o.num]
/-- An op in memory. -/
def IOpAt (w : World) (b off : Nat) (o : IOp) : Prop :=
  w.cell? ⟨b, off, none⟩ = some (.bool o.wr) ∧ w.cell? ⟨b, off + 1, none⟩ = some (.int .i64 o.key) ∧ w.cell? ⟨b, off + 2, none⟩ = some (.int .i64 o.frm) ∧ w.cell? ⟨b, off + 3, none⟩ = some (.int .i64 o.num)
/-- Ops: none, or in memory. -/
def IOpsQ (w : World) (a : Option Addr) (l : List IOp) : Prop := l = [] ∨ ∃ b off, a = some ⟨b, off, none⟩ ∧ b < w.heap.size ∧ ∀ k (h : k < l.length), IOpAt w b (off + k * 4) l[k]
/-- A transaction in memory. -/
def ITxAt (w : World) (b off : Nat) (t : ITx) : Prop :=
  ∃ a cap, w.cell? ⟨b, off, none⟩ = some (.slice a t.ops.length cap) ∧ t.ops.length ≤ cap ∧ t.ops.length ≤ maxLen ∧ IOpsQ w a t.ops ∧ w.cell? ⟨b, off + 1, none⟩ = some (.bool t.com)
def ITxsQ (w : World) (a : Option Addr) (l : List ITx) : Prop := l = [] ∨ ∃ b off, a = some ⟨b, off, none⟩ ∧ b < w.heap.size ∧ ∀ k (h : k < l.length), ITxAt w b (off + k * 2) l[k]
/-- Numbers: none, or in memory. -/
def IntsQ (w : World) (a : Option Addr) (l : List Int) : Prop := l = [] ∨ ∃ b off, a = some ⟨b, off, none⟩ ∧ b < w.heap.size ∧ ∀ k (h : k < l.length), w.cell? ⟨b, off + k, none⟩ = some (.int .i64 l[k])
def IRowAt (w : World) (b off : Nat) (l : List Int) : Prop := ∃ a cap, w.cell? ⟨b, off, none⟩ = some (.slice a l.length cap) ∧ l.length ≤ cap ∧ l.length ≤ maxLen ∧ IntsQ w a l
def IRowsQ (w : World) (a : Option Addr) (l : List (List Int)) : Prop := l = [] ∨ ∃ b off, a = some ⟨b, off, none⟩ ∧ b < w.heap.size ∧ ∀ k (h : k < l.length), IRowAt w b (off + k) l[k]
/-- A story: where its transactions and its lists lie. -/
structure StyQ (w : World) (a : Option Addr) (ca : Nat) (b : Option Addr) (cb : Nat) (s : ISt) : Prop where
  txs : ITxsQ w a s.txs
  tcap : s.txs.length ≤ ca
  tmax : s.txs.length ≤ maxLen
  ord : IRowsQ w b s.ord
  ocap : s.ord.length ≤ cb
  omax : s.ord.length ≤ maxLen
theorem IOpAt.below {B : Nat} {w w' : World} {b off : Nat} {o : IOp} (h : IOpAt w b off o) (hb : b < B) (hw : Below B w w') : IOpAt w' b off o :=
  ⟨(hw.cell (p := ⟨b, off, none⟩) hb).trans h.1, (hw.cell (p := ⟨b, off + 1, none⟩) hb).trans h.2.1, (hw.cell (p := ⟨b, off + 2, none⟩) hb).trans h.2.2.1, (hw.cell (p := ⟨b, off + 3, none⟩) hb).trans h.2.2.2⟩
theorem IOpsQ.below {w w' : World} {a : Option Addr} {l : List IOp} (h : IOpsQ w a l) (hw : Below w.heap.size w w') : IOpsQ w' a l := by
  rcases h with h | ⟨b, off, rfl, hb, h⟩
  · exact .inl h
  · exact .inr ⟨b, off, rfl, Nat.lt_of_lt_of_le hb hw.size, fun k hk => (h k hk).below hb hw⟩
theorem ITxAt.below {w w' : World} {b off : Nat} {t : ITx} (h : ITxAt w b off t) (hb : b < w.heap.size) (hw : Below w.heap.size w w') : ITxAt w' b off t := by
  obtain ⟨a, cap, h1, h2, h3, h4, h5⟩ := h
  exact ⟨a, cap, (hw.cell (p := ⟨b, off, none⟩) hb).trans h1, h2, h3, h4.below hw, (hw.cell (p := ⟨b, off + 1, none⟩) hb).trans h5⟩
theorem ITxsQ.below {w w' : World} {a : Option Addr} {l : List ITx} (h : ITxsQ w a l) (hw : Below w.heap.size w w') : ITxsQ w' a l := by
  rcases h with h | ⟨b, off, rfl, hb, h⟩
  · exact .inl h
  · exact .inr ⟨b, off, rfl, Nat.lt_of_lt_of_le hb hw.size, fun k hk => (h k hk).below hb hw⟩
theorem IntsQ.below {w w' : World} {a : Option Addr} {l : List Int} (h : IntsQ w a l) (hw : Below w.heap.size w w') : IntsQ w' a l := by
  rcases h with h | ⟨b, off, rfl, hb, h⟩
  · exact .inl h
  · exact .inr ⟨b, off, rfl, Nat.lt_of_lt_of_le hb hw.size, fun k hk => (hw.cell (p := ⟨b, off + k, none⟩) hb).trans (h k hk)⟩
theorem IRowAt.below {w w' : World} {b off : Nat} {l : List Int} (h : IRowAt w b off l) (hb : b < w.heap.size) (hw : Below w.heap.size w w') : IRowAt w' b off l := by
  obtain ⟨a, cap, h1, h2, h3, h4⟩ := h
  exact ⟨a, cap, (hw.cell (p := ⟨b, off, none⟩) hb).trans h1, h2, h3, h4.below hw⟩
theorem IRowsQ.below {w w' : World} {a : Option Addr} {l : List (List Int)} (h : IRowsQ w a l) (hw : Below w.heap.size w w') : IRowsQ w' a l := by
  rcases h with h | ⟨b, off, rfl, hb, h⟩
  · exact .inl h
  · exact .inr ⟨b, off, rfl, Nat.lt_of_lt_of_le hb hw.size, fun k hk => (h k hk).below hb hw⟩
theorem IOpsQ.at {w : World} {a : Option Addr} {l : List IOp} (h : IOpsQ w a l) {i : Nat} (hi : i < l.length) : ∃ g off, a = some ⟨g, off, none⟩ ∧ g < w.heap.size ∧ IOpAt w g (off + i * 4) l[i] := by
  rcases h with e | ⟨g, off, e, hg, h⟩
  · rw [e] at hi; simp at hi
  · exact ⟨g, off, e, hg, h i hi⟩

/-! ### eight times eight numbers -/
end Go.Proofs.YtaopigjhdkdklaaDoor
