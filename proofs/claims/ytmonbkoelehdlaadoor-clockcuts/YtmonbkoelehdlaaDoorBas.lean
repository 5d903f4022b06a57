/-
  Steps and vectors as the program has them; small facts on memory.
-/
import Derived.Test.YtmonbkoelehdlaaDoorWalkAZ
import Derived.Test.YtmonbkoelehdlaaDoorRowS
import Derived.Test.YtmonbkoelehdlaaDoorMapV
import Derived.Test.YtmonbkoelehdlaaDoorPaP
import Derived.WalkKit
import Derived.WalkSpells
import Derived.WalkLawsBesides
import Derived.Deep.RegionWith
import Derived.LoopTactic
import Derived.Deep.Draws
import Derived.Maps.OwnOps
import Derived.Laws.MakeOwn
namespace Go.Proofs.YtmonbkoelehdlaaDoor
open Go.RowKit

theorem hideIt {p : Prop} (h : p) : Hid p := h
theorem belJ {w W w1 : World} (h : Below w.heap.size w W) (hb : Below W.heap.size W w1) : Below w.heap.size w w1 := h.trans (hb.mono h.size)
theorem belA {w W : World} (h : Below w.heap.size w W) (o : Obj) : Below w.heap.size w (W.alloc o) := h.alloc h.size o
theorem ret_bool {a b : Bool} (h : a = b) : Ending.returned (.bool a) = .returned (.bool b) := by rw [h]
theorem ret_int {a b : Int} (h : a = b) : Ending.returned (.int .i64 a) = .returned (.int .i64 b) := by rw [h]
theorem zeroInt (w : World) : (zeroValue 3).run Tryd.prog w = .ok (.int .i64 0) w := by kernel_rfl
theorem wf_of {x : Int} (h : -1000000 ≤ x ∧ x ≤ 1000000) : (Lit.int .i64 x).wf = true := WalkArith.wf_i64 (by omega)

def Stp.agg (s : Stp) : Value := .agg #[.int .i64 s.p, .int .i64 s.k, .int .i64 s.m]
/-- A step in memory. -/
def StpAt (w : World) (b off : Nat) (s : Stp) : Prop := w.cell? ⟨b, off, none⟩ = some (.int .i64 s.p) ∧ w.cell? ⟨b, off + 1, none⟩ = some (.int .i64 s.k) ∧ w.cell? ⟨b, off + 2, none⟩ = some (.int .i64 s.m)
def StpsAt (w : World) (b off : Nat) (l : List Stp) : Prop := ∀ k (h : k < l.length), StpAt w b (off + k * 3) l[k]
theorem StpAt.below {B : Nat} {w w' : World} {b off : Nat} {s : Stp} (h : StpAt w b off s) (hb : b < B) (hw : Below B w w') : StpAt w' b off s :=
  ⟨(hw.cell (p := ⟨b, off, none⟩) hb).trans h.1, (hw.cell (p := ⟨b, off + 1, none⟩) hb).trans h.2.1, (hw.cell (p := ⟨b, off + 2, none⟩) hb).trans h.2.2⟩
theorem StpsAt.below {B : Nat} {w w' : World} {b off : Nat} {l : List Stp} (h : StpsAt w b off l) (hb : b < B) (hw : Below B w w') : StpsAt w' b off l := fun k hk => (h k hk).below hb hw
/-- Steps that came in: none, or in memory. -/
def StpsQ (w : World) (a : Option Addr) (l : List Stp) : Prop := l = [] ∨ ∃ b off, a = some ⟨b, off, none⟩ ∧ b < w.heap.size ∧ StpsAt w b off l
theorem StpsQ.below {w w' : World} {a : Option Addr} {l : List Stp} (h : StpsQ w a l) (hw : Below w.heap.size w w') : StpsQ w' a l := by
  rcases h with h | ⟨b, off, rfl, hb, h⟩
  · exact .inl h
  · exact .inr ⟨b, off, rfl, Nat.lt_of_lt_of_le hb hw.size, h.below hb hw⟩
theorem stZ_at {l : List Stp} {k : Nat} (h : k < l.length) : stZ l k = l[k] := by
  unfold stZ
  simp [List.getD, h]

/-- A vector. -/
def vecA (v : Nat → Int) : Value := .agg #[.int .i64 (v 0), .int .i64 (v 1), .int .i64 (v 2), .int .i64 (v 3), .int .i64 (v 4), .int .i64 (v 5), .int .i64 (v 6), .int .i64 (v 7)]
theorem vecA_congr {v u : Nat → Int} (h : ∀ q, q < 8 → v q = u q) : vecA v = vecA u := by
  unfold vecA
  rw [h 0 (by omega), h 1 (by omega), h 2 (by omega), h 3 (by omega), h 4 (by omega), h 5 (by omega), h 6 (by omega), h 7 (by omega)]
theorem ret_vec {v u : Nat → Int} (h : ∀ q, q < 8 → v q = u q) : Ending.returned (vecA v) = .returned (vecA u) := by rw [vecA_congr h]
theorem all8 {P : Nat → Prop} (h0 : P 0) (h1 : P 1) (h2 : P 2) (h3 : P 3) (h4 : P 4) (h5 : P 5) (h6 : P 6) (h7 : P 7) : ∀ q, q < 8 → P q := fun q hq => by
  rcases (by omega : q = 0 ∨ q = 1 ∨ q = 2 ∨ q = 3 ∨ q = 4 ∨ q = 5 ∨ q = 6 ∨ q = 7) with rfl | rfl | rfl | rfl | rfl | rfl | rfl | rfl <;> assumption
def leB (v u : Nat → Int) : Bool := (List.range 8).all fun q => decide (v q ≤ u q)
theorem leB_iff {v u : Nat → Int} : leB v u = true ↔ ∀ q, q < 8 → v q ≤ u q := by simp [leB]
end Go.Proofs.YtmonbkoelehdlaaDoor
