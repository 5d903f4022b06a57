/-
  What Finds tells in plain Lean; what stands while its loop goes on.
  What stands behind Finds' loop.
-/
import Derived.Test.YtaopigjhdkdklaaDoorDlWZ
import Derived.Test.YtaopigjhdkdklaaDoorRgRZ
namespace Go.Proofs.YtaopigjhdkdklaaDoor
open Go.RowKit Go.Shelf

def abtP (s : ISt) (r : Nat × IOp) : Bool := othB r.1 r.2 && !comI s r.2.frm
def btwP (s : ISt) (r : Nat × IOp) : Bool := othB r.1 r.2 && !lastB (verF s) r.2
/-- The six things that can't be. -/
def fndB (s : ISt) (k : Nat) : Bool :=
  if k = 0 then rndB (ovB s) s.txs.length else if k = 1 then (rdI s).any (abtP s) else if k = 2 then (rdI s).any (btwP s)
  else if k = 3 then rndB (orR (ovB s) (seB s)) s.txs.length else if k = 4 then ldbB (anB s) (orR (ovB s) (seB s)) s.txs.length else ldbB (anB s) (edB s) s.txs.length
/-- By some reads. -/
def fndL (s : ISt) (L : List (Nat × IOp)) (k : Nat) : Bool := if k = 1 then L.any (abtP s) else if k = 2 then L.any (btwP s) else false

/-- A matrix, read, that lies apart from a block. -/
def ReadX (w : World) (v : Value) (n : Nat) (A : Nat → Nat → Bool) (g : Nat) : Prop :=
  ∃ a cap, v = .slice a n cap ∧ n ≤ cap ∧ ∀ i, i < n → ∃ h off r, a = some ⟨h, off, none⟩ ∧ h ≠ g ∧ r ≠ g ∧ w.cell? ⟨h, off + i, none⟩ = some (.slice (some ⟨r, 0, none⟩) n n) ∧ ∀ k, k < n → w.cell? ⟨r, k, none⟩ = some (.bool (A i k))
theorem ReadX.readM {w : World} {v : Value} {n g : Nat} {A : Nat → Nat → Bool} (h : ReadX w v n A g) : ReadM w v n A := by
  obtain ⟨a, cap, e, hc, hr⟩ := h
  refine ⟨a, cap, e, hc, fun i hi => ?_⟩
  obtain ⟨h, off, r, e1, _, _, h1, h2⟩ := hr i hi
  exact ⟨h, off, r, e1, h1, h2⟩
theorem ReadM.apart {w : World} {v : Value} {n g : Nat} {A : Nat → Nat → Bool} (h : ReadM w v n A) (hg : w.heap.size ≤ g) : ReadX w v n A g := by
  obtain ⟨a, cap, e, hc, hr⟩ := h
  refine ⟨a, cap, e, hc, fun i hi => ?_⟩
  obtain ⟨h, off, r, e1, h1, h2⟩ := hr i hi
  have l1 : h < w.heap.size := World.block_lt_of_cell? w _ h1
  have l2 : r < w.heap.size := World.block_lt_of_cell? w _ (h2 i hi)
  exact ⟨h, off, r, e1, by omega, by omega, h1, h2⟩
theorem MatAt.apart {w : World} {base B n g : Nat} {rb : Nat → Nat} {M : Nat → Nat → Bool} (h : MatAt w base B n n rb M) (hg : g < base) : ReadX w (.slice (some ⟨B, 0, none⟩) n n) n M g :=
  ⟨_, n, rfl, Nat.le_refl _, fun i hi => ⟨B, 0, rb i, rfl, by have := h.lo; omega, by have := (h.from_ i hi).1; omega, by rw [Nat.zero_add]; exact h.head i hi, fun k hk => (h.row i hi).bit k hk⟩⟩
theorem ReadX.keep {w w' : World} {v : Value} {n g : Nat} {A : Nat → Nat → Bool} (h : ReadX w v n A g) (hk : ∀ b, b < w.heap.size → b ≠ g → w'.heap[b]? = w.heap[b]?) : ReadX w' v n A g := by
  obtain ⟨a, cap, e, hc, hr⟩ := h
  refine ⟨a, cap, e, hc, fun i hi => ?_⟩
  obtain ⟨h, off, r, e1, n1, n2, h1, h2⟩ := hr i hi
  exact ⟨h, off, r, e1, n1, n2, (World.cell?_of_block (a := ⟨h, off + i, none⟩) (hk h (World.block_lt_of_cell? w _ h1) n1)).trans h1, fun k hk' => (World.cell?_of_block (a := ⟨r, k, none⟩) (hk r (World.block_lt_of_cell? w _ (h2 k hk')) n2)).trans (h2 k hk')⟩
theorem ReadX.below {w w' : World} {v : Value} {n g : Nat} {A : Nat → Nat → Bool} (h : ReadX w v n A g) (hb : Below w.heap.size w w') : ReadX w' v n A g := h.keep fun b hb' _ => hb.block b hb'
theorem ReadX.set {w : World} {v : Value} {n g : Nat} {A : Nat → Nat → Bool} (h : ReadX w v n A g) (k : Nat) (u : Value) : ReadX (w.setCell ⟨g, k, none⟩ u) v n A g := h.keep fun b _ hne => Below.heap_setCell w ⟨g, k, none⟩ u b hne

/-- A round of Finds' loop from W on, W4 being where the loop began. -/
structure MidF (W4 W W' : World) (n₀ L H Bf Bx : Nat) (f : Nat → Bool) : Prop where
  bits : BitsAt W' Bf 6 f
  kx : ∀ b, b < W4.heap.size → b ≠ Bf → W'.heap[b]? = W4.heap[b]?
  b4 : Below n₀ W4 W'
  bW : Below n₀ W W'
  oth : KeepsOthers W W'
  its : ∀ b, L ≤ b → b < H → W'.heap[b]? = W.heap[b]?
  bx : W'.heap[Bx]? = W.heap[Bx]?
section
variable {W4 W W' W'' : World} {n₀ L H Bf Bx : Nat} {f : Nat → Bool}
theorem MidF.below (h : MidF W4 W W' n₀ L H Bf Bx f) (hb : Below W'.heap.size W' W'') (h4 : n₀ ≤ W4.heap.size) (hH : H ≤ W4.heap.size) (hx : Bx < W.heap.size) : MidF W4 W W'' n₀ L H Bf Bx f := by
  have s4 := h.b4.size
  have sW := h.bW.size
  exact ⟨h.bits.below hb h.bits.lt, fun b h1 h2 => (hb.block b (by omega)).trans (h.kx b h1 h2), h.b4.trans (hb.mono (by omega)), h.bW.trans (hb.mono (by omega)), h.oth.trans (keeps_below hb), fun b h1 h2 => (hb.block b (by omega)).trans (h.its b h1 h2), (hb.block Bx (by omega)).trans h.bx⟩
theorem MidF.put (h : MidF W4 W W' n₀ L H Bf Bx f) {m : Nat} (hm : m < 6) (x : Bool) (hn : n₀ ≤ Bf) (hL : Bf < L) (hne : Bx ≠ Bf) : MidF W4 W (W'.setCell ⟨Bf, m, none⟩ (.bool x)) n₀ L H Bf Bx (fun k => if k = m then x else f k) :=
  ⟨h.bits.put hm x, fun b h1 h2 => (Below.heap_setCell W' ⟨Bf, m, none⟩ _ b h2).trans (h.kx b h1 h2), h.b4.setCell (p := ⟨Bf, m, none⟩) hn _, h.bW.setCell (p := ⟨Bf, m, none⟩) hn _, h.oth.trans (KeepsOthers.setCell _ _ _), fun b h1 h2 => (Below.heap_setCell W' ⟨Bf, m, none⟩ _ b (by show b ≠ Bf; omega)).trans (h.its b h1 h2), (Below.heap_setCell W' ⟨Bf, m, none⟩ _ Bx hne).trans h.bx⟩
end
end Go.Proofs.YtaopigjhdkdklaaDoor

namespace Go.Proofs.YtaopigjhdkdklaaDoor
open Go.RowKit

structure FinS (Z w : World) (e : Nat) (n : Nat) (v1 v2 v3 : Value) (A1 A2 A3 : Nat → Nat → Bool) (D : Nat) (f : Nat → Bool) : Prop where
  bits : BitsAt Z (e + 1) 6 f
  box : Z.cell? ⟨e + 1 + 1, 0, none⟩ = some (.slice (some ⟨e + 1, 0, none⟩) 6 6)
  edg : Z.heap[e]? = some (.cells #[v1, v2, v3] 58 (0, 0))
  x1 : ReadX Z v1 n A1 (e + 1)
  x2 : ReadX Z v2 n A2 (e + 1)
  x3 : ReadX Z v3 n A3 (e + 1)
  dfr : Z.heap[D]? = some (.deferred (some []))
  far : e + 1 < D
  lo : w.heap.size ≤ e
  bel : Below w.heap.size w Z
section
variable {Z Z' w : World} {e n D : Nat} {v1 v2 v3 : Value} {A1 A2 A3 : Nat → Nat → Bool} {f : Nat → Bool}
theorem FinS.below (h : FinS Z w e n v1 v2 v3 A1 A2 A3 D f) (hb : Below Z.heap.size Z Z') : FinS Z' w e n v1 v2 v3 A1 A2 A3 D f :=
  ⟨h.bits.below hb h.bits.lt, (hb.cell (p := ⟨e + 1 + 1, 0, none⟩) (World.block_lt_of_cell? Z _ h.box)).trans h.box, (hb.block e (lt_of_heap h.edg)).trans h.edg, h.x1.below hb, h.x2.below hb, h.x3.below hb, (hb.block D (lt_of_heap h.dfr)).trans h.dfr, h.far, h.lo, belJ h.bel hb⟩
theorem FinS.put (h : FinS Z w e n v1 v2 v3 A1 A2 A3 D f) {m : Nat} (hm : m < 6) (x : Bool) : FinS (Z.setCell ⟨e + 1, m, none⟩ (.bool x)) w e n v1 v2 v3 A1 A2 A3 D (fun k => if k = m then x else f k) :=
  ⟨h.bits.put hm x, (World.cell?_setCell_other _ _ _ _ (blkNe (by omega))).trans h.box, (Below.heap_setCell Z ⟨e + 1, m, none⟩ _ e (by show e ≠ e + 1; omega)).trans h.edg, h.x1.set m _, h.x2.set m _, h.x3.set m _, (Below.heap_setCell Z ⟨e + 1, m, none⟩ _ D (by show D ≠ e + 1; have := h.far; omega)).trans h.dfr, h.far, h.lo, h.bel.setCell (p := ⟨e + 1, m, none⟩) (by have := h.lo; show w.heap.size ≤ e + 1; omega) _⟩
theorem FinS.cells (h : FinS Z w e n v1 v2 v3 A1 A2 A3 D f) : Z.cell? ⟨e + 1 + 1, 0, none⟩ = some (.slice (some ⟨e + 1, 0, none⟩) 6 6) ∧ Z.cell? ⟨e, 0, none⟩ = some v1 ∧ Z.cell? ⟨e, 1, none⟩ = some v2 ∧ Z.cell? ⟨e, 2, none⟩ = some v3 :=
  ⟨h.box, cell_of_row _ _ _ _ 58 _ h.edg, cell_of_row _ _ _ _ 58 _ h.edg, cell_of_row _ _ _ _ 58 _ h.edg⟩
end
end Go.Proofs.YtaopigjhdkdklaaDoor
