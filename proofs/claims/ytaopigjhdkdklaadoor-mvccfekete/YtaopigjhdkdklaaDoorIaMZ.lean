/-
  Three graphs in memory; what each read sets in them.
  What stands while a round of All's loop goes on; a load of many cells in a round.
-/
import Derived.Test.YtaopigjhdkdklaaDoorIbWZ
import Derived.Test.YtaopigjhdkdklaaDoorRgRZ
namespace Go.Proofs.YtaopigjhdkdklaaDoor
open Go.RowKit

/-- Does a read set an edge of Seen, of Anew? -/
def seeP (s : ISt) (r : Nat × IOp) (i k : Nat) : Bool := (r.2.frm == -1 || comI s r.2.frm) && (othB r.1 r.2 && lastB (verF s) r.2) && (r.2.frm == (i : Int) && r.1 == k)
def anwV (s : ISt) (r : Nat × IOp) : Int := behV (lstK s r.2.key) r.2.frm
def anwP (s : ISt) (r : Nat × IOp) (i k : Nat) : Bool := (r.2.frm == -1 || comI s r.2.frm) && (anwV s r != -1 && anwV s r != (r.1 : Int)) && (r.1 == i && anwV s r == (k : Int))
def seeL (s : ISt) (L : List (Nat × IOp)) (i k : Nat) : Bool := L.any fun r => seeP s r i k
def anwL (s : ISt) (L : List (Nat × IOp)) (i k : Nat) : Bool := L.any fun r => anwP s r i k
def seB (s : ISt) : Nat → Nat → Bool := seeL s (rdI s)
def anB (s : ISt) : Nat → Nat → Bool := anwL s (rdI s)
theorem seeL_app (s : ISt) (L : List (Nat × IOp)) (r : Nat × IOp) (i k : Nat) : seeL s (L ++ [r]) i k = (seeL s L i k || seeP s r i k) := by simp [seeL]
theorem anwL_app (s : ISt) (L : List (Nat × IOp)) (r : Nat × IOp) (i k : Nat) : anwL s (L ++ [r]) i k = (anwL s L i k || anwP s r i k) := by simp [anwL]
theorem or_put {A : Nat → Nat → Bool} {p : Nat → Nat → Bool} {a b : Nat} (h : ∀ i k, p i k = (decide (i = a) && decide (k = b))) (i k : Nat) : (if i = a ∧ k = b then true else A i k) = (A i k || p i k) := by
  rw [h]
  by_cases e : i = a ∧ k = b
  · rw [if_pos e, e.1, e.2]; simp
  · rw [if_neg e]
    by_cases e1 : i = a
    · have : ¬ k = b := fun h => e ⟨e1, h⟩
      simp [this]
    · simp [e1]

theorem MatAt.keep {w : World} {base B n m : Nat} {rb : Nat → Nat} {M : Nat → Nat → Bool} (h : MatAt w base B n m rb M) {p : Addr} (hB : B ≠ p.block) (hr : ∀ i, i < m → rb i ≠ p.block) (u : Value) : MatAt (w.setCell p u) base B n m rb M := by
  obtain ⟨cur, hc⟩ := h.blk
  have hcell : ∀ j, (w.setCell p u).cell? ⟨B, j, none⟩ = w.cell? ⟨B, j, none⟩ := fun j => World.cell?_of_block (a := ⟨B, j, none⟩) (Below.heap_setCell w p u B hB)
  exact ⟨⟨cur, (Below.heap_setCell w p u B hB).trans hc⟩, h.lo, fun j hj => by rw [hcell]; exact h.room j hj, h.few, fun j hj => by rw [hcell]; exact h.head j hj, fun j hj => (h.row j hj).other (hr j hj) _, h.from_, h.inj⟩
theorem MatAt.blocks {w w' : World} {base B n m : Nat} {rb : Nat → Nat} {M : Nat → Nat → Bool} (h : MatAt w base B n m rb M) (hB : w'.heap[B]? = w.heap[B]?) (hr : ∀ i, i < m → w'.heap[rb i]? = w.heap[rb i]?) : MatAt w' base B n m rb M := by
  obtain ⟨cur, hc⟩ := h.blk
  have hcell : ∀ j, w'.cell? ⟨B, j, none⟩ = w.cell? ⟨B, j, none⟩ := fun j => World.cell?_of_block (a := ⟨B, j, none⟩) hB
  exact ⟨⟨cur, hB.trans hc⟩, h.lo, fun j hj => by rw [hcell]; exact h.room j hj, h.few, fun j hj => by rw [hcell]; exact h.head j hj, fun j hj => (h.row j hj).block (hr j hj), h.from_, h.inj⟩
theorem MatAt.ne_row {w : World} {base B n m : Nat} {rb : Nat → Nat} {M : Nat → Nat → Bool} (h : MatAt w base B n m rb M) {g n' : Nat} {f : Nat → Bool} (hg : BitsAt w g n' f) : B ≠ g := fun e => by
  obtain ⟨cur, hc⟩ := h.blk
  obtain ⟨cur', hc'⟩ := hg.blk
  rw [e, hc'] at hc
  injection hc with hc
  injection hc with _ hc
  cases hc
/-- Over, Seen, Anew. -/
structure EdgAt (w : World) (lo n B1 : Nat) (r1 : Nat → Nat) (B2 : Nat) (r2 : Nat → Nat) (B3 : Nat) (r3 : Nat → Nat) (A1 A2 A3 : Nat → Nat → Bool) : Prop where
  m1 : MatAt w lo B1 n n r1 A1
  m2 : MatAt w lo B2 n n r2 A2
  m3 : MatAt w lo B3 n n r3 A3
  a12 : ∀ i j, i < n → j < n → r1 i ≠ r2 j
  a13 : ∀ i j, i < n → j < n → r1 i ≠ r3 j
  a23 : ∀ i j, i < n → j < n → r2 i ≠ r3 j
section
variable {w : World} {lo n B1 B2 B3 : Nat} {r1 r2 r3 : Nat → Nat} {A1 A2 A3 : Nat → Nat → Bool}
theorem EdgAt.put2 (h : EdgAt w lo n B1 r1 B2 r2 B3 r3 A1 A2 A3) {i k : Nat} (hi : i < n) (hk : k < n) : EdgAt (w.setCell ⟨r2 i, k, none⟩ (.bool true)) lo n B1 r1 B2 r2 B3 r3 A1 (fun a b => if a = i ∧ b = k then true else A2 a b) A3 :=
  ⟨h.m1.keep (p := ⟨r2 i, k, none⟩) (h.m1.ne_row (h.m2.row i hi)) (fun j hj => h.a12 j i hj hi) _, h.m2.put hi hk true, h.m3.keep (p := ⟨r2 i, k, none⟩) (h.m3.ne_row (h.m2.row i hi)) (fun j hj => (h.a23 i j hi hj).symm) _, h.a12, h.a13, h.a23⟩
theorem EdgAt.put3 (h : EdgAt w lo n B1 r1 B2 r2 B3 r3 A1 A2 A3) {i k : Nat} (hi : i < n) (hk : k < n) : EdgAt (w.setCell ⟨r3 i, k, none⟩ (.bool true)) lo n B1 r1 B2 r2 B3 r3 A1 A2 (fun a b => if a = i ∧ b = k then true else A3 a b) :=
  ⟨h.m1.keep (p := ⟨r3 i, k, none⟩) (h.m1.ne_row (h.m3.row i hi)) (fun j hj => h.a13 j i hj hi) _, h.m2.keep (p := ⟨r3 i, k, none⟩) (h.m2.ne_row (h.m3.row i hi)) (fun j hj => h.a23 j i hj hi) _, h.m3.put hi hk true, h.a12, h.a13, h.a23⟩
theorem EdgAt.same {A1' A2' A3' : Nat → Nat → Bool} (h : EdgAt w lo n B1 r1 B2 r2 B3 r3 A1 A2 A3) (e1 : ∀ i k, i < n → k < n → A1 i k = A1' i k) (e2 : ∀ i k, i < n → k < n → A2 i k = A2' i k) (e3 : ∀ i k, i < n → k < n → A3 i k = A3' i k) : EdgAt w lo n B1 r1 B2 r2 B3 r3 A1' A2' A3' :=
  ⟨h.m1.same e1, h.m2.same e2, h.m3.same e3, h.a12, h.a13, h.a23⟩
theorem EdgAt.blocks {w' : World} {top : Nat} (h : EdgAt w lo n B1 r1 B2 r2 B3 r3 A1 A2 A3) (ht : ∀ b, b < w.heap.size → b < top → w'.heap[b]? = w.heap[b]?) (t1 : B1 < top ∧ B2 < top ∧ B3 < top ∧ ∀ i, i < n → r1 i < top ∧ r2 i < top ∧ r3 i < top) : EdgAt w' lo n B1 r1 B2 r2 B3 r3 A1 A2 A3 :=
  ⟨h.m1.blocks (ht _ h.m1.lt t1.1) fun i hi => ht _ (h.m1.row i hi).lt (t1.2.2.2 i hi).1, h.m2.blocks (ht _ h.m2.lt t1.2.1) fun i hi => ht _ (h.m2.row i hi).lt (t1.2.2.2 i hi).2.1, h.m3.blocks (ht _ h.m3.lt t1.2.2.1) fun i hi => ht _ (h.m3.row i hi).lt (t1.2.2.2 i hi).2.2, h.a12, h.a13, h.a23⟩
theorem EdgAt.below {w' : World} (h : EdgAt w lo n B1 r1 B2 r2 B3 r3 A1 A2 A3) (hb : Below w.heap.size w w') : EdgAt w' lo n B1 r1 B2 r2 B3 r3 A1 A2 A3 := ⟨h.m1.below hb, h.m2.below hb, h.m3.below hb, h.a12, h.a13, h.a23⟩
end
/-- All lies as it lay but the rows of Seen and Anew. -/
def KeepX (W0 W : World) (n : Nat) (r2 r3 : Nat → Nat) : Prop := ∀ b, b < W0.heap.size → (∀ i, i < n → b ≠ r2 i ∧ b ≠ r3 i) → W.heap[b]? = W0.heap[b]?
theorem KeepX.refl (W : World) (n : Nat) (r2 r3 : Nat → Nat) : KeepX W W n r2 r3 := fun _ _ _ => rfl
theorem KeepX.set2 {W0 W : World} {n : Nat} {r2 r3 : Nat → Nat} (h : KeepX W0 W n r2 r3) {i : Nat} (hi : i < n) (k : Nat) (u : Value) : KeepX W0 (W.setCell ⟨r2 i, k, none⟩ u) n r2 r3 := fun b hb hx => (Below.heap_setCell W ⟨r2 i, k, none⟩ u b (hx i hi).1).trans (h b hb hx)
theorem KeepX.set3 {W0 W : World} {n : Nat} {r2 r3 : Nat → Nat} (h : KeepX W0 W n r2 r3) {i : Nat} (hi : i < n) (k : Nat) (u : Value) : KeepX W0 (W.setCell ⟨r3 i, k, none⟩ u) n r2 r3 := fun b hb hx => (Below.heap_setCell W ⟨r3 i, k, none⟩ u b (hx i hi).2).trans (h b hb hx)
theorem KeepX.below {W0 W W' : World} {n : Nat} {r2 r3 : Nat → Nat} (h : KeepX W0 W n r2 r3) (hs : W0.heap.size ≤ W.heap.size) (hb : Below W.heap.size W W') : KeepX W0 W' n r2 r3 := fun b hb' hx => (hb.block b (by omega)).trans (h b hb' hx)
theorem KeepX.cell {W0 W : World} {n : Nat} {r2 r3 : Nat → Nat} (h : KeepX W0 W n r2 r3) {g j : Nat} {v : Value} (hc : W0.cell? ⟨g, j, none⟩ = some v) (hx : ∀ i, i < n → g ≠ r2 i ∧ g ≠ r3 i) : W.cell? ⟨g, j, none⟩ = some v :=
  (World.cell?_of_block (a := ⟨g, j, none⟩) (h g (World.block_lt_of_cell? W0 _ hc) hx)).trans hc
/-- A row of bools holds nothing but bools. -/
theorem BitsAt.ne_cell {w : World} {g n : Nat} {f : Nat → Bool} (h : BitsAt w g n f) (hn : 0 < n) {b : Nat} {v : Value} (hc : w.cell? ⟨b, 0, none⟩ = some v) (hv : ∀ x, v ≠ .bool x) : b ≠ g := fun e => by
  subst e
  rw [h.bit 0 hn] at hc
  injection hc with hc
  exact hv _ hc.symm
end Go.Proofs.YtaopigjhdkdklaaDoor

namespace Go.Proofs.YtaopigjhdkdklaaDoor
open Go.RowKit Go.Shelf

theorem keeps_below {W W' : World} (h : Below W.heap.size W W') : KeepsOthers W W' := ⟨h.size, fun k _ hk _ => (h.block k (Array.getElem?_eq_some_iff.1 hk).1).trans hk⟩
/-- A round from W on, W4 being where the loop began. -/
structure MidS (W4 W W' : World) (n₀ L H lo n B1 : Nat) (r1 : Nat → Nat) (B2 : Nat) (r2 : Nat → Nat) (B3 : Nat) (r3 : Nat → Nat) (Bx : Nat) (A1 A2 A3 : Nat → Nat → Bool) : Prop where
  edg : EdgAt W' lo n B1 r1 B2 r2 B3 r3 A1 A2 A3
  kx : KeepX W4 W' n r2 r3
  b4 : Below n₀ W4 W'
  bW : Below n₀ W W'
  oth : KeepsOthers W W'
  its : ∀ b, L ≤ b → b < H → W'.heap[b]? = W.heap[b]?
  bx : W'.heap[Bx]? = W.heap[Bx]?
section
variable {W4 W W' W'' : World} {n₀ L H lo n B1 B2 B3 Bx : Nat} {r1 r2 r3 : Nat → Nat} {A1 A2 A3 : Nat → Nat → Bool}
theorem MidS.below (h : MidS W4 W W' n₀ L H lo n B1 r1 B2 r2 B3 r3 Bx A1 A2 A3) (hb : Below W'.heap.size W' W'') (h4 : n₀ ≤ W4.heap.size) (hH : H ≤ W4.heap.size) (hx : Bx < W.heap.size) : MidS W4 W W'' n₀ L H lo n B1 r1 B2 r2 B3 r3 Bx A1 A2 A3 := by
  have s4 := h.b4.size
  have sW := h.bW.size
  exact ⟨h.edg.below hb, h.kx.below s4 hb, h.b4.trans (hb.mono (by omega)), h.bW.trans (hb.mono (by omega)), h.oth.trans (keeps_below hb), fun b h1 h2 => (hb.block b (by omega)).trans (h.its b h1 h2), (hb.block Bx (by omega)).trans h.bx⟩
theorem MidS.put2 (h : MidS W4 W W' n₀ L H lo n B1 r1 B2 r2 B3 r3 Bx A1 A2 A3) {i k : Nat} (hi : i < n) (hk : k < n) (hn : n₀ ≤ r2 i) (hL : r2 i < L) (hne : Bx ≠ r2 i) : MidS W4 W (W'.setCell ⟨r2 i, k, none⟩ (.bool true)) n₀ L H lo n B1 r1 B2 r2 B3 r3 Bx A1 (fun a b => if a = i ∧ b = k then true else A2 a b) A3 :=
  ⟨h.edg.put2 hi hk, h.kx.set2 hi k _, h.b4.setCell (p := ⟨r2 i, k, none⟩) hn _, h.bW.setCell (p := ⟨r2 i, k, none⟩) hn _, h.oth.trans (KeepsOthers.setCell _ _ _), fun b h1 h2 => (Below.heap_setCell W' ⟨r2 i, k, none⟩ _ b (by show b ≠ r2 i; omega)).trans (h.its b h1 h2), (Below.heap_setCell W' ⟨r2 i, k, none⟩ _ Bx hne).trans h.bx⟩
theorem MidS.put3 (h : MidS W4 W W' n₀ L H lo n B1 r1 B2 r2 B3 r3 Bx A1 A2 A3) {i k : Nat} (hi : i < n) (hk : k < n) (hn : n₀ ≤ r3 i) (hL : r3 i < L) (hne : Bx ≠ r3 i) : MidS W4 W (W'.setCell ⟨r3 i, k, none⟩ (.bool true)) n₀ L H lo n B1 r1 B2 r2 B3 r3 Bx A1 A2 (fun a b => if a = i ∧ b = k then true else A3 a b) :=
  ⟨h.edg.put3 hi hk, h.kx.set3 hi k _, h.b4.setCell (p := ⟨r3 i, k, none⟩) hn _, h.bW.setCell (p := ⟨r3 i, k, none⟩) hn _, h.oth.trans (KeepsOthers.setCell _ _ _), fun b h1 h2 => (Below.heap_setCell W' ⟨r3 i, k, none⟩ _ b (by show b ≠ r3 i; omega)).trans (h.its b h1 h2), (Below.heap_setCell W' ⟨r3 i, k, none⟩ _ Bx hne).trans h.bx⟩
/-- What lay elsewhere when the loop began lies there still. -/
theorem MidS.old (h : MidS W4 W W' n₀ L H lo n B1 r1 B2 r2 B3 r3 Bx A1 A2 A3) (hn : 0 < n) (hE4 : ∀ i, i < n → (∃ f, BitsAt W4 (r2 i) n f) ∧ ∃ f, BitsAt W4 (r3 i) n f) {g : Nat} {v : Value} (hc : W4.cell? ⟨g, 0, none⟩ = some v) (hv : ∀ x, v ≠ .bool x) : W'.heap[g]? = W4.heap[g]? :=
  h.kx g (World.block_lt_of_cell? W4 _ hc) fun i hi => by
    obtain ⟨⟨f, hf⟩, ⟨f', hf'⟩⟩ := hE4 i hi
    exact ⟨hf.ne_cell hn hc hv, hf'.ne_cell hn hc hv⟩
end
theorem wpListIn_load_ver {F : Fence} {n : Nat} {P : Program} {ops : Array Oper} {rest : List Oper} {op : Oper} {a : Act} {w : World} {Q : Exit → Act → World → Prop} (hw : Region.wanted op (yielded ops a.tmps) = true) (ty : TypeId) (x : Operand) (ho : op.op = .load ty x)
    (b : Nat) (hx : a.eval x = .pointer (some ⟨b, 0, none⟩)) (cs : List Value) (d : TypeDesc) (hc : w.rangeAt b 0 cs) (hu : P.underlying ty = some d) (hd : d.isRow = true) (hi : (P.info? ty).map (·.size) = some cs.length)
    (h : wpListIn F n P ops Q rest (a.put op.dst (.agg cs.toArray)) w) : wpListIn F n P ops Q (op :: rest) a w := by
  unfold wpListIn
  rw [if_pos hw]
  unfold Oper.wpIn
  refine ⟨fun f hf => ?_, ?_⟩
  · simp [Oper.about, ho] at hf
  · rw [Oper.semAt_eq _ _ _ (fun c e => by rw [ho] at e; cases e)]
    unfold execOp
    simp only [ho, hx, Instr.loadAt, Instr.sureAddr, Sem.run_bind, Sem.run_pure, Result.andThen_ok, run_loadVar_mid w b 0 ty cs d hc hu hd hi]
    exact h
theorem rdT_mem {t : ITx} {m : Nat} {o : IOp} (h : o ∈ rdT t m) : t.com = true ∧ o ∈ t.ops ∧ o.wr = false := by
  unfold rdT at h
  split at h
  · rename_i hc
    obtain ⟨h1, h2⟩ := List.mem_filter.1 h
    exact ⟨hc, List.mem_of_mem_take h1, by simpa using h2⟩
  · cases h
theorem rdI_mem {s : ISt} {r : Nat × IOp} (h : r ∈ rdI s) : r.1 < s.txs.length ∧ comI s (r.1 : Int) = true ∧ r.2 ∈ (txI s (r.1 : Int)).ops ∧ r.2.wr = false := by
  unfold rdI rdN at h
  obtain ⟨i, hi, hm⟩ := List.mem_flatMap.1 h
  obtain ⟨o, ho, e⟩ := List.mem_map.1 hm
  subst e
  obtain ⟨h1, h2, h3⟩ := rdT_mem ho
  exact ⟨List.mem_range.1 hi, h1, h2, h3⟩
/-- What a story tells that may be of a read. -/
theorem rd_ok {s : ISt} (ok : IOk s) {r : Nat × IOp} (h : r ∈ rdI s) : r.1 < s.txs.length ∧ comI s (r.1 : Int) = true ∧ (0 ≤ r.2.key ∧ r.2.key < 8) ∧ (r.2.frm = -1 ∨ (0 ≤ r.2.frm ∧ r.2.frm < s.txs.length ∧ 0 ≤ r.2.num ∧ r.2.num < wroI s r.2.frm r.2.key ∧ wroI s r.2.frm r.2.key ≤ 60)) := by
  obtain ⟨h1, h2, h3, h4⟩ := rdI_mem h
  rw [txI_at h1] at h3
  have ho := (ok.ops _ (List.getElem_mem h1)).2 _ h3
  have hr := (fltP_zero ho).2.2.2.2.2 h4
  refine ⟨h1, h2, hr.1, ?_⟩
  rcases hr.2 with e | ⟨a, b, c, d⟩
  · exact .inl e
  · refine .inr ⟨a, b, c, d, ?_⟩
    obtain ⟨f, hf⟩ := Int.eq_ofNat_of_zero_le a
    rw [hf]
    unfold wroI
    rw [txI_at (by omega)]
    unfold wroT
    exact Nat.le_trans List.countP_le_length (ok.ops _ (List.getElem_mem (by omega))).1
end Go.Proofs.YtaopigjhdkdklaaDoor
